/-
  What is proved: as each theorem says.
  Conditions: as each theorem says.
-/
import Derived.Test.YtamhlgflbacjgaaGreatF00
import Derived.Test.YtamhlgflbacjgaaGreatF15
import Derived.Test.YtamhlgflbacjgaaGreatProg
import Derived.WalkKit
import Derived.WalkSpells
import Derived.WalkLawsBesides
import Derived.LaidEql
import Derived.Stop.Asserts
import Derived.RowKitTokens
import Derived.Test.YtamhlgflbacjgaaGreatF01
set_option maxRecDepth 100000
set_option maxHeartbeats 16000000
namespace Go.Proofs.YtamhlgflbacjgaaGreat
open Go.RowKit Go.Sort
theorem rElem_any (p:OpM) (qa:Option Addr) (qn qc:Nat) (x:Pr) (w:World):
 Calls Tryz.prog 153 #[.agg (opB p p.ins (.slice qa qn qc) x.1 x.2)] w fun e w'=>e=.returned (refV (elemM p x))∧Below w.heap.size w w':=by
 unfold elemM;obtain⟨ok,oo,oy,oe,oi,⟨wk,wn,wt,wo,wa⟩,op⟩:=p;dsimp only at *;cases oi with
 | true=>
  rw[if_pos rfl];go_enter Tryz.func153,Tryz.ntmps153
  go_wp2;go_returns;exact⟨rfl,(bAl _ _).alloc (by simp) _⟩
 | false=>
  rw[if_neg (by simp)];go_enter Tryz.func153,Tryz.ntmps153
  go_wp2;go_returns;exact⟨rfl,(bAl _ _).alloc (by simp) _⟩
theorem rPlace_any (p o:OpM) (qa ra:Option Addr) (qn qc rn rc:Nat) (x y:Pr) (w:World):
 Calls Tryz.prog 131 #[.agg (opB p p.ins (.slice qa qn qc) x.1 x.2),.agg (opB o o.ins (.slice ra rn rc) y.1 y.2)] w fun e w'=>e=.returned (.bool (placeB p x o y))∧Below w.heap.size w w':=by
 have b1:=bAl w (.cells (opB p p.ins (.slice qa qn qc) x.1 x.2) 131);have b2:Below (w.heap.size+1) (w.alloc (.cells (opB p p.ins (.slice qa qn qc) x.1 x.2) 131)) ((w.alloc (.cells (opB p p.ins (.slice qa qn qc) x.1 x.2) 131)).alloc (.cells (opB o o.ins (.slice ra rn rc) y.1 y.2) 131)):=(Below.refl _ _).alloc (by simp) _;have n1:((w.alloc (.cells (opB p p.ins (.slice qa qn qc) x.1 x.2) 131)).alloc (.cells (opB o o.ins (.slice ra rn rc) y.1 y.2) 131)).heap[w.heap.size]?=some (.cells (opB p p.ins (.slice qa qn qc) x.1 x.2) 131):=(b2.block _ (by omega)).trans (heap_alloc_new w _);have n2:((w.alloc (.cells (opB p p.ins (.slice qa qn qc) x.1 x.2) 131)).alloc (.cells (opB o o.ins (.slice ra rn rc) y.1 y.2) 131)).heap[w.heap.size+1]?=some (.cells (opB o o.ins (.slice ra rn rc) y.1 y.2) 131):=by
  have:=heap_alloc_new (w.alloc (.cells (opB p p.ins (.slice qa qn qc) x.1 x.2) 131)) (.cells (opB o o.ins (.slice ra rn rc) y.1 y.2) 131);simpa using this
 have bb:Below w.heap.size w ((w.alloc (.cells (opB p p.ins (.slice qa qn qc) x.1 x.2) 131)).alloc (.cells (opB o o.ins (.slice ra rn rc) y.1 y.2) 131)):=b1.trans (b2.mono (by omega));have E1:=rElem_any p qa qn qc x ((w.alloc (.cells (opB p p.ins (.slice qa qn qc) x.1 x.2) 131)).alloc (.cells (opB o o.ins (.slice ra rn rc) y.1 y.2) 131));obtain⟨e1,he1⟩:=gNz (elemM p x:Pr);obtain⟨e2,he2⟩:=gNz (elemM o y:Pr);rw[he1] at E1;have HN:=hY3 n1 n2 bb;have HE:=hY2 he1 he2;obtain⟨pb,hpb⟩:=gNz (placeB p x o y:Bool);rw[hpb];have HPB:Hid (placeB p x o y=pb):=hpb;clear hpb;have k0:((w.alloc (.cells (opB p p.ins (.slice qa qn qc) x.1 x.2) 131)).alloc (.cells (opB o o.ins (.slice ra rn rc) y.1 y.2) 131)).cell? ⟨w.heap.size,0,none⟩=some (.int .i64 p.kind):=cLo n1 0;have k1:((w.alloc (.cells (opB p p.ins (.slice qa qn qc) x.1 x.2) 131)).alloc (.cells (opB o o.ins (.slice ra rn rc) y.1 y.2) 131)).cell? ⟨w.heap.size,1,none⟩=some (.int .i64 p.obj.1):=cLo n1 1;have k2:((w.alloc (.cells (opB p p.ins (.slice qa qn qc) x.1 x.2) 131)).alloc (.cells (opB o o.ins (.slice ra rn rc) y.1 y.2) 131)).cell? ⟨w.heap.size,2,none⟩=some (.int .i64 p.obj.2):=cLo n1 2;have k3:((w.alloc (.cells (opB p p.ins (.slice qa qn qc) x.1 x.2) 131)).alloc (.cells (opB o o.ins (.slice ra rn rc) y.1 y.2) 131)).cell? ⟨w.heap.size,3,none⟩=some (.string p.key):=cLo n1 3;have k4:((w.alloc (.cells (opB p p.ins (.slice qa qn qc) x.1 x.2) 131)).alloc (.cells (opB o o.ins (.slice ra rn rc) y.1 y.2) 131)).cell? ⟨w.heap.size,4,none⟩=some (.int .i64 p.elem.1):=cLo n1 4;have k5:((w.alloc (.cells (opB p p.ins (.slice qa qn qc) x.1 x.2) 131)).alloc (.cells (opB o o.ins (.slice ra rn rc) y.1 y.2) 131)).cell? ⟨w.heap.size,5,none⟩=some (.int .i64 p.elem.2):=cLo n1 5;have k6:((w.alloc (.cells (opB p p.ins (.slice qa qn qc) x.1 x.2) 131)).alloc (.cells (opB o o.ins (.slice ra rn rc) y.1 y.2) 131)).cell? ⟨w.heap.size,6,none⟩=some (.bool p.ins):=cLo n1 6;have k7:((w.alloc (.cells (opB p p.ins (.slice qa qn qc) x.1 x.2) 131)).alloc (.cells (opB o o.ins (.slice ra rn rc) y.1 y.2) 131)).cell? ⟨w.heap.size,7,none⟩=some (.int .i64 p.val.k):=cLo n1 7;have k8:((w.alloc (.cells (opB p p.ins (.slice qa qn qc) x.1 x.2) 131)).alloc (.cells (opB o o.ins (.slice ra rn rc) y.1 y.2) 131)).cell? ⟨w.heap.size,8,none⟩=some (.int .i64 p.val.n):=cLo n1 8;have k9:((w.alloc (.cells (opB p p.ins (.slice qa qn qc) x.1 x.2) 131)).alloc (.cells (opB o o.ins (.slice ra rn rc) y.1 y.2) 131)).cell? ⟨w.heap.size,9,none⟩=some (.string p.val.t):=cLo n1 9;have k10:((w.alloc (.cells (opB p p.ins (.slice qa qn qc) x.1 x.2) 131)).alloc (.cells (opB o o.ins (.slice ra rn rc) y.1 y.2) 131)).cell? ⟨w.heap.size,10,none⟩=some (.int .i64 p.val.o):=cLo n1 10
 have k11:((w.alloc (.cells (opB p p.ins (.slice qa qn qc) x.1 x.2) 131)).alloc (.cells (opB o o.ins (.slice ra rn rc) y.1 y.2) 131)).cell? ⟨w.heap.size,11,none⟩=some (.int .i64 p.val.a):=cLo n1 11;have k12:((w.alloc (.cells (opB p p.ins (.slice qa qn qc) x.1 x.2) 131)).alloc (.cells (opB o o.ins (.slice ra rn rc) y.1 y.2) 131)).cell? ⟨w.heap.size,12,none⟩=some (.slice qa qn qc):=cLo n1 12;have k13:((w.alloc (.cells (opB p p.ins (.slice qa qn qc) x.1 x.2) 131)).alloc (.cells (opB o o.ins (.slice ra rn rc) y.1 y.2) 131)).cell? ⟨w.heap.size,13,none⟩=some (.int .i64 x.1):=cLo n1 13;have k14:((w.alloc (.cells (opB p p.ins (.slice qa qn qc) x.1 x.2) 131)).alloc (.cells (opB o o.ins (.slice ra rn rc) y.1 y.2) 131)).cell? ⟨w.heap.size,14,none⟩=some (.int .i64 x.2):=cLo n1 14;clear b1 b2 n1 n2 bb he1 he2;unfold refV at E1;go_enter Tryz.func131,Tryz.ntmps131
 go_wp2_with fail;go_fit E1;rintro e w1 ⟨rfl,b1⟩;clear E1 k0 k1 k2 k3 k4 k5 k6 k7 k8 k9 k10 k11 k12 k13 k14;have bA:=bAl w1 (.cells #[.int .i64 e1.1,.int .i64 e1.2] 49);have HN1:Hid ((w1.alloc (.cells #[.int .i64 e1.1,.int .i64 e1.2] 49)).heap[w.heap.size]?=some (.cells (opB p p.ins (.slice qa qn qc) x.1 x.2) 131)∧(w1.alloc (.cells #[.int .i64 e1.1,.int .i64 e1.2] 49)).heap[w.heap.size+1]?=some (.cells (opB o o.ins (.slice ra rn rc) y.1 y.2) 131)∧Below w.heap.size w (w1.alloc (.cells #[.int .i64 e1.1,.int .i64 e1.2] 49))∧(w1.alloc (.cells #[.int .i64 e1.1,.int .i64 e1.2] 49)).heap[w1.heap.size]?=some (.cells #[.int .i64 e1.1,.int .i64 e1.2] 49)):=by
  have h1:=heap_below (heap_below HN.out.1 b1 lRf) bA lRf;have h2:=heap_below (heap_below HN.out.2.1 b1 lRf) bA lRf;have h3:=HN.out.2.2.trans (b1.mono HN.out.2.2.size);exact⟨h1,h2,h3.trans (bA.mono h3.size),heap_alloc_new w1 _⟩
 clear b1 bA HN;go_upto_region 2 with fail
 obtain⟨xb,hxb⟩:=gNz (w1.heap.size);rw[hxb] at HN1 ⊢;generalize (w1.alloc (.cells #[.int .i64 e1.1,.int .i64 e1.2] 49))=W1 at *;clear hxb;have E2:=rElem_any o ra rn rc y W1;rw[HE.out.2] at E2;unfold refV at E2;obtain⟨k0,k1,k2,k3,k4,k5,k6,k7,k8,k9,k10,k11,k12,k13,k14,-⟩:=cLs HN1.out.2.1;go_wp2_with fail;go_fit E2;rintro e w2 ⟨rfl,b2⟩;clear E2 k0 k1 k2 k3 k4 k5 k6 k7 k8 k9 k10 k11 k12 k13 k14;have bB:=bAl w2 (.cells #[.int .i64 e2.1,.int .i64 e2.2] 49);have HN2:Hid ((w2.alloc (.cells #[.int .i64 e2.1,.int .i64 e2.2] 49)).heap[w.heap.size]?=some (.cells (opB p p.ins (.slice qa qn qc) x.1 x.2) 131)∧(w2.alloc (.cells #[.int .i64 e2.1,.int .i64 e2.2] 49)).heap[w.heap.size+1]?=some (.cells (opB o o.ins (.slice ra rn rc) y.1 y.2) 131)∧Below w.heap.size w (w2.alloc (.cells #[.int .i64 e2.1,.int .i64 e2.2] 49))∧(w2.alloc (.cells #[.int .i64 e2.1,.int .i64 e2.2] 49)).heap[xb]?=some (.cells #[.int .i64 e1.1,.int .i64 e1.2] 49)∧(w2.alloc (.cells #[.int .i64 e2.1,.int .i64 e2.2] 49)).heap[w2.heap.size]?=some (.cells #[.int .i64 e2.1,.int .i64 e2.2] 49)):=by
  have h1:=heap_below (heap_below HN1.out.1 b2 lRf) bB lRf;have h2:=heap_below (heap_below HN1.out.2.1 b2 lRf) bB lRf;have h3:=HN1.out.2.2.1.trans (b2.mono HN1.out.2.2.1.size);have h4:=heap_below (heap_below HN1.out.2.2.2 b2 lRf) bB lRf;exact⟨h1,h2,h3.trans (bB.mono h3.size),h4,heap_alloc_new w2 _⟩
 clear b2 bB HN1;go_upto_region 3 with fail
 obtain⟨yb,hyb⟩:=gNz (w2.heap.size);rw[hyb] at HN2 ⊢;generalize (w2.alloc (.cells #[.int .i64 e2.1,.int .i64 e2.2] 49))=W2 at *;clear hyb;obtain⟨-,k1,k2,k3,-⟩:=cLs HN2.out.1;obtain⟨-,l1,l2,l3,-⟩:=cLs HN2.out.2.1;obtain⟨m0,m1,-⟩:=cLs HN2.out.2.2.2.1;obtain⟨o0,o1,-⟩:=cLs HN2.out.2.2.2.2;have Q1:=eqD p.obj o.obj;have Q3:=eqD e1 e2;obtain⟨s1,h1⟩:=gNz (samePr p.obj o.obj:Bool);obtain⟨s2,h2⟩:=gNz ((p.key.toList==o.key.toList):Bool);obtain⟨s3,h3⟩:=gNz (samePr e1 e2:Bool);rw[h1] at Q1;rw[h3] at Q3;have HZ:Hid (pb=(s1&&s2&&s3)):=by
  show _=_;rw[←HPB.out];unfold placeB;rw[HE.out.1,HE.out.2,h1,h2,h3]
 have HB:Hid (Below w.heap.size w W2):=HN2.out.2.2.1;clear HN2 HPB HE h1 h3;cases s1 with
 | false=>
  go_wp2;go_ret;exact⟨by rw[HZ.out];rfl,HB.out⟩
 | true=>
  cases s2 with
  | false=>
   go_wp2;go_ret;exact⟨by rw[HZ.out];rfl,HB.out⟩
  | true=>
   cases s3 with
   | false=>
    go_wp2;go_ret;exact⟨by rw[HZ.out];rfl,HB.out⟩
   | true=>
    go_wp2;go_ret;exact⟨by rw[HZ.out];rfl,HB.out⟩
end Go.Proofs.YtamhlgflbacjgaaGreat
namespace Go.Proofs.YtamhlgflbacjgaaGreat
namespace asErr
open Go.RowKit Go.Extern.Stop Go.Stop Go.Extern
end asErr
end Go.Proofs.YtamhlgflbacjgaaGreat
namespace Go.Proofs.YtamhlgflbacjgaaGreat
open Go.RowKit
theorem rLess_any (n a m b:Int) (w:World):
 Calls Tryz.prog 133 #[.agg #[.int .i64 n,.int .i64 a],.agg #[.int .i64 m,.int .i64 b]] w fun e w'=>e=.returned (.bool (lessB n a m b))∧Below w.heap.size w w':=by
 unfold lessB;by_cases h:n=m
 ·subst h;go_enter Tryz.func133,Tryz.ntmps133
  go_wp2;go_ret;exact⟨by simp,(bAl _ _).alloc (by simp) _⟩
 ·have h':(n==m)=false:=by simp[h]
  go_enter Tryz.func133,Tryz.ntmps133
  go_wp2;go_ret;exact⟨by simp,(bAl _ _).alloc (by simp) _⟩
theorem rRoot_yes (w:World):Calls Tryz.prog 26 #[.agg #[.int .i64 0,.int .i64 0]] w fun e w'=>e=.returned (.bool true)∧Below w.heap.size w w':=by
 go_enter Tryz.func26,Tryz.ntmps26
 go_wp2;go_ret;exact⟨rfl,bAl _ _⟩
theorem rRoot_no (n a:Int) (w:World) (h:¬(n=0∧a=0)):Calls Tryz.prog 26 #[.agg #[.int .i64 n,.int .i64 a]] w fun e w'=>e=.returned (.bool false)∧Below w.heap.size w w':=by
 by_cases h0:n=0
 ·have h1:(a==0)=false:=by simp only[beq_eq_false_iff_ne];exact fun e=>h ⟨h0,e⟩
  subst h0;clear h;go_enter Tryz.func26,Tryz.ntmps26
  go_wp2;go_ret;exact⟨rfl,bAl _ _⟩
 ·have h1:(n==0)=false:=by simp only[beq_eq_false_iff_ne];exact h0
  clear h;go_enter Tryz.func26,Tryz.ntmps26
  go_wp2;go_ret;exact⟨rfl,bAl _ _⟩
theorem rReal_yes (n a:Int) (w:World) (h:Real n a):Calls Tryz.prog 129 #[.agg #[.int .i64 n,.int .i64 a]] w fun e w'=>e=.returned (.bool true)∧Below w.heap.size w w':=by
 obtain⟨h1,h2,h3,h4⟩:=h;go_enter Tryz.func129,Tryz.ntmps129
 go_wp2;go_ret;exact⟨by simp,bAl _ _⟩
theorem rReal_no (n a:Int) (w:World) (h:¬Real n a):Calls Tryz.prog 129 #[.agg #[.int .i64 n,.int .i64 a]] w fun e w'=>e=.returned (.bool false)∧Below w.heap.size w w':=by
 unfold Real at h;by_cases h1:1≤n
 ·by_cases h2:n≤1000000
  ·by_cases h3:1≤a
   ·have h4:¬a≤99:=fun e=>h ⟨h1,h2,h3,e⟩;clear h;go_enter Tryz.func129,Tryz.ntmps129
    go_wp2;go_ret;exact⟨by simp,bAl _ _⟩
   ·clear h;go_enter Tryz.func129,Tryz.ntmps129
    go_wp2;go_ret;exact⟨by simp,bAl _ _⟩
  ·clear h;go_enter Tryz.func129,Tryz.ntmps129
   go_wp2;go_ret;exact⟨by simp,bAl _ _⟩
 ·clear h;go_enter Tryz.func129,Tryz.ntmps129
  go_wp2;go_ret;exact⟨by simp,bAl _ _⟩
end Go.Proofs.YtamhlgflbacjgaaGreat
