/-
  What is proved: as each theorem says.
  Conditions: as each theorem says.
-/
import Derived.Test.YtamhlgflbacjgaaGreatF00
import Derived.Test.YtamhlgflbacjgaaGreatF09
import Derived.Test.YtamhlgflbacjgaaGreatF04
set_option maxRecDepth 100000
set_option maxHeartbeats 16000000
namespace Go.Proofs.YtamhlgflbacjgaaGreat
open Go.RowKit Go.Maps
theorem dRoot_any (n a:Int) (w:World):Calls Tryz.prog 141 #[.agg #[.int .i64 n,.int .i64 a]] w fun e w'=>e=.returned (.bool (rootB (n,a)))∧Below w.heap.size w w':=by
 unfold rootB;by_cases h:n=0
 ·subst h;by_cases h2:a=0
  ·subst h2;go_enter Tryz.func141,Tryz.ntmps141
   go_wp2;go_ret;exact⟨by simp,bAl _ _⟩
  ·have q:(a==0)=false:=by simp[h2]
   go_enter Tryz.func141,Tryz.ntmps141
   go_wp2;go_ret;exact⟨by simp[h2],bAl _ _⟩
 ·have q:(n==0)=false:=by simp[h]
  go_enter Tryz.func141,Tryz.ntmps141
  go_wp2;go_ret;exact⟨by simp[h],bAl _ _⟩
def objKindM (cs:List Chg) (a:Pr):Int:=if rootB a=true then 5 else if (lookM cs a).1.kind=2 then (lookM cs a).1.val.k else 0
def keyFitsM (cs:List Chg) (o:OpM):Bool:=if objKindM cs o.obj=5 then !(o.key.toList==[]) else if objKindM cs o.obj=6 then o.key.toList==[] else false
def elemFitsM (cs:List Chg) (o:OpM):Bool:=rootB o.elem || ((lookM cs o.elem).1.ins&&samePr (lookM cs o.elem).1.obj o.obj)
theorem objKind_any (v:Value) (l:List CX) (a:Pr) (w:World) (hv:IsChgs w v l):
 Calls Tryz.prog 140 #[refV a,v] w fun e w'=>e=.returned (.int .i64 (objKindM (l.map (·.c)) a))∧Below w.heap.size w w':=by
 obtain⟨a1,a2⟩:=a;have b0:=bAl w (.cells #[.int .i64 a1,.int .i64 a2] 49);have HA:=hY3 b0 hv (heap_alloc_new w (.cells #[.int .i64 a1,.int .i64 a2] 49));have E1:=dRoot_any a1 a2 (w.alloc (.cells #[.int .i64 a1,.int .i64 a2] 49));obtain⟨va,vc,rfl,_⟩:=hv;clear b0;unfold objKindM;cases hr:rootB (a1,a2) with
 | true=>
  rw[hr] at E1;go_enter Tryz.func140,Tryz.ntmps140
  go_wp2_with fail;go_fit E1;rintro e w1 ⟨rfl,b1⟩;have HB:Hid (Below w.heap.size w w1):=HA.out.1.trans (b1.mono HA.out.1.size);clear b1 E1;go_wp2;go_ret;exact⟨by simp,HB.out⟩
 | false=>
  rw[hr] at E1;obtain⟨⟨⟨ok,oo,oy,oe,oi,⟨wk,wn,wt,wo,wa⟩,op⟩,x1,x2⟩,hp⟩:∃p,lookM (l.map (·.c)) (a1,a2)=p:=⟨_,rfl⟩
  rw[hp];have HP:Hid _:=hp;clear hp;dsimp only;obtain⟨rk,hrk⟩:=gNz ((if (false:Bool)=true then (5:Int) else if ok=2 then wk else 0):Int);rw[hrk];simp only[Bool.false_eq_true,if_false] at hrk;have HRK:Hid _:=hrk;clear hrk;go_enter Tryz.func140,Tryz.ntmps140
  go_wp2_with fail;go_fit E1;rintro e w1 ⟨rfl,b1⟩;have hb1:Below w.heap.size w w1:=HA.out.1.trans (b1.mono HA.out.1.size);have X:=heap_below HA.out.2.2 b1 lRf;obtain⟨c0,c1,-⟩:=cLs X;have E2:=lookUp_any _ l (a1,a2) w1 (HA.out.2.1.below hb1);rw[HP.out] at E2;have s0:=lt_of_heap X;have HB:Hid _:=hb1;clear b1 E1 hb1 X;go_wp2_with fail;go_fit E2;rintro e w2 ⟨⟨sa,sn,sc,rfl⟩,b2⟩;have HB2:Hid (∀o,Below w.heap.size w (w2.alloc o)):=fun o=>(HB.out.trans (b2.mono HB.out.size)).alloc (Nat.le_trans HB.out.size b2.size) o;clear b2 E2 c0 c1 s0;simp only[knVal,knCells,opCells,List.cons_append,List.nil_append];by_cases h2:ok=2
  ·subst h2;go_wp2;go_ret;exact⟨by rw[←HRK.out];simp,HB2.out _⟩
  ·have h2b:(ok==2)=false:=by simp[h2]
   go_wp2;go_ret;exact⟨by rw[←HRK.out];simp[h2],HB2.out _⟩
theorem keyFits_any (v:Value) (l:List CX) (o:OpM) (pa:Option Addr) (pn pc:Nat) (w:World) (hv:IsChgs w v l):
 Calls Tryz.prog 108 #[opVal o (.slice pa pn pc),v] w fun e w'=>e=.returned (.bool (keyFitsM (l.map (·.c)) o))∧Below w.heap.size w w':=by
 obtain⟨ok,oo,oy,oe,oi,⟨wk,wn,wt,wo,wa⟩,op⟩:=o;simp only[opVal,opCells];have b0:=bAl w (.cells #[.int .i64 ok,.int .i64 oo.1,.int .i64 oo.2,.string oy,.int .i64 oe.1,.int .i64 oe.2,.bool oi,.int .i64 wk,.int .i64 wn,.string wt,.int .i64 wo,.int .i64 wa,.slice pa pn pc] 62);have x0:=heap_alloc_new w (.cells #[.int .i64 ok,.int .i64 oo.1,.int .i64 oo.2,.string oy,.int .i64 oe.1,.int .i64 oe.2,.bool oi,.int .i64 wk,.int .i64 wn,.string wt,.int .i64 wo,.int .i64 wa,.slice pa pn pc] 62);have E1:=objKind_any v l oo _ (hv.below b0);have HA:=hY2 b0 x0;obtain⟨va,vc,rfl,_⟩:=hv;clear b0 x0;unfold keyFitsM;dsimp only;generalize objKindM (l.map (·.c)) oo=kk at *;obtain⟨eb,hem⟩:=gNz ((oy.toList==[]):Bool);obtain⟨rk,hrk⟩:=gNz ((if kk=5 then !(oy.toList==[]) else if kk=6 then oy.toList==[] else false):Bool);rw[hrk];rw[hem] at hrk;have HRK:Hid _:=hrk;clear hrk;go_enter Tryz.func108,Tryz.ntmps108
 go_wp2_with fail;go_fit E1;rintro e w1 ⟨rfl,b1⟩;have X:=heap_below HA.out.2 b1 lRf;obtain⟨-,-,-,c0,-⟩:=cLs X;have HB:Hid (Below w.heap.size w w1):=HA.out.1.trans (b1.mono HA.out.1.size);have s0:=lt_of_heap X;clear b1 E1 X;by_cases h5:kk=5
 ·subst h5;go_wp2;go_ret;exact⟨by rw[←HRK.out];simp,HB.out⟩
 ·have h5b:(kk==5)=false:=by simp[h5]
  by_cases h6:kk=6
  ·subst h6;go_wp2;go_ret;exact⟨by rw[←HRK.out];simp,HB.out⟩
  ·have h6b:(kk==6)=false:=by simp[h6]
   go_wp2;go_ret;exact⟨by rw[←HRK.out];simp[h5,h6],HB.out⟩
theorem elemFits_any (v:Value) (l:List CX) (o:OpM) (pa:Option Addr) (pn pc:Nat) (w:World) (hv:IsChgs w v l):
 Calls Tryz.prog 109 #[opVal o (.slice pa pn pc),v] w fun e w'=>e=.returned (.bool (elemFitsM (l.map (·.c)) o))∧Below w.heap.size w w':=by
 obtain⟨ok,oo,oy,⟨oe1,oe2⟩,oi,⟨wk,wn,wt,wo,wa⟩,op⟩:=o;simp only[opVal,opCells];have b0:=bAl w (.cells #[.int .i64 ok,.int .i64 oo.1,.int .i64 oo.2,.string oy,.int .i64 oe1,.int .i64 oe2,.bool oi,.int .i64 wk,.int .i64 wn,.string wt,.int .i64 wo,.int .i64 wa,.slice pa pn pc] 62);have x0:=heap_alloc_new w (.cells #[.int .i64 ok,.int .i64 oo.1,.int .i64 oo.2,.string oy,.int .i64 oe1,.int .i64 oe2,.bool oi,.int .i64 wk,.int .i64 wn,.string wt,.int .i64 wo,.int .i64 wa,.slice pa pn pc] 62);have E1:=dRoot_any oe1 oe2 (w.alloc (.cells #[.int .i64 ok,.int .i64 oo.1,.int .i64 oo.2,.string oy,.int .i64 oe1,.int .i64 oe2,.bool oi,.int .i64 wk,.int .i64 wn,.string wt,.int .i64 wo,.int .i64 wa,.slice pa pn pc] 62));have HA:=hY3 b0 x0 hv;obtain⟨va,vc,rfl,_⟩:=hv;clear b0 x0;unfold elemFitsM;dsimp only;cases hr:rootB (oe1,oe2) with
 | true=>
  rw[hr] at E1;go_enter Tryz.func109,Tryz.ntmps109
  go_wp2_with fail;go_fit E1;rintro e w1 ⟨rfl,b1⟩;have HB:Hid (Below w.heap.size w w1):=HA.out.1.trans (b1.mono HA.out.1.size);clear b1 E1;go_wp2;go_ret;exact⟨by simp,HB.out⟩
 | false=>
  rw[hr] at E1;obtain⟨⟨⟨ok',oo',oy',oe',oi',⟨wk',wn',wt',wo',wa'⟩,op'⟩,x1,x2⟩,hp⟩:∃p,lookM (l.map (·.c)) (oe1,oe2)=p:=⟨_,rfl⟩
  rw[hp];have HP:Hid _:=hp;clear hp;dsimp only;have EQ:=eqD oo' oo;obtain⟨sb,hsb⟩:=gNz (samePr oo' oo:Bool);rw[hsb] at EQ;obtain⟨rk,hrk⟩:=gNz ((false || (oi'&&samePr oo' oo)):Bool);rw[hrk];rw[hsb] at hrk;have HRK:Hid _:=hrk;clear hrk hsb;go_enter Tryz.func109,Tryz.ntmps109
  go_wp2_with fail;go_fit E1;rintro e w1 ⟨rfl,b1⟩;have hb1:Below w.heap.size w w1:=HA.out.1.trans (b1.mono HA.out.1.size);have X:=heap_below HA.out.2.1 b1 lRf;obtain⟨-,-,-,-,c4,c5,-⟩:=cLs X;have E2:=lookUp_any _ l (oe1,oe2) w1 (HA.out.2.2.below hb1);rw[HP.out] at E2;have s0:=lt_of_heap X;have HB:=hY2 hb1 X;clear b1 E1 hb1 X;go_wp2_with fail;go_fit E2;rintro e w2 ⟨⟨sa,sn,sc,rfl⟩,b2⟩;have HB2:Hid (∀o,Below w.heap.size w (w2.alloc o)):=fun o=>(HB.out.1.trans (b2.mono HB.out.1.size)).alloc (Nat.le_trans HB.out.1.size b2.size) o;have X2:=heap_below HB.out.2 b2 lRf;obtain⟨-,c1,c2,-⟩:=cLs X2;have s1:=lt_of_heap X2;clear b2 E2 c4 c5 s0 X2;simp only[knVal,knCells,opCells,List.cons_append,List.nil_append];cases oi' with
  | true=>
   go_wp2;go_ret;exact⟨by rw[←HRK.out];simp,HB2.out _⟩
  | false=>
   go_wp2;go_ret;exact⟨by rw[←HRK.out];simp,HB2.out _⟩
end Go.Proofs.YtamhlgflbacjgaaGreat
