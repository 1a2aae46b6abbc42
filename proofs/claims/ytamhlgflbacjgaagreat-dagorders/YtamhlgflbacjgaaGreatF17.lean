/-
  What is proved: as each theorem says.
  Conditions: as each theorem says.
-/
import Derived.Test.YtamhlgflbacjgaaGreatF00
import Derived.Test.YtamhlgflbacjgaaGreatF01
import Derived.Test.YtamhlgflbacjgaaGreatF16
set_option maxRecDepth 100000
set_option maxHeartbeats 16000000
namespace Go.Proofs.YtamhlgflbacjgaaGreat
open Go.RowKit Go.Sort
theorem bcell {W w1:World} (hb:Below W.heap.size W w1):(∀b o,b<W.heap.size→w1.cell? ⟨b,o,none⟩=W.cell? ⟨b,o,none⟩)∧(∀b o,b<W.heap.size→w1.frozen? ⟨b,o,none⟩=W.frozen? ⟨b,o,none⟩):=
 ⟨fun b o h=>hb.cell (p:=⟨b,o,none⟩) h,fun b o h=>hb.frozen (p:=⟨b,o,none⟩) h⟩
theorem rId_root (w:World):Calls Tryz.prog 89 #[.agg #[.int .i64 0,.int .i64 0]] w fun e w'=>e=.returned (.bool true)∧Below w.heap.size w w':=by
 go_enter Tryz.func89,Tryz.ntmps89
 go_wp2_with (go_at_call 26;refine(rRoot_yes _).mono ?_;rintro e w1 ⟨rfl,hb⟩);go_ret;exact⟨rfl,(bAl _ _).trans (hb.mono (by simp))⟩
theorem one_box {w w1:World} {c0 c1:Value} (hb:Below (w.alloc (.cells #[c0,c1] 49)).heap.size (w.alloc (.cells #[c0,c1] 49)) w1):
 w1.cell? ⟨w.heap.size,0,none⟩=some c0∧w1.cell? ⟨w.heap.size,1,none⟩=some c1∧Below w.heap.size w w1∧w.heap.size<w1.heap.size:=by
 obtain⟨hc,_⟩:=bcell hb;refine⟨by rw[hc _ _ (by simp)];simp,by rw[hc _ _ (by simp)];simp,(bAl _ _).trans (hb.mono (by simp)),?_⟩;have:=hb.size;simp at this;omega
theorem rId_real (n a:Int) (w:World) (h:Real n a):Calls Tryz.prog 89 #[.agg #[.int .i64 n,.int .i64 a]] w fun e w'=>e=.returned (.bool true)∧Below w.heap.size w w':=by
 have hnr:¬(n=0∧a=0):=by have:=h.1;omega
 go_enter Tryz.func89,Tryz.ntmps89
 go_wp2_with (first | (go_at_call 26;refine(rRoot_no n a _ hnr).mono ?_;rintro e w1 ⟨rfl,hb⟩;obtain⟨c0,c1,B,hz⟩:=one_box hb) | (go_at_call 129;refine(rReal_yes n a _ h).mono ?_;rintro e w2 ⟨rfl,hb2⟩));go_ret;exact⟨rfl,B.trans (hb2.mono (Nat.le_of_lt hz))⟩
theorem rId_bad (n a:Int) (w:World) (h:Bad n a):Calls Tryz.prog 89 #[.agg #[.int .i64 n,.int .i64 a]] w fun e w'=>e=.returned (.bool false)∧Below w.heap.size w w':=by
 obtain⟨hnr,hR⟩:=h;go_enter Tryz.func89,Tryz.ntmps89
 go_wp2_with (first | (go_at_call 26;refine(rRoot_no n a _ hnr).mono ?_;rintro e w1 ⟨rfl,hb⟩;obtain⟨c0,c1,B,hz⟩:=one_box hb) | (go_at_call 129;refine(rReal_no n a _ hR).mono ?_;rintro e w2 ⟨rfl,hb2⟩));go_ret;exact⟨rfl,B.trans (hb2.mono (Nat.le_of_lt hz))⟩
theorem rRoot_any (n a:Int) (w:World):Calls Tryz.prog 26 #[.agg #[.int .i64 n,.int .i64 a]] w fun e w'=>e=.returned (.bool (decide (n=0∧a=0)))∧Below w.heap.size w w':=by
 by_cases r:n=0∧a=0
 ·obtain⟨rfl,rfl⟩:=r;exact rRoot_yes w
 ·rw[decide_eq_false r];exact rRoot_no n a w r
theorem rId_any (n a:Int) (w:World):Calls Tryz.prog 89 #[.agg #[.int .i64 n,.int .i64 a]] w fun e w'=>e=.returned (.bool (idOkB n a))∧Below w.heap.size w w':=by
 by_cases r:n=0∧a=0
 ·rw[(idOk_iff n a).2 (Or.inl r)];obtain⟨rfl,rfl⟩:=r;exact rId_root w
 ·by_cases R:Real n a
  ·rw[(idOk_iff n a).2 (Or.inr R)];exact rId_real n a w R
  ·rw[idOk_no n a (fun h=>h.elim r R)];exact rId_bad n a w ⟨r,R⟩
def teB (v:V):Bool:=v.t.toList.isEmpty
def roB (v:V):Bool:=decide (v.o=0∧v.a=0)
def okR (v:V):Bool:=
 if v.k=0 then teB v&&roB v&&decide (v.n=0)
 else if v.k=1 then teB v&&roB v&&(decide (v.n=0) || decide (v.n=1))
 else if v.k=2∨v.k=4 then teB v&&roB v
 else if v.k=3 then decide (v.n=0)&&roB v&&decide ((v.t.size:Int)≤60)
 else if v.k=5∨v.k=6 then decide (v.n=0)&&teB v&&idOkB v.o v.a
 else false
theorem okR_eq (v:V):okB v=okR v:=by
 obtain⟨k,n,t,o,a⟩:=v;have hb:(o==0&&a==0)=decide (o=0∧a=0):=by
  by_cases h1:o=0 <;> by_cases h2:a=0 <;> simp[h1,h2]
 have hn:(n==0)=decide (n=0):=by by_cases h:n=0 <;> simp[h]
 unfold okB okR usedB onlyV sameB teB roB;dsimp only;by_cases h0:k=0
 ·subst h0;simp[hb,hn,Bool.and_comm,Bool.and_left_comm]
 by_cases h1:k=1
 ·subst h1;simp[hb,Bool.and_comm,Bool.and_assoc]
 by_cases h2:k=2
 ·subst h2;simp[hb]
 by_cases h4:k=4
 ·subst h4;simp[hb]
 by_cases h3:k=3
 ·subst h3;simp[hb,hn,Bool.and_comm,Bool.and_assoc]
 by_cases h5:k=5
 ·subst h5;simp[hn,Bool.and_comm,Bool.and_assoc]
 by_cases h6:k=6
 ·subst h6;simp[hn,Bool.and_comm,Bool.and_assoc]
 simp[h0,h1,h2,h3,h4,h5,h6]
theorem five5 {w w1:World} {c0 c1 c2 c3 c4:Value} (hb:Below (w.alloc (.cells #[c0,c1,c2,c3,c4] 59)).heap.size (w.alloc (.cells #[c0,c1,c2,c3,c4] 59)) w1):
 w1.cell? ⟨w.heap.size,0,none⟩=some c0∧w1.cell? ⟨w.heap.size,1,none⟩=some c1∧w1.cell? ⟨w.heap.size,2,none⟩=some c2∧w1.cell? ⟨w.heap.size,3,none⟩=some c3∧w1.cell? ⟨w.heap.size,4,none⟩=some c4:=by
 obtain⟨hc,_⟩:=bcell hb;refine⟨?_,?_,?_,?_,?_⟩ <;> (rw[hc _ _ (by simp)];simp)
theorem one_boxV {w w1:World} {o:Obj} (hb:Below (w.alloc o).heap.size (w.alloc o) w1):Below w.heap.size w w1:=(bAl _ _).trans (hb.mono (by simp))
theorem rValue_empty (k n:Int) (t:ByteArray) (o a:Int) (w:World) (hte:t.toList.isEmpty=true):
 Calls Tryz.prog 55 #[.agg #[.int .i64 k,.int .i64 n,.string t,.int .i64 o,.int .i64 a]] w fun e w'=>e=.returned (.bool (okR ⟨k,n,t,o,a⟩))∧Below w.heap.size w w':=by
 unfold okR teB roB;dsimp only;rw[hte];by_cases hro:o=0∧a=0
 ·obtain⟨rfl,rfl⟩:=hro;have R:=rRoot_yes;have I:∀w,Calls Tryz.prog 89 #[.agg #[.int .i64 0,.int .i64 0]] w fun e w'=>e=.returned (.bool true)∧Below w.heap.size w w':=rId_root;by_cases h0:k=0
  ·subst h0;by_cases n0:n=0
   ·subst n0;go_enter Tryz.func55,Tryz.ntmps55
    go_wp2_with fail;refine(R _).mono ?_;rintro e w1 ⟨rfl,hb1⟩;have B1:=one_boxV hb1;obtain⟨q0,q1,q2,q3,q4⟩:=five5 hb1;clear hb1;go_wp2;go_ret;exact⟨by first | rfl | (simp;done) | (simp_all;done),B1⟩
   ·have n0':(n==0)=false:=by simpa using n0
    go_enter Tryz.func55,Tryz.ntmps55
    go_wp2_with fail;refine(R _).mono ?_;rintro e w1 ⟨rfl,hb1⟩;have B1:=one_boxV hb1;obtain⟨q0,q1,q2,q3,q4⟩:=five5 hb1;clear hb1;go_wp2;go_ret;exact⟨by first | rfl | (simp;done) | (simp_all;done),B1⟩
  by_cases h1:k=1
  ·subst h1;by_cases n0:n=0
   ·subst n0;go_enter Tryz.func55,Tryz.ntmps55
    go_wp2_with fail;refine(R _).mono ?_;rintro e w1 ⟨rfl,hb1⟩;have B1:=one_boxV hb1;obtain⟨q0,q1,q2,q3,q4⟩:=five5 hb1;clear hb1;go_wp2;go_ret;exact⟨by first | rfl | (simp;done) | (simp_all;done),B1⟩
   ·by_cases n1:n=1
    ·subst n1;go_enter Tryz.func55,Tryz.ntmps55
     go_wp2_with fail;refine(R _).mono ?_;rintro e w1 ⟨rfl,hb1⟩;have B1:=one_boxV hb1;obtain⟨q0,q1,q2,q3,q4⟩:=five5 hb1;clear hb1;go_wp2;go_ret;exact⟨by first | rfl | (simp;done) | (simp_all;done),B1⟩
    ·have n0':(n==0)=false:=by simpa using n0
     have n1':(n==1)=false:=by simpa using n1
     go_enter Tryz.func55,Tryz.ntmps55
     go_wp2_with fail;refine(R _).mono ?_;rintro e w1 ⟨rfl,hb1⟩;have B1:=one_boxV hb1;obtain⟨q0,q1,q2,q3,q4⟩:=five5 hb1;clear hb1;go_wp2;go_ret;exact⟨by first | rfl | (simp;done) | (simp_all;done),B1⟩
  by_cases h2:k=2
  ·subst h2;go_enter Tryz.func55,Tryz.ntmps55
   go_wp2_with fail;refine(R _).mono ?_;rintro e w1 ⟨rfl,hb1⟩;have B1:=one_boxV hb1;obtain⟨q0,q1,q2,q3,q4⟩:=five5 hb1;clear hb1;go_wp2;go_ret;exact⟨by first | rfl | (simp;done) | (simp_all;done),B1⟩
  by_cases h4:k=4
  ·subst h4;go_enter Tryz.func55,Tryz.ntmps55
   go_wp2_with fail;refine(R _).mono ?_;rintro e w1 ⟨rfl,hb1⟩;have B1:=one_boxV hb1;obtain⟨q0,q1,q2,q3,q4⟩:=five5 hb1;clear hb1;go_wp2;go_ret;exact⟨by first | rfl | (simp;done) | (simp_all;done),B1⟩
  by_cases h3:k=3
  ·subst h3;by_cases n0:n=0
   ·subst n0;go_enter Tryz.func55,Tryz.ntmps55
    go_wp2_with fail;refine(R _).mono ?_;rintro e w1 ⟨rfl,hb1⟩;have B1:=one_boxV hb1;obtain⟨q0,q1,q2,q3,q4⟩:=five5 hb1;have hz1:w.heap.size<w1.heap.size:=by have:=hb1.size;simp at this;omega
    clear hb1;go_wp2_with fail;refine(R _).mono ?_;rintro e w2 ⟨rfl,hb2⟩;have B2:=B1.trans (hb2.mono B1.size);have p2:=(hb2.cell (p:=⟨w.heap.size,2,none⟩) hz1).trans q2;clear hb2;go_wp2;go_ret;exact⟨by first | rfl | (simp;done) | (simp_all;done),B2⟩
   ·have n0':(n==0)=false:=by simpa using n0
    go_enter Tryz.func55,Tryz.ntmps55
    go_wp2_with fail;refine(R _).mono ?_;rintro e w1 ⟨rfl,hb1⟩;have B1:=one_boxV hb1;obtain⟨q0,q1,q2,q3,q4⟩:=five5 hb1;clear hb1;go_wp2;go_ret;exact⟨by first | rfl | (simp;done) | (simp_all;done),B1⟩
  by_cases h5:k=5
  ·subst h5;by_cases n0:n=0
   ·subst n0;go_enter Tryz.func55,Tryz.ntmps55
    go_wp2_with fail;refine(R _).mono ?_;rintro e w1 ⟨rfl,hb1⟩;have B1:=one_boxV hb1;obtain⟨q0,q1,q2,q3,q4⟩:=five5 hb1;have hz1:w.heap.size<w1.heap.size:=by have:=hb1.size;simp at this;omega
    clear hb1;go_wp2_with fail;refine(I _).mono ?_;rintro e w2 ⟨rfl,hb2⟩;have B2:=B1.trans (hb2.mono B1.size);have p2:=(hb2.cell (p:=⟨w.heap.size,2,none⟩) hz1).trans q2;clear hb2;go_wp2;go_ret;exact⟨by first | rfl | (simp;done) | (simp_all;done),B2⟩
   ·have n0':(n==0)=false:=by simpa using n0
    go_enter Tryz.func55,Tryz.ntmps55
    go_wp2_with fail;refine(R _).mono ?_;rintro e w1 ⟨rfl,hb1⟩;have B1:=one_boxV hb1;obtain⟨q0,q1,q2,q3,q4⟩:=five5 hb1;clear hb1;go_wp2;go_ret;exact⟨by first | rfl | (simp;done) | (simp_all;done),B1⟩
  by_cases h6:k=6
  ·subst h6;by_cases n0:n=0
   ·subst n0;go_enter Tryz.func55,Tryz.ntmps55
    go_wp2_with fail;refine(R _).mono ?_;rintro e w1 ⟨rfl,hb1⟩;have B1:=one_boxV hb1;obtain⟨q0,q1,q2,q3,q4⟩:=five5 hb1;have hz1:w.heap.size<w1.heap.size:=by have:=hb1.size;simp at this;omega
    clear hb1;go_wp2_with fail;refine(I _).mono ?_;rintro e w2 ⟨rfl,hb2⟩;have B2:=B1.trans (hb2.mono B1.size);have p2:=(hb2.cell (p:=⟨w.heap.size,2,none⟩) hz1).trans q2;clear hb2;go_wp2;go_ret;exact⟨by first | rfl | (simp;done) | (simp_all;done),B2⟩
   ·have n0':(n==0)=false:=by simpa using n0
    go_enter Tryz.func55,Tryz.ntmps55
    go_wp2_with fail;refine(R _).mono ?_;rintro e w1 ⟨rfl,hb1⟩;have B1:=one_boxV hb1;obtain⟨q0,q1,q2,q3,q4⟩:=five5 hb1;clear hb1;go_wp2;go_ret;exact⟨by first | rfl | (simp;done) | (simp_all;done),B1⟩
  go_enter Tryz.func55,Tryz.ntmps55
  go_wp2_with fail;refine(R _).mono ?_;rintro e w1 ⟨rfl,hb1⟩;have B1:=one_boxV hb1;obtain⟨q0,q1,q2,q3,q4⟩:=five5 hb1;clear hb1;go_wp2;go_ret;exact⟨by first | rfl | (simp;done) | (simp_all;done),B1⟩
 ·have R:=fun w=>rRoot_no o a w hro;have I:=rId_any o a;have ro':decide (o=0∧a=0)=false:=decide_eq_false hro;by_cases h0:k=0
  ·subst h0;go_enter Tryz.func55,Tryz.ntmps55
   go_wp2_with fail;refine(R _).mono ?_;rintro e w1 ⟨rfl,hb1⟩;have B1:=one_boxV hb1;obtain⟨q0,q1,q2,q3,q4⟩:=five5 hb1;clear hb1;go_wp2;go_ret;exact⟨by first | rfl | (simp;done) | (simp_all;done),B1⟩
  by_cases h1:k=1
  ·subst h1;go_enter Tryz.func55,Tryz.ntmps55
   go_wp2_with fail;refine(R _).mono ?_;rintro e w1 ⟨rfl,hb1⟩;have B1:=one_boxV hb1;obtain⟨q0,q1,q2,q3,q4⟩:=five5 hb1;clear hb1;go_wp2;go_ret;exact⟨by first | rfl | (simp;done) | (simp_all;done),B1⟩
  by_cases h2:k=2
  ·subst h2;go_enter Tryz.func55,Tryz.ntmps55
   go_wp2_with fail;refine(R _).mono ?_;rintro e w1 ⟨rfl,hb1⟩;have B1:=one_boxV hb1;obtain⟨q0,q1,q2,q3,q4⟩:=five5 hb1;clear hb1;go_wp2;go_ret;exact⟨by first | rfl | (simp;done) | (simp_all;done),B1⟩
  by_cases h4:k=4
  ·subst h4;go_enter Tryz.func55,Tryz.ntmps55
   go_wp2_with fail;refine(R _).mono ?_;rintro e w1 ⟨rfl,hb1⟩;have B1:=one_boxV hb1;obtain⟨q0,q1,q2,q3,q4⟩:=five5 hb1;clear hb1;go_wp2;go_ret;exact⟨by first | rfl | (simp;done) | (simp_all;done),B1⟩
  by_cases h3:k=3
  ·subst h3;by_cases n0:n=0
   ·subst n0;go_enter Tryz.func55,Tryz.ntmps55
    go_wp2_with fail;refine(R _).mono ?_;rintro e w1 ⟨rfl,hb1⟩;have B1:=one_boxV hb1;obtain⟨q0,q1,q2,q3,q4⟩:=five5 hb1;have hz1:w.heap.size<w1.heap.size:=by have:=hb1.size;simp at this;omega
    clear hb1;go_wp2_with fail;refine(R _).mono ?_;rintro e w2 ⟨rfl,hb2⟩;have B2:=B1.trans (hb2.mono B1.size);have p2:=(hb2.cell (p:=⟨w.heap.size,2,none⟩) hz1).trans q2;clear hb2;go_wp2;go_ret;exact⟨by first | rfl | (simp;done) | (simp_all;done),B2⟩
   ·have n0':(n==0)=false:=by simpa using n0
    go_enter Tryz.func55,Tryz.ntmps55
    go_wp2_with fail;refine(R _).mono ?_;rintro e w1 ⟨rfl,hb1⟩;have B1:=one_boxV hb1;obtain⟨q0,q1,q2,q3,q4⟩:=five5 hb1;clear hb1;go_wp2;go_ret;exact⟨by first | rfl | (simp;done) | (simp_all;done),B1⟩
  by_cases h5:k=5
  ·subst h5;by_cases n0:n=0
   ·subst n0;cases ok:idOkB o a with
    | true=>
     have I':=I;rw[ok] at I';go_enter Tryz.func55,Tryz.ntmps55
     go_wp2_with fail;refine(R _).mono ?_;rintro e w1 ⟨rfl,hb1⟩;have B1:=one_boxV hb1;obtain⟨q0,q1,q2,q3,q4⟩:=five5 hb1;have hz1:w.heap.size<w1.heap.size:=by have:=hb1.size;simp at this;omega
     clear hb1;go_wp2_with fail;refine(I' _).mono ?_;rintro e w2 ⟨rfl,hb2⟩;have B2:=B1.trans (hb2.mono B1.size);have p2:=(hb2.cell (p:=⟨w.heap.size,2,none⟩) hz1).trans q2;clear hb2;go_wp2;go_ret;exact⟨by first | rfl | (simp;done) | (simp_all;done),B2⟩
    | false=>
     have I':=I;rw[ok] at I';go_enter Tryz.func55,Tryz.ntmps55
     go_wp2_with fail;refine(R _).mono ?_;rintro e w1 ⟨rfl,hb1⟩;have B1:=one_boxV hb1;obtain⟨q0,q1,q2,q3,q4⟩:=five5 hb1;have hz1:w.heap.size<w1.heap.size:=by have:=hb1.size;simp at this;omega
     clear hb1;go_wp2_with fail;refine(I' _).mono ?_;rintro e w2 ⟨rfl,hb2⟩;have B2:=B1.trans (hb2.mono B1.size);have p2:=(hb2.cell (p:=⟨w.heap.size,2,none⟩) hz1).trans q2;clear hb2;go_wp2;go_ret;exact⟨by first | rfl | (simp;done) | (simp_all;done),B2⟩
   ·have n0':(n==0)=false:=by simpa using n0
    go_enter Tryz.func55,Tryz.ntmps55
    go_wp2_with fail;refine(R _).mono ?_;rintro e w1 ⟨rfl,hb1⟩;have B1:=one_boxV hb1;obtain⟨q0,q1,q2,q3,q4⟩:=five5 hb1;clear hb1;go_wp2;go_ret;exact⟨by first | rfl | (simp;done) | (simp_all;done),B1⟩
  by_cases h6:k=6
  ·subst h6;by_cases n0:n=0
   ·subst n0;cases ok:idOkB o a with
    | true=>
     have I':=I;rw[ok] at I';go_enter Tryz.func55,Tryz.ntmps55
     go_wp2_with fail;refine(R _).mono ?_;rintro e w1 ⟨rfl,hb1⟩;have B1:=one_boxV hb1;obtain⟨q0,q1,q2,q3,q4⟩:=five5 hb1;have hz1:w.heap.size<w1.heap.size:=by have:=hb1.size;simp at this;omega
     clear hb1;go_wp2_with fail;refine(I' _).mono ?_;rintro e w2 ⟨rfl,hb2⟩;have B2:=B1.trans (hb2.mono B1.size);have p2:=(hb2.cell (p:=⟨w.heap.size,2,none⟩) hz1).trans q2;clear hb2;go_wp2;go_ret;exact⟨by first | rfl | (simp;done) | (simp_all;done),B2⟩
    | false=>
     have I':=I;rw[ok] at I';go_enter Tryz.func55,Tryz.ntmps55
     go_wp2_with fail;refine(R _).mono ?_;rintro e w1 ⟨rfl,hb1⟩;have B1:=one_boxV hb1;obtain⟨q0,q1,q2,q3,q4⟩:=five5 hb1;have hz1:w.heap.size<w1.heap.size:=by have:=hb1.size;simp at this;omega
     clear hb1;go_wp2_with fail;refine(I' _).mono ?_;rintro e w2 ⟨rfl,hb2⟩;have B2:=B1.trans (hb2.mono B1.size);have p2:=(hb2.cell (p:=⟨w.heap.size,2,none⟩) hz1).trans q2;clear hb2;go_wp2;go_ret;exact⟨by first | rfl | (simp;done) | (simp_all;done),B2⟩
   ·have n0':(n==0)=false:=by simpa using n0
    go_enter Tryz.func55,Tryz.ntmps55
    go_wp2_with fail;refine(R _).mono ?_;rintro e w1 ⟨rfl,hb1⟩;have B1:=one_boxV hb1;obtain⟨q0,q1,q2,q3,q4⟩:=five5 hb1;clear hb1;go_wp2;go_ret;exact⟨by first | rfl | (simp;done) | (simp_all;done),B1⟩
  go_enter Tryz.func55,Tryz.ntmps55
  go_wp2_with fail;refine(R _).mono ?_;rintro e w1 ⟨rfl,hb1⟩;have B1:=one_boxV hb1;obtain⟨q0,q1,q2,q3,q4⟩:=five5 hb1;clear hb1;go_wp2;go_ret;exact⟨by first | rfl | (simp;done) | (simp_all;done),B1⟩
theorem rValue_text (k n:Int) (t:ByteArray) (o a:Int) (w:World) (hte:t.toList.isEmpty=false):
 Calls Tryz.prog 55 #[.agg #[.int .i64 k,.int .i64 n,.string t,.int .i64 o,.int .i64 a]] w fun e w'=>e=.returned (.bool (okR ⟨k,n,t,o,a⟩))∧Below w.heap.size w w':=by
 unfold okR teB roB;dsimp only;rw[hte];by_cases hro:o=0∧a=0
 ·obtain⟨rfl,rfl⟩:=hro;have R:=rRoot_yes;have I:∀w,Calls Tryz.prog 89 #[.agg #[.int .i64 0,.int .i64 0]] w fun e w'=>e=.returned (.bool true)∧Below w.heap.size w w':=rId_root;by_cases h0:k=0
  ·subst h0;go_enter Tryz.func55,Tryz.ntmps55
   go_wp2;go_ret;exact⟨by first | rfl | (simp;done) | (simp_all;done),bAl _ _⟩
  by_cases h1:k=1
  ·subst h1;go_enter Tryz.func55,Tryz.ntmps55
   go_wp2;go_ret;exact⟨by first | rfl | (simp;done) | (simp_all;done),bAl _ _⟩
  by_cases h2:k=2
  ·subst h2;go_enter Tryz.func55,Tryz.ntmps55
   go_wp2;go_ret;exact⟨by first | rfl | (simp;done) | (simp_all;done),bAl _ _⟩
  by_cases h4:k=4
  ·subst h4;go_enter Tryz.func55,Tryz.ntmps55
   go_wp2;go_ret;exact⟨by first | rfl | (simp;done) | (simp_all;done),bAl _ _⟩
  by_cases h3:k=3
  ·subst h3;by_cases n0:n=0
   ·subst n0;go_enter Tryz.func55,Tryz.ntmps55
    go_wp2_with fail;refine(R _).mono ?_;rintro e w1 ⟨rfl,hb1⟩;have B1:=one_boxV hb1;obtain⟨q0,q1,q2,q3,q4⟩:=five5 hb1;clear hb1;go_wp2;go_ret;exact⟨by first | rfl | (simp;done) | (simp_all;done),B1⟩
   ·have n0':(n==0)=false:=by simpa using n0
    go_enter Tryz.func55,Tryz.ntmps55
    go_wp2;go_ret;exact⟨by first | rfl | (simp;done) | (simp_all;done),bAl _ _⟩
  by_cases h5:k=5
  ·subst h5;by_cases n0:n=0
   ·subst n0;go_enter Tryz.func55,Tryz.ntmps55
    go_wp2;go_ret;exact⟨by first | rfl | (simp;done) | (simp_all;done),bAl _ _⟩
   ·have n0':(n==0)=false:=by simpa using n0
    go_enter Tryz.func55,Tryz.ntmps55
    go_wp2;go_ret;exact⟨by first | rfl | (simp;done) | (simp_all;done),bAl _ _⟩
  by_cases h6:k=6
  ·subst h6;by_cases n0:n=0
   ·subst n0;go_enter Tryz.func55,Tryz.ntmps55
    go_wp2;go_ret;exact⟨by first | rfl | (simp;done) | (simp_all;done),bAl _ _⟩
   ·have n0':(n==0)=false:=by simpa using n0
    go_enter Tryz.func55,Tryz.ntmps55
    go_wp2;go_ret;exact⟨by first | rfl | (simp;done) | (simp_all;done),bAl _ _⟩
  go_enter Tryz.func55,Tryz.ntmps55
  go_wp2;go_ret;exact⟨by first | rfl | (simp;done) | (simp_all;done),bAl _ _⟩
 ·have R:=fun w=>rRoot_no o a w hro;have I:=rId_any o a;have ro':decide (o=0∧a=0)=false:=decide_eq_false hro;by_cases h0:k=0
  ·subst h0;go_enter Tryz.func55,Tryz.ntmps55
   go_wp2;go_ret;exact⟨by first | rfl | (simp;done) | (simp_all;done),bAl _ _⟩
  by_cases h1:k=1
  ·subst h1;go_enter Tryz.func55,Tryz.ntmps55
   go_wp2;go_ret;exact⟨by first | rfl | (simp;done) | (simp_all;done),bAl _ _⟩
  by_cases h2:k=2
  ·subst h2;go_enter Tryz.func55,Tryz.ntmps55
   go_wp2;go_ret;exact⟨by first | rfl | (simp;done) | (simp_all;done),bAl _ _⟩
  by_cases h4:k=4
  ·subst h4;go_enter Tryz.func55,Tryz.ntmps55
   go_wp2;go_ret;exact⟨by first | rfl | (simp;done) | (simp_all;done),bAl _ _⟩
  by_cases h3:k=3
  ·subst h3;by_cases n0:n=0
   ·subst n0;go_enter Tryz.func55,Tryz.ntmps55
    go_wp2_with fail;refine(R _).mono ?_;rintro e w1 ⟨rfl,hb1⟩;have B1:=one_boxV hb1;obtain⟨q0,q1,q2,q3,q4⟩:=five5 hb1;clear hb1;go_wp2;go_ret;exact⟨by first | rfl | (simp;done) | (simp_all;done),B1⟩
   ·have n0':(n==0)=false:=by simpa using n0
    go_enter Tryz.func55,Tryz.ntmps55
    go_wp2;go_ret;exact⟨by first | rfl | (simp;done) | (simp_all;done),bAl _ _⟩
  by_cases h5:k=5
  ·subst h5;by_cases n0:n=0
   ·subst n0;go_enter Tryz.func55,Tryz.ntmps55
    go_wp2;go_ret;exact⟨by first | rfl | (simp;done) | (simp_all;done),bAl _ _⟩
   ·have n0':(n==0)=false:=by simpa using n0
    go_enter Tryz.func55,Tryz.ntmps55
    go_wp2;go_ret;exact⟨by first | rfl | (simp;done) | (simp_all;done),bAl _ _⟩
  by_cases h6:k=6
  ·subst h6;by_cases n0:n=0
   ·subst n0;go_enter Tryz.func55,Tryz.ntmps55
    go_wp2;go_ret;exact⟨by first | rfl | (simp;done) | (simp_all;done),bAl _ _⟩
   ·have n0':(n==0)=false:=by simpa using n0
    go_enter Tryz.func55,Tryz.ntmps55
    go_wp2;go_ret;exact⟨by first | rfl | (simp;done) | (simp_all;done),bAl _ _⟩
  go_enter Tryz.func55,Tryz.ntmps55
  go_wp2;go_ret;exact⟨by first | rfl | (simp;done) | (simp_all;done),bAl _ _⟩
theorem rValue_any (v:V) (w:World):
 Calls Tryz.prog 55 #[v.val] w fun e w'=>e=.returned (.bool (okB v))∧Below w.heap.size w w':=by
 rw[okR_eq];cases h:v.t.toList.isEmpty with
 | true=>exact rValue_empty v.k v.n v.t v.o v.a w h
 | false=>exact rValue_text v.k v.n v.t v.o v.a w h
end Go.Proofs.YtamhlgflbacjgaaGreat
