/-
  What is proved: as each theorem says.
  Conditions: as each theorem says.
-/
import Derived.Test.YtamhlgflbacjgaaGreatF00
import Derived.Test.YtamhlgflbacjgaaGreatF01
set_option maxRecDepth 100000
set_option maxHeartbeats 16000000
namespace Go.Proofs.YtamhlgflbacjgaaGreat
open Go.RowKit
def fromB (n most:Int):Bool:=decide (1≤n∧n≤most)
def rootB (q:Pr):Bool:=decide (q.1=0∧q.2=0)
def chainB (f:Pr→Pr→Bool):List Pr→Bool
 | a::b::r=>f a b&&chainB f (b::r)
 | _=>true
theorem chainB_iff (f:Pr→Pr→Bool) (l:List Pr):chainB f l=true↔∀i (h:i+1<l.length),f l[i] l[i+1]=true:=by
 induction l with
 | nil=>simp[chainB]
 | cons a r ih=>
  cases r with
  | nil=>simp[chainB]
  | cons b r=>
   rw[chainB,Bool.and_eq_true,ih];constructor
   ·rintro⟨h1,h2⟩ i hi;cases i with
    | zero=>exact h1
    | succ i=>exact h2 i (by simpa using hi)
   ·intro h;refine⟨h 0 (by simp),fun i hi=>?_⟩;have:=h (i+1) (by simpa using hi);simpa using this
def refB (q:Pr):Bool:=fromB q.1 99&&fromB q.2 1000000
def refsC (l:List Pr):Int:=if l.all refB=true then (if chainB (fun a b=>decide (a.1<b.1)) l=true then 0 else 5) else 1
def hasIdsB (o:OpM):Bool:=o.preds.all (fun q=> !rootB q&&idOkB q.1 q.2)&&(idOkB o.obj.1 o.obj.2&&idOkB o.elem.1 o.elem.2)
def risesB (l:List Pr):Bool:=chainB (fun a b=>lessB a.1 a.2 b.1 b.2) l
def onePlaceB (o:OpM):Bool:=(!o.key.toList.isEmpty) !=(!rootB o.elem || o.ins)
def mayInsertB (o:OpM):Bool:=decide (o.kind=1∨o.kind=2)&&o.preds.isEmpty
def mayHaveB (k:Int) (v:V):Bool:=
 if k=1 then !decide (v.k=5∨v.k=6) else if k=2 then decide (v.k=5∨v.k=6)&&rootB (v.o,v.a) else if k=3 then decide (v.k=0) else decide (v.k=2)
def needsB (k:Int):Bool:=decide (k=4∨k=3)
def chkOp (o:OpM):Int:=
 if (!fromB o.kind 4 || !hasIdsB o)=true then 1
 else if 20<o.key.size∨12<o.preds.length then 4
 else if risesB o.preds=false then 5
 else if (!onePlaceB o || (o.ins&& !mayInsertB o))=true then 3
 else if (!okB o.val || !mayHaveB o.kind o.val)=true then 1
 else if (needsB o.kind&&o.preds.isEmpty)=true then 3
 else 0
def chkOps:List OpM→Int
 | []=>0
 | o::r=>if chkOp o=0 then chkOps r else chkOp o
def chkHead (c:Chg):Int:=
 if (fromB c.actor 99&&(fromB c.seq 1000000&&fromB c.start 1000000))=true then
  if 12<c.deps.length then 4 else if refsC c.deps=0 then (if 40<c.ops.length then 4 else if 1000000<c.start+c.ops.length - 1 then 1 else 0) else refsC c.deps
 else 1
def chk (c:Chg):Int:=if chkHead c=0 then chkOps c.ops else chkHead c
def errV (e:Int):Value:=if e=0 then .nilIface else .iface 82 (.int .i64 e)
theorem isFrom1_any (n most:Int) (w:World):Calls Tryz.prog 99 #[.int .i64 n,.int .i64 most] w fun e w'=>e=.returned (.bool (fromB n most))∧Below w.heap.size w w':=by
 unfold fromB;by_cases h:1≤n
 ·go_enter Tryz.func99,Tryz.ntmps99
  go_wp2;go_ret;exact⟨by simp[h],Below.refl _ _⟩
 ·go_enter Tryz.func99,Tryz.ntmps99
  go_wp2;go_ret;exact⟨by simp;omega,Below.refl _ _⟩
theorem cRoot_any (n a:Int) (w:World):Calls Tryz.prog 135 #[.agg #[.int .i64 n,.int .i64 a]] w fun e w'=>e=.returned (.bool (rootB (n,a)))∧Below w.heap.size w w':=by
 unfold rootB;by_cases h:n=0
 ·subst h;by_cases h2:a=0
  ·subst h2;go_enter Tryz.func135,Tryz.ntmps135
   go_wp2;go_ret;exact⟨by simp,bAl _ _⟩
  ·have q:(a==0)=false:=by simp[h2]
   go_enter Tryz.func135,Tryz.ntmps135
   go_wp2;go_ret;exact⟨by simp[h2],bAl _ _⟩
 ·have q:(n==0)=false:=by simp[h]
  go_enter Tryz.func135,Tryz.ntmps135
  go_wp2;go_ret;exact⟨by simp[h],bAl _ _⟩
theorem idCheck_any (n a:Int) (w:World):Calls Tryz.prog 136 #[.agg #[.int .i64 n,.int .i64 a]] w fun e w'=>e=.returned (errV (if idOkB n a=true then 0 else 1))∧Below w.heap.size w w':=by
 by_cases r:n=0∧a=0
 ·obtain⟨rfl,rfl⟩:=r;exact(check_root _).mono fun e w' ⟨h,b⟩=>⟨by rw[(idOk_iff _ _).2 (Or.inl ⟨rfl,rfl⟩)];exact h,b⟩
 ·by_cases R:Real n a
  ·exact(check_real n a _ R).mono fun e w' ⟨h,b⟩=>⟨by rw[(idOk_iff _ _).2 (Or.inr R)];exact h,b⟩
  ·exact(check_bad n a _ ⟨r,R⟩).mono fun e w' ⟨h,b⟩=>⟨by rw[idOk_no _ _ (fun x=>x.elim r R)];exact h,b⟩
theorem isActor_any (n:Int) (w:World):Calls Tryz.prog 86 #[.int .i64 n] w fun e w'=>e=.returned (.bool (fromB n 99))∧Below w.heap.size w w':=by
 unfold fromB;by_cases h:1≤n
 ·go_enter Tryz.func86,Tryz.ntmps86
  go_wp2;go_ret;exact⟨by simp[h],Below.refl _ _⟩
 ·go_enter Tryz.func86,Tryz.ntmps86
  go_wp2;go_ret;exact⟨by simp;omega,Below.refl _ _⟩
theorem isNum_any (n:Int) (w:World):Calls Tryz.prog 87 #[.int .i64 n] w fun e w'=>e=.returned (.bool (fromB n 1000000))∧Below w.heap.size w w':=by
 unfold fromB;by_cases h:1≤n
 ·go_enter Tryz.func87,Tryz.ntmps87
  go_wp2;go_ret;exact⟨by simp[h],Below.refl _ _⟩
 ·go_enter Tryz.func87,Tryz.ntmps87
  go_wp2;go_ret;exact⟨by simp;omega,Below.refl _ _⟩
theorem needs_any (k:Int) (w:World):Calls Tryz.prog 106 #[.int .i64 k] w fun e w'=>e=.returned (.bool (needsB k))∧Below w.heap.size w w':=by
 unfold needsB;by_cases h:k=4
 ·subst h;go_enter Tryz.func106,Tryz.ntmps106
  go_wp2;go_ret;exact⟨by simp,Below.refl _ _⟩
 ·have q:(k==4)=false:=by simp[h]
  by_cases h3:k=3
  ·subst h3;go_enter Tryz.func106,Tryz.ntmps106
   go_wp2;go_ret;exact⟨by simp,Below.refl _ _⟩
  ·have q3:(k==3)=false:=by simp[h3]
   go_enter Tryz.func106,Tryz.ntmps106
   go_wp2;go_ret;exact⟨by simp[h,h3],Below.refl _ _⟩
theorem mayHave_any (k:Int) (v:V) (w:World):Calls Tryz.prog 105 #[.int .i64 k,v.val] w fun e w'=>e=.returned (.bool (mayHaveB k v))∧Below w.heap.size w w':=by
 obtain⟨vk,vn,vt,vo,va⟩:=v;unfold V.val mayHaveB;dsimp only;have B1:∀x,Below w.heap.size w (w.alloc x):=fun x=>bAl _ _;obtain⟨o,ho,ho5⟩:∃o:Bool,decide (vk=5∨vk=6)=o∧((vk=5∧o=true)∨(vk=6∧o=true)∨((vk==5)=false∧(vk==6)=false∧o=false)):=by
  refine⟨_,rfl,?_⟩;by_cases h5:vk=5
  ·exact Or.inl ⟨h5,by simp[h5]⟩
  ·by_cases h6:vk=6
   ·exact Or.inr (Or.inl ⟨h6,by simp[h6]⟩)
   ·exact Or.inr (Or.inr ⟨by simp[h5],by simp[h6],by simp[h5,h6]⟩)
 rw[ho];clear ho;by_cases h1:k=1
 ·subst h1;rcases ho5 with⟨rfl,rfl⟩ | ⟨rfl,rfl⟩ | ⟨a,b,rfl⟩
  all_goals
   go_enter Tryz.func105,Tryz.ntmps105
   go_wp2;go_ret;exact⟨by simp,B1 _⟩
 ·have q1:(k==1)=false:=by simp[h1]
  rw[if_neg h1];clear h1;by_cases h2:k=2
  ·subst h2;rcases ho5 with⟨rfl,rfl⟩ | ⟨rfl,rfl⟩ | ⟨a,b,rfl⟩
   ·go_enter Tryz.func105,Tryz.ntmps105
    go_wp2_with fail;refine(cRoot_any vo va _).mono ?_;rintro e w1 ⟨rfl,b1⟩;go_wp2;go_ret;exact⟨by simp,(B1 _).trans (b1.mono (B1 _).size)⟩
   ·go_enter Tryz.func105,Tryz.ntmps105
    go_wp2_with fail;refine(cRoot_any vo va _).mono ?_;rintro e w1 ⟨rfl,b1⟩;go_wp2;go_ret;exact⟨by simp,(B1 _).trans (b1.mono (B1 _).size)⟩
   ·go_enter Tryz.func105,Tryz.ntmps105
    go_wp2;go_ret;exact⟨by simp,B1 _⟩
  ·have q2:(k==2)=false:=by simp[h2]
   rw[if_neg h2];clear h2;by_cases h3:k=3
   ·subst h3;by_cases hv:vk=0
    ·subst hv;rcases ho5 with⟨h,rfl⟩ | ⟨h,rfl⟩ | ⟨a,b,rfl⟩
     ·cases h
     ·cases h
     ·go_enter Tryz.func105,Tryz.ntmps105
      go_wp2;go_ret;exact⟨by simp,B1 _⟩
    ·have qv:(vk==0)=false:=by simp[hv]
     rcases ho5 with⟨rfl,rfl⟩ | ⟨rfl,rfl⟩ | ⟨a,b,rfl⟩
     all_goals
      go_enter Tryz.func105,Tryz.ntmps105
      go_wp2;go_ret;exact⟨by first | (simp;done) | (simp[hv];done),B1 _⟩
   ·have q3:(k==3)=false:=by simp[h3]
    rw[if_neg h3];clear h3;by_cases hv:vk=2
    ·subst hv;rcases ho5 with⟨h,rfl⟩ | ⟨h,rfl⟩ | ⟨a,b,rfl⟩
     ·cases h
     ·cases h
     ·go_enter Tryz.func105,Tryz.ntmps105
      go_wp2;go_ret;exact⟨by simp,B1 _⟩
    ·have qv:(vk==2)=false:=by simp[hv]
     rcases ho5 with⟨rfl,rfl⟩ | ⟨rfl,rfl⟩ | ⟨a,b,rfl⟩
     all_goals
      go_enter Tryz.func105,Tryz.ntmps105
      go_wp2;go_ret;exact⟨by first | (simp;done) | (simp[hv];done),B1 _⟩
theorem all_take {l:List Pr} {f:Pr→Bool} (k:Nat) (hk:k<l.length) (h:(l.take k).all f=true) (e:f l[k]=true):(l.take (k+1)).all f=true:=by
 rw[take_snoc l k hk,List.all_append,h];simp[e]
theorem all_no {l:List Pr} {f:Pr→Bool} (k:Nat) (hk:k<l.length) (e:f l[k]=false):l.all f=false:=by
 rw[List.all_eq_false];exact⟨l[k],List.getElem_mem hk,by simp[e]⟩
theorem idRefs_any (v:Value) (l:List Pr) (w:World) (hv:IsPairs w v l):
 Calls Tryz.prog 51 #[v] w fun e w'=>e=.returned (errV (refsC l))∧Below w.heap.size w w':=by
 obtain⟨a,cap,rfl,h1,h2,hr,h3⟩:=hv;go_enter Tryz.func51,Tryz.ntmps51
 go_wp2_with fail;go_loopw [8] (fun i wr=>∃k:Nat,k≤l.length∧i=.int .i64 k∧(l.take k).all refB=true∧Below w.heap.size w wr) (fun i _=>l.length - (RowKit.intOf i).toNat)
 case atStart=>exact⟨0,Nat.zero_le _,rfl,by simp,Below.refl _ _⟩
 case round=>
  obtain⟨k,hk,rfl,hall,hbel⟩:=hrel;have hz:=hbel.size;by_cases hlt:k<l.length
  ·obtain⟨b,off,rfl,h4,h5⟩:=h3 (fun e=>by rw[e] at hlt;simp at hlt);have x0:wr.cell? ⟨b,off+k*2,none⟩=some (.int .i64 l[k].1):=by rw[hbel.cell (p:=⟨b,off+k*2,none⟩) h4];exact(h5 k hlt).1
   have x1:wr.cell? ⟨b,off+k*2+1,none⟩=some (.int .i64 l[k].2):=by rw[hbel.cell (p:=⟨b,off+k*2+1,none⟩) h4];exact(h5 k hlt).2
   have g1:(k:Int)<l.length:=by omega
   have HA:Hid (refB l[k]=true→(l.take (k+1)).all refB=true):=all_take k hlt hall;have HN:Hid (refB l[k]=false→refsC l=1):=fun e=>by unfold refsC;rw[all_no k hlt e];rfl
   obtain⟨⟨x,y⟩,hxy⟩:∃q,l[k]=q:=⟨_,rfl⟩
   rw[hxy] at x0 x1 HA HN;unfold refB at HA HN;dsimp only at x0 x1 HA HN;have BA:Below w.heap.size w (wr.alloc (.cells #[.int .i64 x,.int .i64 y] 45)):=hbel.alloc hz _;have hbx:(wr.alloc (.cells #[.int .i64 x,.int .i64 y] 45)).heap[wr.heap.size]?=some (.cells #[.int .i64 x,.int .i64 y] 45):=(MapKept.heap_alloc wr _).1;clear hall h5 h3 hxy;go_wp2_with fail;refine(isActor_any x _).mono ?_;rintro e w1 ⟨rfl,b1⟩;have B1:Below w.heap.size w w1:=BA.trans (b1.mono BA.size);have hb1:=heap_below hbx b1 lRf;obtain⟨-,c1,-⟩:=cLs hb1;cases hA:fromB x 99 with
   | false=>
    rw[hA] at HN;clear hA;go_wp2;go_ret;exact⟨by rw[HN.out rfl];rfl,B1⟩
   | true=>
    rw[hA] at HN HA;clear hA;go_wp2_with fail;refine(isNum_any y _).mono ?_;rintro e w2 ⟨rfl,b2⟩;have B2:Below w.heap.size w w2:=B1.trans (b2.mono B1.size);cases hB:fromB y 1000000 with
    | false=>
     rw[hB] at HN;clear hB;go_wp2;go_ret;exact⟨by rw[HN.out rfl];rfl,B2⟩
    | true=>
     rw[hB] at HA;clear hB;go_wp2;go_roundw
     case rel=>exact⟨k+1,hlt,by go_num,HA.out rfl,B2⟩
     case measure=>simp[RowKit.intOf];omega
  ·have hke:k=l.length:=by omega
   subst hke;rw[List.take_of_length_le lRf] at hall;have HC:Hid (refsC l=if chainB (fun a b=>decide (a.1<b.1)) l=true then 0 else 5):=by
    show _=_;unfold refsC;rw[if_pos hall]
   have g1:¬(l.length:Int)<l.length:=by omega
   clear hall;go_wp2_with fail;go_loopw [5] (fun i w2=>∃k:Nat,1≤k∧i=.int .i64 k∧(∀j (h:j+1<l.length),j+1<k→l[j].1<l[j+1].1)∧(k≤l.length∨k=1)∧Below w.heap.size w w2) (fun i _=>l.length - (RowKit.intOf i).toNat)
   case atStart=>exact⟨1,lRf,rfl,fun j _ h=>by omega,Or.inr rfl,hbel⟩
   case round=>
    clear hbel hk hz;obtain⟨k,hk1,rfl,hch,hk,hbel⟩:=hrel;have hz:=hbel.size;by_cases hlt:k<l.length
    ·obtain⟨b,off,rfl,h4,h5⟩:=h3 (fun e=>by rw[e] at hlt;simp at hlt);have hk0:k - 1<l.length:=by omega
     have x0:wr.cell? ⟨b,off+k*2,none⟩=some (.int .i64 l[k].1):=by rw[hbel.cell (p:=⟨b,off+k*2,none⟩) h4];exact(h5 k hlt).1
     have x1:wr.cell? ⟨b,off+(k - 1)*2,none⟩=some (.int .i64 l[k - 1].1):=by rw[hbel.cell (p:=⟨b,off+(k - 1)*2,none⟩) h4];exact(h5 (k - 1) hk0).1
     have g1:(k:Int)<l.length:=by omega
     have dw:IntKind.i64.wrap ((k:Int) - 1)=(k:Int) - 1:=IntWalk.i64_in _ (by omega);by_cases hle:l[k - 1].1<l[k].1
     ·have HC2:Hid (∀j (h:j+1<l.length),j+1<k+1→l[j].1<l[j+1].1):=by
       intro j h hj;by_cases e:j+1<k
       ·exact hch j h e
       ·obtain rfl:j=k - 1:=by omega
        have e2:k - 1+1=k:=by omega
        simp only[e2];exact hle
      have d1:decide (l[k].1≤l[k - 1].1)=false:=by rw[decide_eq_false_iff_not];omega
      clear hch h5 h3 hle;generalize l[k].1=y at *;generalize l[k - 1].1=x at *;go_wp2;go_quiet (fail);go_wp2;go_roundw
      case rel=>exact⟨k+1,by omega,by go_num,HC2.out,Or.inl (by omega),below_drew hbel nq⟩
      case measure=>simp[RowKit.intOf];omega
     ·have HN:Hid (refsC l=5):=by
       show _=_;rw[HC.out,if_neg];intro e;have:=(chainB_iff _ _).1 e (k - 1) (by omega);have e2:k - 1+1=k:=by omega
       simp only[e2,decide_eq_true_eq] at this;exact hle this
      have d1:decide (l[k].1≤l[k - 1].1)=true:=by rw[decide_eq_true_eq];omega
      have g2:l[k].1≤l[k - 1].1:=by omega
      clear hch h5 h3 hle;generalize l[k].1=y at *;generalize l[k - 1].1=x at *;go_wp2;go_quiet (fail);go_wp2;go_ret;exact⟨by rw[HN.out];rfl,below_drew hbel nq⟩
    ·have HN:Hid (refsC l=0):=by
      show _=_;rw[HC.out,if_pos];rw[chainB_iff];intro i hi;rw[decide_eq_true_eq];exact hch i hi (by omega)
     have g1:¬(k:Int)<l.length:=by omega
     clear hch;go_wp2;go_ret;exact⟨by rw[HN.out];rfl,hbel⟩
theorem rises_any (v:Value) (l:List Pr) (w:World) (hv:IsPairs w v l):
 Calls Tryz.prog 101 #[v] w fun e w'=>e=.returned (.bool (risesB l))∧Below w.heap.size w w':=by
 obtain⟨a,cap,rfl,h1,h2,hr,h3⟩:=hv;go_enter Tryz.func101,Tryz.ntmps101
 go_wp2_with fail;go_loopw [3] (fun i w2=>∃k:Nat,1≤k∧i=.int .i64 k∧(∀j (h:j+1<l.length),j+1<k→lessB l[j].1 l[j].2 l[j+1].1 l[j+1].2=true)∧(k≤l.length∨k=1)∧Below w.heap.size w w2) (fun i _=>l.length - (RowKit.intOf i).toNat)
 case atStart=>exact⟨1,lRf,rfl,fun j _ h=>by omega,Or.inr rfl,Below.refl _ _⟩
 case round=>
  obtain⟨k,hk1,rfl,hch,hk,hbel⟩:=hrel;have hz:=hbel.size;by_cases hlt:k<l.length
  ·obtain⟨b,off,rfl,h4,h5⟩:=h3 (fun e=>by rw[e] at hlt;simp at hlt);have hk0:k - 1<l.length:=by omega
   have x0:wr.cell? ⟨b,off+k*2,none⟩=some (.int .i64 l[k].1):=by rw[hbel.cell (p:=⟨b,off+k*2,none⟩) h4];exact(h5 k hlt).1
   have x1:wr.cell? ⟨b,off+k*2+1,none⟩=some (.int .i64 l[k].2):=by rw[hbel.cell (p:=⟨b,off+k*2+1,none⟩) h4];exact(h5 k hlt).2
   have y0:wr.cell? ⟨b,off+(k - 1)*2,none⟩=some (.int .i64 l[k - 1].1):=by rw[hbel.cell (p:=⟨b,off+(k - 1)*2,none⟩) h4];exact(h5 (k - 1) hk0).1
   have y1:wr.cell? ⟨b,off+(k - 1)*2+1,none⟩=some (.int .i64 l[k - 1].2):=by rw[hbel.cell (p:=⟨b,off+(k - 1)*2+1,none⟩) h4];exact(h5 (k - 1) hk0).2
   have g1:(k:Int)<l.length:=by omega
   have dw:IntKind.i64.wrap ((k:Int) - 1)=(k:Int) - 1:=IntWalk.i64_in _ (by omega);have dw2:0≤(k:Int) - 1∧(k:Int) - 1<l.length:=by omega
   have dw3:((k:Int) - 1).toNat=k - 1:=by omega
   have HC2:Hid (lessB l[k - 1].1 l[k - 1].2 l[k].1 l[k].2=true→∀j (h:j+1<l.length),j+1<k+1→lessB l[j].1 l[j].2 l[j+1].1 l[j+1].2=true):=by
    intro hle j h hj;by_cases e:j+1<k
    ·exact hch j h e
    ·obtain rfl:j=k - 1:=by omega
     have e2:k - 1+1=k:=by omega
     simp only[e2];exact hle
   have HN:Hid (lessB l[k - 1].1 l[k - 1].2 l[k].1 l[k].2=false→risesB l=false):=by
    intro hle;cases e:risesB l with
    | false=>rfl
    | true=>
     have:=(chainB_iff _ _).1 e (k - 1) (by omega);have e2:k - 1+1=k:=by omega
     simp only[e2] at this;rw[hle] at this;cases this
   clear hch h5 h3;generalize l[k]=y at *;generalize l[k - 1]=x at *;have L:=fun W=>less_any x.1 x.2 y.1 y.2 W;cases hL:lessB x.1 x.2 y.1 y.2 with
   | true=>
    rw[hL] at HC2;simp only[hL] at L;clear hL HN;go_wp2;go_region_with (go_at_call 137;refine(L _).mono ?_;rintro e w1 ⟨rfl,b1⟩);all_goals
     have B1:Below w.heap.size w w1:=hbel.drew.trans (b1.mono hz);go_wp2;go_roundw
     case rel=>exact⟨k+1,by omega,by go_num,HC2.out trivial,Or.inl (by omega),B1⟩
     case measure=>simp[RowKit.intOf];omega
   | false=>
    rw[hL] at HN;simp only[hL] at L;clear hL HC2;go_wp2;go_region_with (go_at_call 137;refine(L _).mono ?_;rintro e w1 ⟨rfl,b1⟩);all_goals
     have B1:Below w.heap.size w w1:=hbel.drew.trans (b1.mono hz);go_wp2;go_ret;exact⟨by rw[HN.out trivial];rfl,B1⟩
  ·have HN:Hid (risesB l=true):=by
    show _=_;unfold risesB;rw[chainB_iff];intro i hi;exact hch i hi (by omega)
   have g1:¬(k:Int)<l.length:=by omega
   clear hch;go_wp2;go_ret;exact⟨by rw[HN.out];rfl,hbel⟩
theorem op_box {w:World} {o:OpM} {vp:Value}:(w.alloc (.cells (opCells o vp).toArray 62)).heap[w.heap.size]?=some (.cells (opCells o vp).toArray 62):=(MapKept.heap_alloc w _).1
theorem hasIds_any (o:OpM) (vp:Value) (w:World) (hv:IsPairs w vp o.preds):
 Calls Tryz.prog 100 #[opVal o vp] w fun e w'=>e=.returned (.bool (hasIdsB o))∧Below w.heap.size w w':=by
 obtain⟨a,cap,rfl,h1,h2,hr,h3⟩:=hv;have BA:Below w.heap.size w (w.alloc (.cells (opCells o (.slice a o.preds.length cap)).toArray 62)):=bAl w _;have hbx:=op_box (w:=w) (o:=o) (vp:=.slice a o.preds.length cap);unfold opCells at BA hbx;unfold opVal opCells;go_enter Tryz.func100,Tryz.ntmps100
 go_wp2_with fail;go_loopw [8] (fun i wr=>∃k:Nat,k≤o.preds.length∧i=.int .i64 k∧(o.preds.take k).all (fun q=> !rootB q&&idOkB q.1 q.2)=true∧wr.heap[w.heap.size]?=some (.cells (opCells o (.slice a o.preds.length cap)).toArray 62)∧Below w.heap.size w wr) (fun i _=>o.preds.length - (RowKit.intOf i).toNat)
 case atStart=>exact⟨0,Nat.zero_le _,rfl,by simp,hbx,BA⟩
 case round=>
  clear hbx BA;obtain⟨k,hk,rfl,hall,hbx,hbel⟩:=hrel;have hz:=hbel.size;by_cases hlt:k<o.preds.length
  ·obtain⟨b,off,rfl,h4,h5⟩:=h3 (fun e=>by rw[e] at hlt;simp at hlt);have x0:wr.cell? ⟨b,off+k*2,none⟩=some (.int .i64 o.preds[k].1):=by rw[hbel.cell (p:=⟨b,off+k*2,none⟩) h4];exact(h5 k hlt).1
   have x1:wr.cell? ⟨b,off+k*2+1,none⟩=some (.int .i64 o.preds[k].2):=by rw[hbel.cell (p:=⟨b,off+k*2+1,none⟩) h4];exact(h5 k hlt).2
   have g1:(k:Int)<o.preds.length:=by omega
   have HA:Hid ((!rootB o.preds[k]&&idOkB o.preds[k].1 o.preds[k].2)=true→(o.preds.take (k+1)).all (fun q=> !rootB q&&idOkB q.1 q.2)=true):=all_take k hlt hall;have HN:Hid ((!rootB o.preds[k]&&idOkB o.preds[k].1 o.preds[k].2)=false→hasIdsB o=false):=fun e=>by unfold hasIdsB;rw[all_no k hlt e];rfl
   obtain⟨⟨x,y⟩,hxy⟩:∃q,o.preds[k]=q:=⟨_,rfl⟩
   rw[hxy] at x0 x1 HA HN;dsimp only at x0 x1 HA HN;have BB:Below w.heap.size w (wr.alloc (.cells #[.int .i64 x,.int .i64 y] 49)):=hbel.alloc hz _;have hby:(wr.alloc (.cells #[.int .i64 x,.int .i64 y] 49)).heap[wr.heap.size]?=some (.cells #[.int .i64 x,.int .i64 y] 49):=(MapKept.heap_alloc wr _).1;have hbx1:=heap_below hbx (bAl wr (.cells #[.int .i64 x,.int .i64 y] 49)) lRf;clear hall h5 h3 hxy hbx;go_wp2_with fail;refine(cRoot_any x y _).mono ?_;rintro e w1 ⟨rfl,b1⟩;have B1:Below w.heap.size w w1:=BB.trans (b1.mono BB.size);have hb1:=heap_below hby b1 lRf;have hbx2:=heap_below hbx1 b1 lRf;obtain⟨c0,c1,-⟩:=cLs hb1;clear hby hbx1 b1 BB;cases hA:rootB (x,y) with
   | true=>
    rw[hA] at HN;clear hA hbx2;go_wp2;go_ret;exact⟨by rw[HN.out rfl];rfl,B1⟩
   | false=>
    rw[hA] at HN HA;clear hA;go_wp2_with fail;refine(idCheck_any x y _).mono ?_;rintro e w2 ⟨rfl,b2⟩;have B2:Below w.heap.size w w2:=B1.trans (b2.mono B1.size);have hbx3:=heap_below hbx2 b2 lRf;clear hbx2 b2 c0 c1;cases hB:idOkB x y with
    | false=>
     rw[hB] at HN;clear hB hbx3;unfold errV;go_wp2;go_ret;exact⟨by rw[HN.out rfl];rfl,B2⟩
    | true=>
     rw[hB] at HA;clear hB;unfold errV;have HX:Hid (w2.heap[w.heap.size]?=some (.cells (opCells o (.slice (some ⟨b,off,none⟩) o.preds.length cap)).toArray 62)):=hbx3;clear hbx3;go_wp2;go_roundw
     case rel=>exact⟨k+1,hlt,by go_num,HA.out rfl,HX.out,B2⟩
     case measure=>simp[RowKit.intOf];omega
  ·have hke:k=o.preds.length:=by omega
   subst hke;rw[List.take_of_length_le lRf] at hall;have HC:Hid (hasIdsB o=(idOkB o.obj.1 o.obj.2&&idOkB o.elem.1 o.elem.2)):=by
    show _=_;unfold hasIdsB;rw[hall,Bool.true_and]
   have g1:¬(o.preds.length:Int)<o.preds.length:=by omega
   obtain⟨-,c1,c2,-⟩:=cLs hbx;clear hall h3;go_wp2_with fail;refine(idCheck_any o.obj.1 o.obj.2 _).mono ?_;rintro e w1 ⟨rfl,b1⟩;have B1:Below w.heap.size w w1:=hbel.trans (b1.mono hbel.size);have hb1:=heap_below hbx b1 lRf;obtain⟨-,-,-,-,d4,d5,-⟩:=cLs hb1;clear hbx hb1 c1 c2 b1 hbel;cases hA:idOkB o.obj.1 o.obj.2 with
   | false=>
    rw[hA] at HC;clear hA;unfold errV;go_wp2;go_ret;exact⟨by rw[HC.out];rfl,B1⟩
   | true=>
    rw[hA] at HC;clear hA;unfold errV;go_wp2_with fail;refine(idCheck_any o.elem.1 o.elem.2 _).mono ?_;rintro e w2 ⟨rfl,b2⟩;have B2:Below w.heap.size w w2:=B1.trans (b2.mono B1.size);cases hB:idOkB o.elem.1 o.elem.2 with
    | false=>
     rw[hB] at HC;clear hB;unfold errV;go_wp2;go_ret;exact⟨by rw[HC.out];rfl,B2⟩
    | true=>
     rw[hB] at HC;clear hB;unfold errV;go_wp2;go_ret;exact⟨by rw[HC.out];rfl,B2⟩
end Go.Proofs.YtamhlgflbacjgaaGreat
