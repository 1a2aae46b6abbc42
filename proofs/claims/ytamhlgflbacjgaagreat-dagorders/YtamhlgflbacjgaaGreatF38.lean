/-
  What is proved: as each theorem says.
  Conditions: as each theorem says.
-/
import Derived.Test.YtamhlgflbacjgaaGreatF00
import Derived.Test.YtamhlgflbacjgaaGreatF24
import Derived.Test.YtamhlgflbacjgaaGreatF14
import Derived.Test.YtamhlgflbacjgaaGreatF25
import Derived.Test.YtamhlgflbacjgaaGreatF30
import Derived.Deep.CutBlock
set_option maxRecDepth 100000
set_option maxHeartbeats 16000000
namespace Go.Proofs.YtamhlgflbacjgaaGreat
open Go.RowKit Go.Sort
def LeastQ (R:Chg→Prop) (W:List Chg) (i:Nat) (at':Int):Prop:=
 (at'= -1∧∀j (h:j<W.length),j<i→¬R W[j])∨∃k:Nat,at'=k∧∃h:k<W.length,k<i∧R W[k]∧∀j (hj:j<W.length),j<i→R W[j]→W[j].ref=W[k].ref∨ltR W[k].ref W[j].ref
theorem LeastQ.start (R:Chg→Prop) (W:List Chg):LeastQ R W 0 (-1):=Or.inl ⟨rfl,fun _ _ h=>absurd h (Nat.not_lt_zero _)⟩
theorem LeastQ.skip {R:Chg→Prop} {W:List Chg} {i:Nat} {at':Int} (h:LeastQ R W i at') (hi:i<W.length) (hn:¬R W[i]):LeastQ R W (i+1) at':=by
 rcases h with⟨e,h⟩ | ⟨k,e,hk,hki,hr,h⟩
 ·refine Or.inl ⟨e,fun j hj hji=>?_⟩;rcases Nat.lt_or_ge j i with h1 | h1
  ·exact h j hj h1
  ·obtain rfl:j=i:=by omega
   exact hn
 ·refine Or.inr ⟨k,e,hk,by omega,hr,fun j hj hji hrj=>?_⟩;rcases Nat.lt_or_ge j i with h1 | h1
  ·exact h j hj h1 hrj
  ·obtain rfl:j=i:=by omega
   exact absurd hrj hn
theorem LeastQ.first {R:Chg→Prop} {W:List Chg} {i:Nat} {at':Int} (h:LeastQ R W i at') (hi:i<W.length) (hr:R W[i]) (ha:at'<0):LeastQ R W (i+1) (i:Int):=by
 rcases h with⟨e,h⟩ | ⟨k,e,hk,hki,hr,h⟩
 ·refine Or.inr ⟨i,rfl,hi,by omega,hr,fun j hj hji hrj=>?_⟩;rcases Nat.lt_or_ge j i with h1 | h1
  ·exact absurd hrj (h j hj h1)
  ·obtain rfl:j=i:=by omega
   exact Or.inl rfl
 ·omega
theorem LeastQ.ahead {R:Chg→Prop} {W:List Chg} {i k:Nat} (h:LeastQ R W i (k:Int)) (hi:i<W.length) (hk:k<W.length) (hr:R W[i]) (ha:ltR W[i].ref W[k].ref):LeastQ R W (i+1) (i:Int):=by
 rcases h with⟨e,h⟩ | ⟨k',e,hk',hki,hrk,h⟩
 ·omega
 ·obtain rfl:k=k':=by omega
  refine Or.inr ⟨i,rfl,hi,by omega,hr,fun j hj hji hrj=>?_⟩;rcases Nat.lt_or_ge j i with h1 | h1
  ·rcases h j hj h1 hrj with e2 | e2
   ·right;rw[e2];exact ha
   ·right;exact ltR_trans ha e2
  ·obtain rfl:j=i:=by omega
   exact Or.inl rfl
theorem LeastQ.behind {R:Chg→Prop} {W:List Chg} {i k:Nat} (h:LeastQ R W i (k:Int)) (hi:i<W.length) (hk:k<W.length) (ha:¬ltR W[i].ref W[k].ref):LeastQ R W (i+1) (k:Int):=by
 rcases h with⟨e,h⟩ | ⟨k',e,hk',hki,hrk,h⟩
 ·omega
 ·obtain rfl:k=k':=by omega
  refine Or.inr ⟨k,rfl,hk,by omega,hrk,fun j hj hji hrj=>?_⟩;rcases Nat.lt_or_ge j i with h1 | h1
  ·exact h j hj h1 hrj
  ·obtain rfl:j=i:=by omega
   by_cases e2:W[j].ref=W[k].ref
   ·exact Or.inl e2
   ·exact Or.inr (ltR_total e2 ha)
theorem LeastQ.neg {R:Chg→Prop} {W:List Chg} {i:Nat} {at':Int} (h:LeastQ R W i at') (hi:W.length≤i) (ha:at'<0):∀x∈W,¬R x:=by
 rcases h with⟨e,h⟩ | ⟨k,e,_⟩
 ·intro x hx;obtain⟨j,hj,rfl⟩:=List.getElem_of_mem hx;exact h j hj (by omega)
 ·omega
def Nxt (D:List Chg) (c:Chg):Prop:=c.ref∉refsOf D∧∀d∈c.deps,d∈refsOf D
structure AllO (L D:List Chg):Prop where
 sub:∀c∈D,c∈L
 nd:(refsOf D).Nodup
 ord:∀pre c post,D=pre++c::post→Nxt pre c∧∀x∈L,Nxt pre x→x.ref=c.ref∨ltR c.ref x.ref
theorem AllO.nil (L:List Chg):AllO L []:=⟨(fun _ h=>by cases h),List.nodup_nil,(fun pre c post h=>by simp at h)⟩
theorem AllO.snoc {L D:List Chg} (h:AllO L D) {k:Nat} (hk:LeastQ (Nxt D) L L.length (k:Int)):∃hk:k<L.length,AllO L (D++[L[k]]):=by
 rcases hk with⟨e,_⟩ | ⟨k',e,hk',_,hr,hl⟩
 ·omega
 ·obtain rfl:k=k':=by omega
  refine⟨hk',fun c hc=>?_,?_,fun pre c post hp=>?_⟩
  ·rcases List.mem_append.1 hc with hc | hc
   ·exact h.sub c hc
   ·rw[List.mem_singleton.1 hc];exact List.getElem_mem _
  ·rw[refs_append];refine List.nodup_append.2 ⟨h.nd,by simp[refsOf],fun a ha b hb e=>?_⟩;have:b=L[k].ref:=by simpa [refsOf] using hb
   rw[e,this] at ha;exact hr.1 ha
  ·rcases List.eq_nil_or_concat post with rfl | ⟨post',x,rfl⟩
   ·have h1:=List.append_inj' hp rfl;have h2:L[k]=c:=by simpa using h1.2
    rw[←h1.1,←h2];refine⟨hr,fun x hx hn=>?_⟩;obtain⟨j,hj,rfl⟩:=List.getElem_of_mem hx;exact hl j hj hj hn
   ·have e':D++[L[k]]=(pre++c::post')++[x]:=by rw[hp];simp
    exact h.ord pre c post' (List.append_inj' e' rfl).1
theorem sub_len {L D:List Chg} (hn:(refsOf L).Nodup) (hs:∀r∈refsOf L,r∈refsOf D):L.length≤D.length:=by
 have:∀(R S:List Pr),R.Nodup→(∀x∈R,x∈S)→R.length≤S.length:=by
  intro R
  induction R with
  | nil=>intro S _ _;simp
  | cons a l ih=>
   intro S h hs;have h2:=List.nodup_cons.1 h;obtain⟨s,t,rfl⟩:=List.append_of_mem (hs a (List.mem_cons_self ..));have:=ih (s++t) h2.2 (fun x hx=>by
    have h3:=hs x (List.mem_cons_of_mem _ hx);rcases List.mem_append.1 h3 with h4 | h4
    ·exact List.mem_append_left _ h4
    ·rcases List.mem_cons.1 h4 with rfl | h4
     ·exact absurd hx h2.1
     ·exact List.mem_append_right _ h4)
   simp only[List.length_append,List.length_cons] at this ⊢;omega
 have h1:=this _ _ hn hs;unfold refsOf at h1
 rwa [List.length_map,List.length_map] at h1
theorem nxt_ex {L D:List Chg} (I:Inv L) (hl:D.length<L.length):∃c∈L,Nxt D c:=by
 have hex:∃i,∃h:i<L.length,L[i].ref∉refsOf D:=by
  refine Classical.byContradiction fun hn=>?_;have:=sub_len (D:=D) I.nd (fun r hr=>by
   obtain⟨c,hc,rfl⟩:=mem_refs.1 hr;obtain⟨i,hi,rfl⟩:=List.getElem_of_mem hc;exact Classical.byContradiction fun h=>hn ⟨i,hi,h⟩)
  omega
 have key:∀n,∀i,i≤n→∀h:i<L.length,L[i].ref∉refsOf D→∃c∈L,Nxt D c:=by
  intro n
  induction n with
  | zero=>
   intro i hi h hn;refine⟨L[i],List.getElem_mem _,hn,fun d hd=>?_⟩;obtain rfl:i=0:=by omega
   have e:L=[]++L[0]::L.drop 1:=by
    cases L with
    | nil=>simp at h
    | cons a t=>rfl
   have:=(I.fit [] L[0] (L.drop 1) e).1 d hd;simp[refsOf] at this
  | succ n ih=>
   intro i hi h hn;by_cases hc:∀d∈L[i].deps,d∈refsOf D
   ·exact⟨L[i],List.getElem_mem _,hn,hc⟩
   ·obtain⟨d,hd⟩:=Classical.not_forall.1 hc;obtain⟨hd,hdn⟩:=Classical.not_imp.1 hd;have e:L=L.take i++L[i]::L.drop (i+1):=by rw[List.getElem_cons_drop,List.take_append_drop]
    have h1:=(I.fit _ _ _ e).1 d hd;obtain⟨x,hx,rfl⟩:=mem_refs.1 h1;obtain⟨j,hj,hjx⟩:=List.getElem_of_mem hx;rw[List.length_take] at hj;have e2:L[j]'(by omega)=x:=by rw[←hjx,List.getElem_take]
    exact ih j (by omega) (by omega) (by rw[e2];exact hdn)
 obtain⟨i,hi,hn⟩:=hex;exact key i i lRf hi hn
def slLen:Value→Nat
 | .slice _ n _=>n
 | _=>0
theorem AllO.len {L D:List Chg} (h:AllO L D):D.length≤L.length:=sub_len h.nd fun r hr=>by
 obtain⟨c,hc,rfl⟩:=mem_refs.1 hr;exact mem_refs.2 ⟨c,h.sub c hc,rfl⟩
def RAllP (w:World) (EL:List CE) (e:Ending) (w':World):Prop:=∃vo es,e=.returned vo∧RowC w.heap.size vo (es.map (·.2)) w'∧AllO (chgsOf EL) (chgsOf es)∧es.length=EL.length∧(∀p∈es,p∈EL)∧Below w.heap.size w w'
theorem aheadRef {w:World} (a s b t:Int) (z:Bool) (hz:aheadB (a,s) (b,t)=z):
 Calls Tryz.prog 63 #[.agg #[.int .i64 a,.int .i64 s],.agg #[.int .i64 b,.int .i64 t]] w fun e w'=>e=.returned (.bool z)∧Below w.heap.size w w':=by
 rw[←hz];exact rAhead_any (a,s) (b,t) w
theorem rAll_any (g:Nat) (vl vw:Value) (EL:List CE) (w:World) (bb:w.heap[g]?=some (.cells #[vl,vw] 73)) (hr:RowC 0 vl (EL.map (·.2)) w) (hcw:∀p∈EL,IsChgW w p.2 p.1) (hl:EL.length≤120) (I:Inv (chgsOf EL)):
 Calls Tryz.prog 27 #[.pointer (some ⟨g,0,none⟩)] w fun e w'=>RAllP w EL e w':=by
 have hv:IsChgs w vl (EL.map toCX):=rowC_chgs hr (by omega) fun p hp=>(hcw p hp).chg;obtain⟨l,hll⟩:=gNz (EL.map toCX);rw[hll] at hv;obtain⟨la,ln,lc,rfl⟩:∃a n c,vl=.slice a n c:=by obtain⟨a,c,e,_⟩:=hv;exact⟨_,_,_,e⟩
 have hln:ln=l.length:=by obtain⟨_,_,e,_⟩:=hv;exact(Value.slice.inj e).2.1
 have HV:Hid (IsChgs w (.slice la ln lc) l):=hv;have HLL:Hid (EL.map toCX=l):=hll;have HLN:Hid (ln=l.length∧l.length≤120∧ln=EL.length):=by
  have e:l.length=EL.length:=by rw[←hll,List.length_map]
  exact⟨hln,by omega,by omega⟩
 have HCW:Hid (∀p∈EL,IsChgW w p.2 p.1):=hcw;have HI:Hid (Inv (chgsOf EL)):=I;have HLC:Hid (∀(k:Nat) (x:CX),l[k]?=some x→∃h:k<(chgsOf EL).length,(chgsOf EL)[k]=x.c∧∃p∈EL,x=toCX p∧p.1=x.c):=fun k x hx=>by
  rw[←hll,List.getElem?_map] at hx;obtain⟨p,hp,rfl⟩:=Option.map_eq_some_iff.1 hx;obtain⟨h1,h2⟩:=List.getElem?_eq_some_iff.1 hp;refine⟨by unfold chgsOf;rw[List.length_map];exact h1,?_,p,List.mem_of_getElem? hp,rfl,rfl⟩;unfold chgsOf;rw[List.getElem_map,h2];rfl
 have HCE:Hid (chgsOf EL=l.map (·.c)):=by show _=_;rw[←hll,map_toCX]
 have HBX:Hid (w.heap[g]?=some (.cells #[.slice la ln lc,vw] 73)):=bb;obtain⟨post,hpost⟩:∃post:Ending→World→Prop,post=fun e w'=>RAllP w EL e w':=⟨_,rfl⟩
 have HPO:Hid (post=fun e w'=>RAllP w EL e w'):=hpost;rw[←hpost];clear hv hl hln bb hpost hll hr hcw I;go_enter Tryz.func27,Tryz.ntmps27
 go_wp2_with fail;go_loopw [3] (fun oo wr=>∃(es:List CE) (oa:Option Addr) (on oc:Nat),oo=.slice oa on oc∧Hid (on=es.length∧RowC w.heap.size (.slice oa on oc) (es.map (·.2)) wr∧Below w.heap.size w wr∧AllO (chgsOf EL) (chgsOf es)∧∀p∈es,p∈EL)) (fun oo _=>ln - slLen oo)
 case atStart=>exact⟨[],none,0,0,rfl,rfl,World.ownsRow_nil _ _ _ _,Below.refl _ _,AllO.nil _,fun _ h=>by cases h⟩
 case round=>
  obtain⟨es,oa,on,oc,rfl,HR⟩:=hrel;have HON:Hid (on≤ln):=by
   have h1:=HR.out.2.2.2.1.len;unfold chgsOf at h1;rw[List.length_map,List.length_map] at h1;have:=HLN.out;have:=HR.out.1;show _≤_;omega
  have d0:wr.cell? ⟨g,0,none⟩=some (.slice la ln lc):=cLo (heap_below HBX.out HR.out.2.2.1 lRf) 0;have HES:Hid (∀W,Below wr.heap.size wr W→IsChgs W (.slice oa on oc) (es.map toCX)):=fun W hW=>by
   have h1:RowC w.heap.size (.slice oa on oc) (es.map (·.2)) W:=own_below HR.out.2.1 hW lRf;exact rowC_chgs h1 (by have:=HON.out;have:=HR.out.1;have:=HLN.out;omega) fun p hp=>((HCW.out p (HR.out.2.2.2.2 p hp)).chg).below (HR.out.2.2.1.trans (hW.mono HR.out.2.2.1.size))
  obtain⟨wo,hwo⟩:∃x:World,x=wr:=⟨wr,rfl⟩
  subst hwo;by_cases hlt:on<ln
  ·have HLT:Hid (on<ln):=hlt;have g0:(on:Int)<ln:=by omega
   clear hlt;go_upto_region 3 with fail
   clear d0 g0;go_wp2_with fail;go_loopw [4,5] (fun av i wr=>∃(k:Nat) (z:Int),k≤ln∧i=.int .i64 (k:Int)∧av=.int .i64 z∧Hid (LeastQ (Nxt (chgsOf es)) (chgsOf EL) k z∧Below wo.heap.size wo wr)) (fun _ i _=>ln - (RowKit.intOf i).toNat)
   case atStart=>exact⟨0,-1,Nat.zero_le _,rfl,rfl,LeastQ.start _ _,Below.refl _ _⟩
   case round=>
    obtain⟨k,z,hk,rfl,rfl,HK⟩:=hrel;have HKB:Hid (∀W,Below wr.heap.size wr W→Below wo.heap.size wo W∧Below w.heap.size w W):=fun W hW=>⟨HK.out.2.trans (hW.mono HK.out.2.size),HR.out.2.2.1.trans ((HK.out.2.trans (hW.mono HK.out.2.size)).mono HR.out.2.2.1.size)⟩
    by_cases hkl:k<ln
    ·obtain⟨x,hx⟩:∃z:CX,l[k]?=some z:=⟨_,List.getElem?_eq_getElem (by have:=HLN.out.1;omega)⟩
     obtain⟨xB,xO,exl,xbl,xq1,xq2,xin,xcell,xq3⟩:=chgs_one HV.out hx;clear xq1 xq2 xq3;obtain⟨⟨x1,x2,x3⟩,xd,xdn,xdc,xo,xom,xoe,xeu,xeo⟩:=CX.form xin;clear x3;obtain⟨xa,hxa⟩:=gNz (x.c.actor:Int);obtain⟨xs,hxs⟩:=gNz (x.c.seq:Int);obtain⟨xt,hxt⟩:=gNz (x.c.start:Int);have hla:la=some ⟨xB,xO,none⟩:=exl;subst hla;have HXP:Hid (IsPairs w (.slice xd xdn xdc) x.c.deps):=by
      obtain⟨ud',uo',lo,e,i1,i2,i3,hp,_⟩:=id xin;simp only[CX.val,Value.agg.injEq,Array.mk.injEq,List.cons.injEq,and_true,true_and] at e;rw[←xeu,e.1];exact hp
     have HCX:Hid (∀W,Below w.heap.size w W→W.cell? ⟨g,0,none⟩=some (.slice (some ⟨xB,xO,none⟩) ln lc)∧W.cell? ⟨xB,xO+k*5,none⟩=some (.int .i64 xa)∧W.cell? ⟨xB,xO+k*5+1,none⟩=some (.int .i64 xs)∧W.cell? ⟨xB,xO+k*5+2,none⟩=some (.int .i64 xt)∧W.cell? ⟨xB,xO+k*5+3,none⟩=some (.slice xd xdn xdc)∧W.cell? ⟨xB,xO+k*5+4,none⟩=some (.slice xo xom xoe)):=fun W hW=>by
      have hc:∀j,j<5→W.cell? ⟨xB,xO+k*5+j,none⟩=x.cells[j]?:=fun j hj=>(hW.cell (p:=⟨xB,xO+k*5+j,none⟩) xbl).trans (xcell j hj);refine⟨cLo (heap_below HBX.out hW lRf) 0,?_,?_,?_,?_,?_⟩
      ·rw[←hxa];exact hc 0 (by omega)
      ·rw[←hxs];exact hc 1 (by omega)
      ·rw[←hxt];exact hc 2 (by omega)
      ·rw[←xeu];exact hc 3 (by omega)
      ·rw[←xeo];exact hc 4 (by omega)
     have HXR:Hid (x.c.ref=(xa,xs)∧∃h:k<(chgsOf EL).length,(chgsOf EL)[k]=x.c):=by
      obtain⟨h1,h2,_⟩:=HLC.out k x hx;exact⟨by unfold Chg.ref;rw[hxa,hxs],h1,h2⟩
     have HKL:Hid (k<ln):=hkl;have HG:Hid ((k:Int)<ln∧(0:Int)≤k∧(k:Int)<1000):=⟨by omega,by omega,by have:=HLN.out;omega⟩
     clear hkl hk exl xbl xin xcell x1 x2 xeu xeo hxa hxs hxt hx;obtain⟨c0,z0,z1,z2,z3,z4⟩:=HCX.out wr (HKB.out wr (Below.refl _ _)).2;have g1:=HG.out.1;have g2:=HG.out.2.1;have E1:=rRefC_any xa xs xt xd xdn xdc xo xom xoe wr;go_wp2_with fail;go_fit E1;rintro e w4 ⟨rfl,b4⟩;have E2:=rFind_any (.slice oa on oc) (es.map toCX) (xa,xs) w4 (HES.out w4 (HKB.out w4 b4).1);have HB4:Hid (Below wr.heap.size wr w4):=b4;unfold refV at E2;clear b4 E1 c0 z0 z1 z2 z3 z4 g1 g2;go_wp2_with fail;go_fit E2;rintro e w5 ⟨⟨z6,rfl,hz6⟩,b5⟩;rw[map_toCX] at hz6;have HB5:Hid (Below wr.heap.size wr w5):=HB4.out.trans (b5.mono HB4.out.size);clear b5 E2 HB4;by_cases hz:z6<0
     ·have hnin:(xa,xs)∉refsOf (chgsOf es):=hz6.neg.1 hz;have HNI:Hid ((xa,xs)∉refsOf (chgsOf es)):=hnin;have hd:decide ((0:Int)≤z6)=false:=decide_eq_false (by omega);clear hz hz6 hnin;go_upto_region 9 with fail
      clear hd;go_wp2_with fail;go_loopw [7,8] (fun ov j wr=>∃(m:Nat) (ob:Bool),m≤xdn∧j=.int .i64 (m:Int)∧ov=.bool ob∧Hid ((ob=true↔∀t (h:t<x.c.deps.length),t<m→x.c.deps[t]∈refsOf (chgsOf es))∧Below w5.heap.size w5 wr)) (fun _ j _=>xdn - (RowKit.intOf j).toNat)
      case atStart=>exact⟨0,true,Nat.zero_le _,rfl,rfl,⟨fun _ t _ h=>absurd h (Nat.not_lt_zero _),fun _=>rfl⟩,Below.refl _ _⟩
      case round=>
       obtain⟨m,ob,hm,rfl,rfl,HM⟩:=hrel;obtain⟨wi,hwi⟩:∃x:World,x=wr:=⟨wr,rfl⟩
       subst hwi;have HIB:Hid (∀W,Below wi.heap.size wi W→Below wo.heap.size wo W∧Below w.heap.size w W):=fun W hW=>HKB.out W ((HB5.out.trans (HM.out.2.mono HB5.out.size)).trans (hW.mono (Nat.le_trans HB5.out.size HM.out.2.size)));obtain⟨c0,z0,z1,z2,z3,z4⟩:=HCX.out wi (HIB.out wi (Below.refl _ _)).2;have g1:=HG.out.1;have g2:=HG.out.2.1;have HDL:Hid (x.c.deps.length=xdn):=by
        obtain⟨_,_,e,_⟩:=HXP.out;exact(Value.slice.inj e).2.1.symm
       by_cases hml:m<xdn
       ·have hmd:m<x.c.deps.length:=by have:=HDL.out;omega
        obtain⟨_,_,e9,_,hd2,_,hd4⟩:=id HXP.out;obtain⟨pb,po,hpe,hpb,hpc⟩:=hd4 (fun e=>by rw[e] at hmd;simp at hmd);have hxd:xd=some ⟨pb,po,none⟩:=(Value.slice.inj e9).1.trans hpe;subst hxd;obtain⟨d,hd⟩:=gNz (x.c.deps[m]:Pr);have hBw:=(HIB.out wi (Below.refl _ _)).2;have p0:wi.cell? ⟨pb,po+m*2,none⟩=some (.int .i64 d.1):=by rw[hBw.cell (p:=⟨pb,po+m*2,none⟩) hpb,(hpc m hmd).1,hd]
        have p1:wi.cell? ⟨pb,po+m*2+1,none⟩=some (.int .i64 d.2):=by rw[hBw.cell (p:=⟨pb,po+m*2+1,none⟩) hpb,(hpc m hmd).2,hd]
        have HD:Hid (∃h:m<x.c.deps.length,x.c.deps[m]=d):=⟨hmd,hd⟩
        have HML:=hY2 hml ((by have:=HDL.out;omega):(m:Int)<1000000000000000);have E2:=rFind_any (.slice oa on oc) (es.map toCX) d wi (HES.out wi (HIB.out wi (Below.refl _ _)).1);have i1:(m:Int)<xdn:=by omega
        have i2:(0:Int)≤m:=by omega
        unfold refV at E2;clear hml hm hmd hd2 hd4 hpb hpc hd hBw e9 hpe z0 z1 z2 z4;go_wp2_with fail;go_fit E2;rintro e w7 ⟨⟨z7,rfl,hz7⟩,b7⟩;rw[map_toCX] at hz7;have HB7:Hid (Below w5.heap.size w5 w7):=HM.out.2.trans (b7.mono HM.out.2.size);clear b7 E2 c0 z3 p0 p1 i1 i2 g1 g2;obtain⟨nb,hnb⟩:=gNz ((ob&&decide ((0:Int)≤z7)):Bool);have HNX:Hid (nb=true↔∀t (h:t<x.c.deps.length),t<m+1→x.c.deps[t]∈refsOf (chgsOf es)):=by
         rw[←hnb,Bool.and_eq_true,HM.out.1,decide_eq_true_eq];obtain⟨h0,e0⟩:=HD.out;have h7:0≤z7↔d∈refsOf (chgsOf es):=⟨fun h=>Classical.byContradiction fun hn=>by have:=hz7.neg.2 hn;omega,fun h=>Int.not_lt.1 (fun hl=>hz7.neg.1 hl h)⟩
         rw[h7];constructor
         ·rintro⟨h1,h2⟩ t ht htm;rcases Nat.lt_or_ge t m with h3 | h3
          ·exact h1 t ht h3
          ·obtain rfl:t=m:=by omega
           rw[e0];exact h2
         ·intro h1;exact⟨fun t ht htm=>h1 t ht (by omega),by have:=h1 m h0 (by omega);rw[e0] at this;exact this⟩
        have HN7:Hid (nb=(ob&&decide ((0:Int)≤z7))):=hnb.symm;clear hz7 hnb;cases ob with
        | true=>
         have e1:decide ((0:Int)≤z7)=nb:=by rw[HN7.out];rfl
         go_upto_region 12 with fail
         have i3:=HML.out.2;go_wp2;go_roundw
         case rel=>exact⟨m+1,nb,HML.out.1,by go_num,(by first | rfl | (rw[e1]) | (simp[e1])),HNX.out,HB7.out⟩
         case measure=>have:=HML.out.1;simp[RowKit.intOf];omega
        | false=>
         have HNF:Hid (nb=false):=by rw[HN7.out];rfl
         go_upto_region 12 with fail
         have i3:=HML.out.2;go_wp2;go_roundw
         case rel=>exact⟨m+1,nb,HML.out.1,by go_num,(by rw[HNF.out]),HNX.out,HB7.out⟩
         case measure=>have:=HML.out.1;simp[RowKit.intOf];omega
       ·have i1:¬(m:Int)<xdn:=by omega
        have HOB:Hid (ob=true↔Nxt (chgsOf es) x.c):=by
         rw[HM.out.1];unfold Nxt;rw[HXR.out.1];constructor
         ·intro h;refine⟨HNI.out,fun d hd=>?_⟩;obtain⟨t,ht,rfl⟩:=List.getElem_of_mem hd;exact h t ht (by have:=HDL.out;omega)
         ·rintro⟨_,h⟩ t ht _;exact h _ (List.getElem_mem ht)
        clear hml hm;go_upto_region 15 with fail
        clear i1 c0 z0 z1 z2 z3 z4;refine rNh (fun W=>Below wi.heap.size wi W) ((Below.refl _ _).drew) (fun hHeld=>?_);have HCL:Hid (∀W,Below wi.heap.size wi W→W.cell? ⟨g,0,none⟩=some (.slice (some ⟨xB,xO,none⟩) ln lc)∧W.cell? ⟨xB,xO+k*5,none⟩=some (.int .i64 xa)∧W.cell? ⟨xB,xO+k*5+1,none⟩=some (.int .i64 xs)∧W.cell? ⟨xB,xO+k*5+2,none⟩=some (.int .i64 xt)∧W.cell? ⟨xB,xO+k*5+3,none⟩=some (.slice xd xdn xdc)∧W.cell? ⟨xB,xO+k*5+4,none⟩=some (.slice xo xom xoe)):=fun W hW=>HCX.out W (HIB.out W hW).2;have HW6:Hid (∀W,Below wi.heap.size wi W→Below wo.heap.size wo W):=fun W hW=>(HIB.out W hW).1;cases ob with
        | false=>
         have HN:Hid (LeastQ (Nxt (chgsOf es)) (chgsOf EL) (k+1) z∧Below wo.heap.size wo wi.drew):=by
          obtain⟨_,h1,h2⟩:=HXR.out;exact⟨HK.out.1.skip h1 (by rw[h2];intro h;have:=HOB.out.2 h;cases this),HW6.out _ hHeld⟩
         refine tkC 0 HCL rfl ?_;refine tkC 1 HCL rfl ?_;refine sk 2 rfl ?_;refine sk 3 rfl ?_;refine sk 4 rfl ?_;refine sk 5 rfl ?_;refine sk 6 rfl ?_;refine sk 7 rfl ?_;refine sk 8 rfl ?_;refine sk 9 rfl ?_;refine sk 10 rfl ?_;refine sk 11 rfl ?_;refine sk 12 rfl ?_;refine sk 13 rfl ?_;refine sk 14 rfl ?_;refine sk 15 rfl ?_;refine sk 16 rfl ?_;refine sk 17 rfl ?_;refine sk 18 rfl ?_;refine sk 19 rfl ?_;refine sk 20 rfl ?_;refine sk 21 rfl ?_;refine sk 22 rfl ?_;refine tkC 23 HCL rfl ?_;refine wDn ?_;clear hHeld g1 g2;go_upto_region 6 with fail
         have i3:=HG.out.2.2;go_wp2;go_roundw
         case rel=>exact⟨k+1,z,HKL.out,by go_num,rfl,HN.out⟩
         case measure=>have:=HKL.out;simp[RowKit.intOf];omega
        | true=>
         have HNX:Hid (Nxt (chgsOf es) x.c):=HOB.out.1 rfl;clear HOB;by_cases hz:z<0
         ·have HN:Hid (LeastQ (Nxt (chgsOf es)) (chgsOf EL) (k+1) (k:Int)∧Below wo.heap.size wo wi.drew):=by
           obtain⟨_,h1,h2⟩:=HXR.out;exact⟨HK.out.1.first h1 (by rw[h2];exact HNX.out) hz,HW6.out _ hHeld⟩
          have hd1:decide (z<0)=true:=decide_eq_true hz;clear hz;refine tkC 0 HCL rfl ?_;refine tkC 1 HCL rfl ?_;refine tkC 2 HCL rfl ?_;refine tkC 3 HCL rfl ?_;refine tkC 4 HCL rfl ?_;refine sk 5 rfl ?_;refine sk 6 rfl ?_;refine sk 7 rfl ?_;refine sk 8 rfl ?_;refine sk 9 rfl ?_;refine sk 10 rfl ?_;refine sk 11 rfl ?_;refine sk 12 rfl ?_;refine sk 13 rfl ?_;refine sk 14 rfl ?_;refine sk 15 rfl ?_;refine sk 16 rfl ?_;refine sk 17 rfl ?_;refine sk 18 rfl ?_;refine sk 19 rfl ?_;refine sk 20 rfl ?_;refine sk 21 rfl ?_;refine tkC 22 HCL rfl ?_;refine tkC 23 HCL rfl ?_;refine wDn ?_;clear hHeld g1 g2 hd1;go_upto_region 6 with fail
          have i3:=HG.out.2.2;go_wp2;go_roundw
          case rel=>exact⟨k+1,_,HKL.out,by go_num,rfl,HN.out⟩
          case measure=>have:=HKL.out;simp[RowKit.intOf];omega
         ·obtain⟨q,rfl⟩:=Int.eq_ofNat_of_zero_le (by omega:0≤z);have hql:q<(chgsOf EL).length:=by
           rcases HK.out.1 with⟨e,_⟩ | ⟨q',e,hq,_⟩
           ·omega
           ·have:q=q':=by omega
            rw[this];exact hq
          have hqn:q<ln:=by unfold chgsOf at hql;rw[List.length_map] at hql;have:=HLN.out;omega
          obtain⟨y,hy⟩:∃z:CX,l[q]?=some z:=⟨_,List.getElem?_eq_getElem (by have:=HLN.out.1;omega)⟩
          obtain⟨yB,yO,eyl,ybl,yq1,yq2,yin,ycell,yq3⟩:=chgs_one HV.out hy;clear yq1 yq2 yq3;obtain⟨⟨y1,y2,y3⟩,yd,ydn,ydc,yo,yom,yoe,yeu,yeo⟩:=CX.form yin;clear y3;obtain⟨ya,hya⟩:=gNz (y.c.actor:Int);obtain⟨ys,hys⟩:=gNz (y.c.seq:Int);obtain⟨yt,hyt⟩:=gNz (y.c.start:Int);have hyb:xB=yB∧xO=yO:=by injection eyl with e1;injection e1 with e2 e3;exact⟨e2,e3⟩
          obtain⟨rfl,rfl⟩:=hyb;have HCY:Hid (∀W,Below wi.heap.size wi W→W.cell? ⟨xB,xO+q*5,none⟩=some (.int .i64 ya)∧W.cell? ⟨xB,xO+q*5+1,none⟩=some (.int .i64 ys)∧W.cell? ⟨xB,xO+q*5+2,none⟩=some (.int .i64 yt)∧W.cell? ⟨xB,xO+q*5+3,none⟩=some (.slice yd ydn ydc)∧W.cell? ⟨xB,xO+q*5+4,none⟩=some (.slice yo yom yoe)):=fun W hW=>by
           have hc:∀j,j<5→W.cell? ⟨xB,xO+q*5+j,none⟩=y.cells[j]?:=fun j hj=>((HIB.out W hW).2.cell (p:=⟨xB,xO+q*5+j,none⟩) ybl).trans (ycell j hj);refine⟨?_,?_,?_,?_,?_⟩
           ·rw[←hya];exact hc 0 (by omega)
           ·rw[←hys];exact hc 1 (by omega)
           ·rw[←hyt];exact hc 2 (by omega)
           ·rw[←yeu];exact hc 3 (by omega)
           ·rw[←yeo];exact hc 4 (by omega)
          have HYR:Hid (y.c.ref=(ya,ys)∧∃h:q<(chgsOf EL).length,(chgsOf EL)[q]=y.c):=by
           obtain⟨h1,h2,_⟩:=HLC.out q y hy;exact⟨by unfold Chg.ref;rw[hya,hys],h1,h2⟩
          have hd1:decide ((q:Int)<0)=false:=decide_eq_false hz;have q1:(q:Int)<ln:=by omega
          have q2:(0:Int)≤q:=by omega
          obtain⟨ab,hab⟩:=gNz (aheadB (xa,xs) (ya,ys):Bool);have HAB:Hid (aheadB (xa,xs) (ya,ys)=ab):=hab;have HN:Hid (∀W,Below wo.heap.size wo W→LeastQ (Nxt (chgsOf es)) (chgsOf EL) (k+1) (if ab then (k:Int) else (q:Int))∧Below wo.heap.size wo W):=fun W hW=>by
           obtain⟨e1,h1,h2⟩:=HXR.out;obtain⟨e3,h3,h4⟩:=HYR.out;refine⟨?_,hW⟩;cases ab with
           | true=>exact HK.out.1.ahead h1 h3 (by rw[h2];exact HNX.out) (by rw[h2,h4,e1,e3];exact(ahead_iff _ _).1 hab)
           | false=>exact HK.out.1.behind h1 h3 (by rw[h2,h4,e1,e3];intro h;have:=(ahead_iff _ _).2 h;rw[hab] at this;cases this)
          clear hz hql hqn eyl ybl yin ycell y1 y2 yeu yeo hya hys hyt hy hab;refine tk 0 rfl ?_ (by intro wz hSw;obtain⟨z0,z1,z2,z3,z4,z5⟩:=HCL.out wz hSw;obtain⟨t0,t1,t2,t3,t4⟩:=HCY.out wz hSw;go_simp;try with_reducible rfl);refine tk 1 rfl ?_ (by intro wz hSw;obtain⟨z0,z1,z2,z3,z4,z5⟩:=HCL.out wz hSw;obtain⟨t0,t1,t2,t3,t4⟩:=HCY.out wz hSw;go_simp;try with_reducible rfl);refine tk 2 rfl ?_ (by intro wz hSw;obtain⟨z0,z1,z2,z3,z4,z5⟩:=HCL.out wz hSw;obtain⟨t0,t1,t2,t3,t4⟩:=HCY.out wz hSw;go_simp;try with_reducible rfl);refine tk 3 rfl ?_ (by intro wz hSw;obtain⟨z0,z1,z2,z3,z4,z5⟩:=HCL.out wz hSw;obtain⟨t0,t1,t2,t3,t4⟩:=HCY.out wz hSw;go_simp;try with_reducible rfl);refine tk 4 rfl ?_ (by intro wz hSw;obtain⟨z0,z1,z2,z3,z4,z5⟩:=HCL.out wz hSw;obtain⟨t0,t1,t2,t3,t4⟩:=HCY.out wz hSw;go_simp;try with_reducible rfl);refine tk 5 rfl ?_ (by intro wz hSw;obtain⟨z0,z1,z2,z3,z4,z5⟩:=HCL.out wz hSw;obtain⟨t0,t1,t2,t3,t4⟩:=HCY.out wz hSw;go_simp;try with_reducible rfl);refine tk 6 rfl ?_ (by intro wz hSw;obtain⟨z0,z1,z2,z3,z4,z5⟩:=HCL.out wz hSw;obtain⟨t0,t1,t2,t3,t4⟩:=HCY.out wz hSw;go_simp;try with_reducible rfl);refine tk 7 rfl ?_ (by intro wz hSw;obtain⟨z0,z1,z2,z3,z4,z5⟩:=HCL.out wz hSw;obtain⟨t0,t1,t2,t3,t4⟩:=HCY.out wz hSw;go_simp;try with_reducible rfl);refine tk 8 rfl ?_ (by intro wz hSw;obtain⟨z0,z1,z2,z3,z4,z5⟩:=HCL.out wz hSw;obtain⟨t0,t1,t2,t3,t4⟩:=HCY.out wz hSw;go_simp;try with_reducible rfl);refine tk 9 rfl ?_ (by intro wz hSw;obtain⟨z0,z1,z2,z3,z4,z5⟩:=HCL.out wz hSw;obtain⟨t0,t1,t2,t3,t4⟩:=HCY.out wz hSw;go_simp;try with_reducible rfl);refine tk 10 rfl ?_ (by intro wz hSw;obtain⟨z0,z1,z2,z3,z4,z5⟩:=HCL.out wz hSw;obtain⟨t0,t1,t2,t3,t4⟩:=HCY.out wz hSw;go_simp;try with_reducible rfl);refine tk 11 rfl ?_ (by intro wz hSw;obtain⟨z0,z1,z2,z3,z4,z5⟩:=HCL.out wz hSw;obtain⟨t0,t1,t2,t3,t4⟩:=HCY.out wz hSw;go_simp;try with_reducible rfl);refine tk 13 rfl ?_ (by intro wz hSw;obtain⟨z0,z1,z2,z3,z4,z5⟩:=HCL.out wz hSw;obtain⟨t0,t1,t2,t3,t4⟩:=HCY.out wz hSw;go_simp;try with_reducible rfl);refine tk 14 rfl ?_ (by intro wz hSw;obtain⟨z0,z1,z2,z3,z4,z5⟩:=HCL.out wz hSw;obtain⟨t0,t1,t2,t3,t4⟩:=HCY.out wz hSw;go_simp;try with_reducible rfl);refine tk 15 rfl ?_ (by intro wz hSw;obtain⟨z0,z1,z2,z3,z4,z5⟩:=HCL.out wz hSw;obtain⟨t0,t1,t2,t3,t4⟩:=HCY.out wz hSw;go_simp;try with_reducible rfl);refine tk 16 rfl ?_ (by intro wz hSw;obtain⟨z0,z1,z2,z3,z4,z5⟩:=HCL.out wz hSw;obtain⟨t0,t1,t2,t3,t4⟩:=HCY.out wz hSw;go_simp;try with_reducible rfl);refine tk 17 rfl ?_ (by intro wz hSw;obtain⟨z0,z1,z2,z3,z4,z5⟩:=HCL.out wz hSw;obtain⟨t0,t1,t2,t3,t4⟩:=HCY.out wz hSw;go_simp;try with_reducible rfl);refine tk 18 rfl ?_ (by intro wz hSw;obtain⟨z0,z1,z2,z3,z4,z5⟩:=HCL.out wz hSw;obtain⟨t0,t1,t2,t3,t4⟩:=HCY.out wz hSw;go_simp;try with_reducible rfl);refine tk 19 rfl ?_ (by intro wz hSw;obtain⟨z0,z1,z2,z3,z4,z5⟩:=HCL.out wz hSw;obtain⟨t0,t1,t2,t3,t4⟩:=HCY.out wz hSw;go_simp;try with_reducible rfl);have ER:=rRefC_any xa xs xt xd xdn xdc xo xom xoe wi.drew
          refine ts 12 rfl (fun K hK=>?_);go_simp;go_at_call 50;refine ER.mono ?_;rintro e w8 ⟨rfl,hb8⟩;go_wp2_with fail;refine hK.out _ _ (hHeld.trans (hb8.mono hHeld.size)) (fun hH8=>?_);clear hK K ER;try simp only[Act.put,nm]
          have ER:=rRefC_any ya ys yt yd ydn ydc yo yom yoe w8;refine ts 20 rfl (fun K hK=>?_);go_simp;go_at_call 50;refine ER.mono ?_;rintro e w9 ⟨rfl,hb9⟩;go_wp2_with fail;refine hK.out _ _ (hH8.trans (hb9.mono hH8.size)) (fun hH9=>?_);clear hK K ER;try simp only[Act.put,nm]
          have EA:=aheadRef (w:=w9) xa xs ya ys ab HAB.out;unfold refV;refine ts 21 rfl (fun K hK=>?_);go_simp;go_at_call 63;refine EA.mono ?_;rintro e w10 ⟨rfl,hb10⟩;go_wp2_with fail;refine hK.out _ _ (hH9.trans (hb10.mono hH9.size)) (fun hH10=>?_);clear hK K EA;try simp only[Act.put,nm]
          refine tk 22 rfl ?_;refine tk 23 rfl ?_;refine wDn ?_;have HN2:=HN.out w10 (HW6.out _ hH10);have HN3:Hid (_∧_):=HN2;clear hHeld hH8 hH9 hH10 hb8 hb9 hb10 q1 q2 hd1 g1 g2 HN2 HN;cases ab with
          | true=>
           go_upto_region 6 with fail
           have i3:=HG.out.2.2;go_wp2;go_roundw
           case rel=>exact⟨k+1,_,HKL.out,by go_num,rfl,HN3.out⟩
           case measure=>have:=HKL.out;simp[RowKit.intOf];omega
          | false=>
           go_upto_region 6 with fail
           have i3:=HG.out.2.2;go_wp2;go_roundw
           case rel=>exact⟨k+1,_,HKL.out,by go_num,rfl,HN3.out⟩
           case measure=>have:=HKL.out;simp[RowKit.intOf];omega
     ·have hin:(xa,xs)∈refsOf (chgsOf es):=Classical.byContradiction fun h=>hz (hz6.neg.2 h);have HN:Hid (LeastQ (Nxt (chgsOf es)) (chgsOf EL) (k+1) z∧Below wo.heap.size wo w5):=by
       obtain⟨hr,h1,h2⟩:=HXR.out;exact⟨HK.out.1.skip h1 (by rw[h2];unfold Nxt;rw[hr];exact fun h=>h.1 hin),(HKB.out _ HB5.out).1⟩
      have hd:decide ((0:Int)≤z6)=true:=decide_eq_true (by omega);clear hz hz6 hin;go_upto_region 6 with fail
      have i3:=HG.out.2.2;go_wp2;go_roundw
      case rel=>exact⟨k+1,z,HKL.out,by go_num,rfl,HN.out⟩
      case measure=>have:=HKL.out;simp[RowKit.intOf];omega
    ·have g1:¬(k:Int)<ln:=by omega
     have d0:wr.cell? ⟨g,0,none⟩=some (.slice la ln lc):=cLo (heap_below HBX.out (HKB.out wr (Below.refl _ _)).2 lRf) 0;have hkn:k=(chgsOf EL).length:=by unfold chgsOf;rw[List.length_map];have:=HLN.out;omega
     have hz0:¬z<0:=fun h=>by
      have h1:=HK.out.1.neg (by omega) h;obtain⟨c,hc,hn⟩:=nxt_ex (D:=chgsOf es) HI.out (by unfold chgsOf;rw[List.length_map,List.length_map];have:=HLN.out;have:=HLT.out;have:=HR.out.1;omega);exact h1 c hc hn
     obtain⟨m,rfl⟩:=Int.eq_ofNat_of_zero_le (by omega:0≤z);obtain⟨hm,hsn⟩:=HR.out.2.2.2.1.snoc (k:=m) (by rw[←hkn];exact HK.out.1);obtain⟨x,hx⟩:∃z:CX,l[m]?=some z:=⟨_,List.getElem?_eq_getElem (by have:=HLN.out;unfold chgsOf at hm;rw[List.length_map] at hm;omega)⟩
     obtain⟨h8,e8,p,hpE,rfl,hpc⟩:=HLC.out m x hx;have hcw:=HCW.out p hpE;obtain⟨hval,_,hcv,hcells⟩:=toCX_val hcw.chg;obtain⟨xB,xO,exl,xbl,xq1,xq2,xin,xcell,xq3⟩:=chgs_one HV.out hx;clear xq1 xq2 xq3 xin;have hla:la=some ⟨xB,xO,none⟩:=exl;subst hla;obtain⟨pc,pu⟩:=p;dsimp only at hval hcv hpc hcw hcells;obtain⟨xa,xs,xt,xd,xdn,xdc,xo,xom,xoe,rfl⟩:=hcv;rw[hcells] at xcell;have hB:=(HKB.out wr (Below.refl _ _)).2;have z0:=(hB.cell (p:=⟨xB,xO+m*5+0,none⟩) xbl).trans (xcell 0 (by omega));have z1:=(hB.cell (p:=⟨xB,xO+m*5+1,none⟩) xbl).trans (xcell 1 (by omega));have z2:=(hB.cell (p:=⟨xB,xO+m*5+2,none⟩) xbl).trans (xcell 2 (by omega));have z3:=(hB.cell (p:=⟨xB,xO+m*5+3,none⟩) xbl).trans (xcell 3 (by omega));have z4:=(hB.cell (p:=⟨xB,xO+m*5+4,none⟩) xbl).trans (xcell 4 (by omega));simp only[vcells,List.getElem?_cons_zero,List.getElem?_cons_succ,Nat.add_zero] at z0 z1 z2 z3 z4;have m1:(m:Int)<ln:=by unfold chgsOf at hm;rw[List.length_map] at hm;have:=HLN.out;omega
     have m2:(0:Int)≤m:=by omega
     have hrow:RowC w.heap.size (.slice oa on oc) (es.map (·.2)) wr:=own_below HR.out.2.1 HK.out.2 lRf;have b0:Below wr.heap.size wr (wr.alloc (.cells #[.int .i64 xa,.int .i64 xs,.int .i64 xt,.slice xd xdn xdc,.slice xo xom xoe] 33)):=bAl _ _;obtain⟨v9,U9,happ,row9,gr9,_⟩:=run_appC_at 23 (wr.alloc (.cells #[.int .i64 xa,.int .i64 xs,.int .i64 xt,.slice xd xdn xdc,.slice xo xom xoe] 33)) w.heap.size (Nat.le_trans hB.size b0.size) (.slice oa on oc) (.agg #[.int .i64 xa,.int .i64 xs,.int .i64 xt,.slice xd xdn xdc,.slice xo xom xoe]) (es.map (·.2)) ⟨xa,xs,xt,xd,xdn,xdc,xo,xom,xoe,rfl⟩ (own_below hrow b0 lRf) (by rw[List.length_map];have:=HR.out.1;have:=HLT.out;have:=HLN.out;omega) wr.heap.size (heap_alloc_new wr _);have hb9:Below w.heap.size w U9:=(hB.trans (b0.mono hB.size)).grown gr9 (Nat.le_trans hB.size b0.size) (fun t e=>((own_below hrow b0 lRf).lt t e).1);obtain⟨oa9,oc9,e9⟩:=slice_row row9;obtain⟨n9,hn9⟩:=gNz ((es.map (·.2)++[Value.agg #[.int .i64 xa,.int .i64 xs,.int .i64 xt,.slice xd xdn xdc,.slice xo xom xoe]]).length);rw[hn9] at e9;subst e9;have hes:(es++[(pc,Value.agg #[.int .i64 xa,.int .i64 xs,.int .i64 xt,.slice xd xdn xdc,.slice xo xom xoe])]).map (·.2)=es.map (·.2)++[Value.agg #[.int .i64 xa,.int .i64 xs,.int .i64 xt,.slice xd xdn xdc,.slice xo xom xoe]]:=by rw[List.map_append];rfl
     have HNEW:Hid (n9=(es++[(pc,Value.agg #[.int .i64 xa,.int .i64 xs,.int .i64 xt,.slice xd xdn xdc,.slice xo xom xoe])]).length∧RowC w.heap.size (.slice oa9 n9 oc9) ((es++[(pc,Value.agg #[.int .i64 xa,.int .i64 xs,.int .i64 xt,.slice xd xdn xdc,.slice xo xom xoe])]).map (·.2)) U9∧Below w.heap.size w U9∧AllO (chgsOf EL) (chgsOf (es++[(pc,Value.agg #[.int .i64 xa,.int .i64 xs,.int .i64 xt,.slice xd xdn xdc,.slice xo xom xoe])]))∧∀p∈es++[(pc,Value.agg #[.int .i64 xa,.int .i64 xs,.int .i64 xt,.slice xd xdn xdc,.slice xo xom xoe])],p∈EL):=by
      refine⟨?_,by rw[hes];exact row9,hb9,?_,fun p hp=>?_⟩
      ·rw[←hn9];simp
      ·have e10:chgsOf (es++[(pc,Value.agg #[.int .i64 xa,.int .i64 xs,.int .i64 xt,.slice xd xdn xdc,.slice xo xom xoe])])=chgsOf es++[(chgsOf EL)[m]]:=by
        unfold chgsOf at e8 ⊢;rw[List.map_append,e8];rfl
       rw[e10];exact hsn
      ·rcases List.mem_append.1 hp with hp | hp
       ·exact HR.out.2.2.2.2 p hp
       ·rw[List.mem_singleton.1 hp];exact hpE
     have HME:Hid (ln - n9<ln - on):=by
      have h1:=HNEW.out.1;have h2:=HR.out.1;have h3:=HLT.out;rw[List.length_append,List.length_singleton] at h1;show _<_;omega
     clear hkl hk hkn hz0 hm hsn hx h8 e8 hpE hval hpc hcw hcells xcell xbl exl hB hrow b0 row9 gr9 hb9 hn9 hes;go_wp2_with (first | (at_builtin;refine wp_app rfl _ _ 23 rfl _ _ _ rfl rfl happ ?_));go_roundw
     case rel=>exact⟨_,oa9,n9,oc9,rfl,HNEW.out⟩
     case measure=>exact HME.out
  ·have g0:¬(on:Int)<ln:=by omega
   have HEND:Hid (post (.returned (.slice oa on oc)) wo):=by
    show post _ _;rw[HPO.out];exact⟨_,es,rfl,HR.out.2.1,HR.out.2.2.2.1,by have:=HON.out;have:=HLN.out;have:=HR.out.1;omega,HR.out.2.2.2.2,HR.out.2.2.1⟩
   clear hlt;go_wp2;exact HEND.out
end Go.Proofs.YtamhlgflbacjgaaGreat
