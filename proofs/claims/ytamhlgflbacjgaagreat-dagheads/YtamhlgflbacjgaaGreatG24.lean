/-
  What is proved: as each theorem says.
  Conditions: as each theorem says.
-/
import Derived.Test.YtamhlgflbacjgaaGreatG00
import Derived.Test.YtamhlgflbacjgaaGreatG19
import Derived.Test.YtamhlgflbacjgaaGreatG23
import Derived.Maps.AppendAt
import Derived.Test.YtamhlgflbacjgaaGreatG15
import Derived.Laws.OwnMore
set_option maxRecDepth 100000
set_option maxHeartbeats 16000000
namespace Go.Proofs.YtamhlgflbacjgaaGreat
open Go.RowKit Go.Sort
structure RI (L W:List Chg):Prop where
 inv:Inv L
 nd:(refsOf W).Nodup
 dis:∀r∈refsOf W,r∉refsOf L
 few:L.length+W.length≤120
 ok:∀x∈W,chk x=0
theorem RI.nil:RI [] []:=⟨Inv.nil,List.nodup_nil,(fun _ h=>by cases h),by simp,(fun _ h=>by cases h)⟩
theorem refs_append (a b:List Chg):refsOf (a++b)=refsOf a++refsOf b:=List.map_append
theorem RI.wait {L W:List Chg} {c:Chg} (h:RI L W) (hc:chk c=0) (hn:¬(c.ref∈refsOf L∨c.ref∈refsOf W)) (hl:L.length+W.length<120):RI L (W++[c]):=by
 refine⟨h.inv,?_,fun r hr=>?_,by rw[List.length_append];simp;omega,fun x hx=>?_⟩
 ·rw[refs_append,List.nodup_append];refine⟨h.nd,by simp[refsOf],fun a ha b hb e=>?_⟩;subst e;have e2:a=c.ref:=by simpa [refsOf] using hb
  exact hn (Or.inr (by rw[←e2];exact ha))
 ·rw[refs_append] at hr;rcases List.mem_append.1 hr with hr | hr
  ·exact h.dis r hr
  ·have e2:r=c.ref:=by simpa [refsOf] using hr
   rw[e2];exact fun e=>hn (Or.inl e)
 ·rcases List.mem_append.1 hx with hx | hx
  ·exact h.ok x hx
  ·rw[List.mem_singleton.1 hx];exact hc
theorem RI.come {L W:List Chg} {c:Chg} (h:RI L W) (hc:chk c=0) (hn:¬(c.ref∈refsOf L∨c.ref∈refsOf W)) (hl:L.length+W.length<120) (hr:Ready L c) (hf:FitC L c):RI (L++[c]) W:=by
 refine⟨h.inv.more hc (fun e=>hn (Or.inl e)) hr hf,h.nd,fun r hr=>?_,by rw[List.length_append];simp;omega,h.ok⟩;rw[refs_append];intro e;rcases List.mem_append.1 e with e | e
 ·exact h.dis r hr e
 ·have e2:r=c.ref:=by simpa [refsOf] using e
  exact hn (Or.inr (by rw[←e2];exact hr))
theorem filter_cut {W:List Chg} (hn:(refsOf W).Nodup) (k:Nat) (hk:k<W.length):W.filter (fun x=>decide (x.ref≠W[k].ref))=W.take k++W.drop (k+1):=by
 induction W generalizing k with
 | nil=>simp at hk
 | cons a l ih=>
  have h2:=List.nodup_cons.1 (show(a.ref::refsOf l).Nodup from hn);cases k with
  | zero=>
   rw[List.filter_cons];simp only[List.getElem_cons_zero,ne_eq,not_true_eq_false,decide_false,Bool.false_eq_true,if_false,List.take_zero,List.nil_append,Nat.zero_add,List.drop_succ_cons,List.drop_zero];rw[List.filter_eq_self.2];intro x hx;refine decide_eq_true fun e=>h2.1 ?_;rw[←e];exact mem_refs.2 ⟨x,hx,rfl⟩
  | succ k=>
   rw[List.filter_cons];have hk':k<l.length:=by simpa using hk
   simp only[List.getElem_cons_succ,List.take_succ_cons,List.drop_succ_cons,List.cons_append];have hd:decide (a.ref≠l[k].ref)=true:=decide_eq_true (fun e=>h2.1 (by rw[e];exact mem_refs.2 ⟨_,List.getElem_mem hk',rfl⟩));rw[if_pos hd,ih h2.2 k hk']
theorem RI.step {L W L' W':List Chg} (h:RI L W) (hs:WStep L W L' W'):RI L' W':=by
 obtain⟨c,hc,h1,rfl⟩:=hs;have sub:∀r,r∈refsOf (W.filter fun x=>decide (x.ref≠c.ref))→r∈refsOf W∧r≠c.ref:=fun r hr=>by
  obtain⟨x,hx,rfl⟩:=mem_refs.1 hr;have:=List.mem_filter.1 hx;exact⟨mem_refs.2 ⟨x,this.1,rfl⟩,of_decide_eq_true this.2⟩
 have hlen:(W.filter fun x=>decide (x.ref≠c.ref)).length<W.length:=by
  refine Nat.lt_of_le_of_ne (List.length_filter_le _ _) (fun e=>?_);have h9:=List.length_filter_eq_length_iff.1 e c hc.1;simp at h9
 have hnd:(refsOf (W.filter fun x=>decide (x.ref≠c.ref))).Nodup:=by unfold refsOf;exact h.nd.sublist (List.filter_sublist.map _)
 have hfew:=h.few;rcases h1 with⟨hf,rfl⟩ | ⟨_,rfl⟩
 ·refine⟨h.inv.more (h.ok c hc.1) (h.dis _ (mem_refs.2 ⟨c,hc.1,rfl⟩)) hc.2.1 hf,hnd,fun r hr e=>?_,by rw[List.length_append];simp only[List.length_singleton];omega,fun x hx=>h.ok x (List.mem_filter.1 hx).1⟩;rw[refs_append] at e;rcases List.mem_append.1 e with e | e
  ·exact h.dis r (sub r hr).1 e
  ·have e2:r=c.ref:=by simpa [refsOf] using e
   exact(sub r hr).2 e2
 ·exact⟨h.inv,hnd,fun r hr=>h.dis r (sub r hr).1,by omega,fun x hx=>h.ok x (List.mem_filter.1 hx).1⟩
structure KpS (S:Nat→Prop) (w w':World):Prop where
 os:w'.os=w.os
 tape:w'.tape=w.tape
 output:w'.output=w.output
 size:w.heap.size≤w'.heap.size
 block:∀k,k<w.heap.size→¬S k→w'.heap[k]?=w.heap[k]?
theorem KpS.refl (S:Nat→Prop) (w:World):KpS S w w:=⟨rfl,rfl,rfl,lRf,fun _ _ _=>rfl⟩
theorem KpS.trans {S:Nat→Prop} {w w1 w2:World} (h:KpS S w w1) (k:KpS S w1 w2):KpS S w w2:=
 ⟨k.os.trans h.os,k.tape.trans h.tape,k.output.trans h.output,Nat.le_trans h.size k.size,fun b hb hS=>(k.block b (Nat.lt_of_lt_of_le hb h.size) hS).trans (h.block b hb hS)⟩
theorem KpS.mono {S T:Nat→Prop} {w w':World} (h:KpS S w w') (hT:∀k,k<w.heap.size→S k→T k):KpS T w w':=⟨h.os,h.tape,h.output,h.size,fun k hk hn=>h.block k hk (fun e=>hn (hT k hk e))⟩
theorem KpS.of {S:Nat→Prop} {w w':World} (h:Below w.heap.size w w'):KpS S w w':=⟨h.os,h.tape,h.output,h.size,fun k hk _=>h.block k hk⟩
theorem KpS.below {S:Nat→Prop} {w w':World} {B:Nat} (h:KpS S w w') (hB:B≤w.heap.size) (hS:∀k,S k→B≤k):Below B w w':=
 ⟨h.os,h.tape,h.output,h.size,fun k hk=>h.block k (by omega) (fun e=>by have:=hS k e;omega)⟩
theorem KpS.heap {S:Nat→Prop} {w w':World} {b:Nat} {o:Obj} (h:KpS S w w') (hb:w.heap[b]?=some o) (hS:¬S b):w'.heap[b]?=some o:=by
 rw[h.block b (lt_of_heap hb) hS];exact hb
theorem own_type {w:World} {B e s n b:Nat} {v:Value} {xs:List Value} (h:w.ownsRow B e s v n xs) (hb:v.ownBlock=some b):∃cur,w.heap[b]?=some (.cells cur e):=by
 rcases h.2 with⟨rfl,_⟩ | ⟨g,cap,cur,rfl,_,hg,_⟩
 ·simp[Value.ownBlock] at hb
 ·simp[Value.ownBlock] at hb;subst hb;exact⟨cur,hg⟩
theorem KpS.grown {S:Nat→Prop} {w w':World} {v:Value} (hs:∀b,v.ownBlock=some b→S b) (hg:w.grownBy w' v.ownBlock):KpS S w w':=
 ⟨hg.os,hg.tape,hg.output,hg.size,fun k hk hS=>hg.block k hk (fun e=>hS (hs k e.symm))⟩
theorem KpS.set {S:Nat→Prop} {g i:Nat} {w:World} (u:Value) (hg:S g):KpS S w (w.setCell ⟨g,i,none⟩ u):=
 have b:=(Below.refl g w).setCell (p:=⟨g,i,none⟩) lRf u
 ⟨b.os,b.tape,b.output,b.size,fun k hk hS=>by
  rw[Below.heap_setCell _ _ _ _ (by
   intro e;have e:k=g:=by simpa using e
   subst e;exact hS hg)]⟩
def FzC (S:Nat→Prop) (w:World) (v:Value) (c:Chg):Prop:=∀w',KpS S w w'→IsChgW w' v c
section
variable {S T : Nat → Prop} {w w' : World} {v : Value} {c : Chg}
theorem FzC.chgW (h:FzC S w v c):IsChgW w v c:=h w (KpS.refl _ _)
theorem FzC.chg (h:FzC S w v c):IsChg w v c:=h.chgW.chg
theorem FzC.kp (h:FzC S w v c) (k:KpS S w w'):FzC S w' v c:=fun w2 k2=>h w2 (k.trans k2)
theorem FzC.below (h:FzC S w v c) (b:Below w.heap.size w w'):FzC S w' v c:=h.kp (KpS.of b)
theorem FzC.mono (h:FzC S w v c) (hT:∀k,k<w.heap.size→T k→S k):FzC T w v c:=fun w2 k2=>h w2 (k2.mono hT)
end
theorem run_appC_at (ty:TypeId) (W:World) (B:Nat) (hB:B≤W.heap.size) (v u:Value) (us:List Value) (hu:CV u) (h:RowC B v us W) (hl:us.length≤1000000) (x:Nat) (hx:W.heap[x]?=some (.cells (vcells u).toArray 33)):
 ∃v' W',(Builtin.append_ #[23,23] ty #[v,.slice (some ⟨x,0,none⟩) 1 1]).run Tryz.prog W=.ok v' W'∧RowC B v' (us++[u]) W'∧W.grownBy W' v.ownBlock∧(v'.ownBlock=v.ownBlock∨v'.ownBlock=some W.heap.size):=by
 obtain⟨i0,hi0,hz0,hz1,hz2⟩:=info_parts infoC;obtain⟨v',W',h1,h2,h3,_,h5⟩:=run_append_own_at (P:=Tryz.prog) W B 23 ty 33 i0 _ 5 _ Tryz.underlying23 hi0 hz0 hz1 hz2 rfl (by decide) v us.length _ h ⟨x,0,none⟩ 1 1 (vcells u) (by rw[(cv_cells hu).1]) (fun j y hj=>by
  have ea:(⟨x,0,none⟩:Addr).add j=⟨x,j,none⟩:=by unfold Addr.add;split <;> simp_all
  rw[ea];simp[World.cell?,hx,hj]) (cv_cells hu).2 (by unfold maxLen;omega) (by omega) hB
 refine⟨v',W',h1,?_,h3,h5⟩;show World.ownsRow _ _ _ _ _ _ _;rw[List.flatMap_append,List.length_append];simpa using h2
theorem run_appCs (ty:TypeId) (W:World) (B:Nat) (hB:B≤W.heap.size) (v:Value) (us xs:List Value) (hx:∀u∈xs,CV u) (h:RowC B v us W) (hl:us.length+xs.length≤1000000) (b o c:Nat) (hc:∀j y,(xs.flatMap vcells)[j]?=some y→W.cell? ⟨b,o+j,none⟩=some y):
 ∃v' W',(Builtin.append_ #[23,23] ty #[v,.slice (some ⟨b,o,none⟩) xs.length c]).run Tryz.prog W=.ok v' W'∧RowC B v' (us++xs) W'∧W.grownBy W' v.ownBlock∧(v'.ownBlock=v.ownBlock∨v'.ownBlock=some W.heap.size):=by
 obtain⟨i0,hi0,hz0,hz1,hz2⟩:=info_parts infoC;obtain⟨v',W',h1,h2,h3,_,h5⟩:=run_append_own_at (P:=Tryz.prog) W B 23 ty 33 i0 _ 5 _ Tryz.underlying23 hi0 hz0 hz1 hz2 rfl (by decide) v us.length _ h ⟨b,o,none⟩ xs.length c (xs.flatMap vcells) (flat_len hx) (fun j y hj=>by
  have ea:(⟨b,o,none⟩:Addr).add j=⟨b,o+j,none⟩:=by unfold Addr.add;split <;> simp_all
  rw[ea];exact hc j y hj) (fun u hu=>by
   obtain⟨x,hx1,hx2⟩:=List.mem_flatMap.1 hu;exact(cv_cells (hx x hx1)).2 u hx2) (by unfold maxLen;omega) (by omega) hB
 refine⟨v',W',h1,?_,h3,h5⟩;show World.ownsRow _ _ _ _ _ _ _;rw[List.flatMap_append,List.length_append];exact h2
structure RB (S T:Nat→Prop) (w0:World) (g:Nat) (EL EW:List CE) (vl vw:Value) (w:World):Prop where
 st:∀b,S b→T b
 fr:∀b,w0.heap.size≤b→S b
 bel:KpS S w0 w
 sg:S g
 box:w.heap[g]?=some (.cells #[vl,vw] 73)
 rowL:RowC 0 vl (EL.map (·.2)) w
 rowW:RowC 0 vw (EW.map (·.2)) w
 sl:∀b,vl.ownBlock=some b→S b
 sw:∀b,vw.ownBlock=some b→S b
 ne:∀b,vl.ownBlock=some b→vw.ownBlock≠some b
 chgs:∀p∈EL++EW,FzC T w0 p.2 p.1
theorem RB.base {S T:Nat→Prop} {w0 w:World} {g:Nat} {EL EW:List CE} {vl vw:Value} (R:RB S T w0 g EL EW vl vw w):RB S T w g EL EW vl vw w:=
 ⟨R.st,fun k hk=>R.fr k (Nat.le_trans R.bel.size hk),KpS.refl _ _,R.sg,R.box,R.rowL,R.rowW,R.sl,R.sw,R.ne,fun p hp=>(R.chgs p hp).kp (R.bel.mono fun b _ h=>R.st b h)⟩
theorem RB.belT {S T:Nat→Prop} {w0 w:World} {g:Nat} {EL EW:List CE} {vl vw:Value} (R:RB S T w0 g EL EW vl vw w):KpS T w0 w:=R.bel.mono fun b _ h=>R.st b h
theorem map_toCX (E:List CE):(E.map toCX).map (·.c)=chgsOf E:=by unfold chgsOf;rw[List.map_map];rfl
section
variable {S T : Nat → Prop} {w0 w w' : World} {g : Nat} {EL EW : List CE} {vl vw : Value}
theorem RB.below (R:RB S T w0 g EL EW vl vw w) (b:Below w.heap.size w w'):RB S T w0 g EL EW vl vw w':=
 ⟨R.st,R.fr,R.bel.trans (KpS.of b),R.sg,heap_below R.box b lRf,own_below R.rowL b lRf,own_below R.rowW b lRf,R.sl,R.sw,R.ne,R.chgs⟩
theorem slice_row {B e s n:Nat} {v:Value} {xs:List Value} (h:w.ownsRow B e s v n xs):∃a c,v=.slice a n c:=by
 rcases h.2 with⟨rfl,e⟩ | ⟨g,cap,cur,rfl,_⟩
 ·exact⟨_,_,by rw[e]⟩
 ·exact⟨_,_,rfl⟩
theorem RB.cv (R:RB S T w0 g EL EW vl vw w):∀p∈EL++EW,CV p.2:=fun p hp=>(toCX_val ((R.chgs p hp).kp (R.bel.mono fun b _ h=>R.st b h)).chg).2.2.1
theorem RB.isL (R:RB S T w0 g EL EW vl vw w) (hl:EL.length+EW.length≤120):IsChgs w vl (EL.map toCX):=
 rowC_chgs R.rowL (by omega) fun p hp=>((R.chgs p (List.mem_append_left _ hp)).kp (R.bel.mono fun b _ h=>R.st b h)).chg
theorem RB.isW (R:RB S T w0 g EL EW vl vw w) (hl:EL.length+EW.length≤120):IsChgs w vw (EW.map toCX):=
 rowC_chgs R.rowW (by omega) fun p hp=>((R.chgs p (List.mem_append_right _ hp)).kp (R.bel.mono fun b _ h=>R.st b h)).chg
theorem wh_toCX {w:World} {p:CE} (h:IsChgW w p.2 p.1):Wh (toCX p).ud:=by
 obtain⟨ud,uo,l,h1,_,_,_,_,h5,_⟩:=h;unfold toCX;rw[h1];exact h5
theorem RB.whL (R:RB S T w0 g EL EW vl vw w):∀x∈EL.map toCX,Wh x.ud:=fun x hx=>by
 obtain⟨p,hp,rfl⟩:=List.mem_map.1 hx;exact wh_toCX (R.chgs p (List.mem_append_left _ hp)).chgW
theorem own_ne_box {B e s n b t:Nat} {v:Value} {xs:List Value} {cur:Array Value} (h:w.ownsRow B e s v n xs) (hb:w.heap[b]?=some (.cells cur t)) (ht:t≠e):v.ownBlock≠some b:=fun e=>by
 obtain⟨cur',h2⟩:=own_type h e;rw[hb] at h2;have:=Option.some.inj h2;injection this with _ h5
 exact ht h5
theorem RB.addL {v' u:Value} {c:Chg} (R:RB S T w0 g EL EW vl vw w) (gr:w.grownBy w' vl.ownBlock) (row:RowC 0 v' (EL.map (·.2)++[u]) w') (hv:v'.ownBlock=vl.ownBlock∨v'.ownBlock=some w.heap.size) (hc:FzC T w0 u c):
 RB S T w0 g (EL++[(c,u)]) EW v' vw (w'.setCell ⟨g,0,none⟩ v')∧KpS S w (w'.setCell ⟨g,0,none⟩ v'):=by
 have hne:=own_ne_box R.rowL R.box (by decide);have hbx:w'.heap[g]?=some (.cells #[vl,vw] 73):=(gr.block g (lt_of_heap R.box) (fun e=>hne e.symm)).trans R.box;have hW:=R.rowW.kept gr (by
  rcases h:vw.ownBlock with _ | b
  ·exact Or.inl rfl
  ·exact Or.inr (fun e=>R.ne b e.symm h))
 have K:KpS S w (w'.setCell ⟨g,0,none⟩ v'):=(KpS.grown R.sl gr).trans (KpS.set v' R.sg);refine⟨⟨R.st,R.fr,R.bel.trans K,R.sg,?_,?_,own_set_other hW hbx (by decide),fun b hb=>?_,R.sw,fun b hb=>?_,fun p hp=>?_⟩,K⟩
 ·rw[set_at hbx 0 v'];rfl
 ·rw[List.map_append];exact own_set_other row hbx (by decide)
 ·rcases hv with e | e
  ·exact R.sl b (by rw[←e];exact hb)
  ·rw[e] at hb;exact R.fr b (by rw[←Option.some.inj hb];exact R.bel.size)
 ·rcases hv with e | e
  ·exact R.ne b (by rw[←e];exact hb)
  ·intro e2;have:=(R.rowW.lt b e2).2;rw[e] at hb;have:=Option.some.inj hb;omega
 ·rcases List.mem_append.1 hp with hp | hp
  ·rcases List.mem_append.1 hp with hp | hp
   ·exact R.chgs p (List.mem_append_left _ hp)
   ·rw[List.mem_singleton.1 hp];exact hc
  ·exact(R.chgs p (List.mem_append_right _ hp))
theorem RB.addW {v' u:Value} {c:Chg} (R:RB S T w0 g EL EW vl vw w) (gr:w.grownBy w' vw.ownBlock) (row:RowC 0 v' (EW.map (·.2)++[u]) w') (hv:v'.ownBlock=vw.ownBlock∨v'.ownBlock=some w.heap.size) (hc:FzC T w0 u c):
 RB S T w0 g EL (EW++[(c,u)]) vl v' (w'.setCell ⟨g,1,none⟩ v')∧KpS S w (w'.setCell ⟨g,1,none⟩ v'):=by
 have hne:=own_ne_box R.rowW R.box (by decide);have hbx:w'.heap[g]?=some (.cells #[vl,vw] 73):=(gr.block g (lt_of_heap R.box) (fun e=>hne e.symm)).trans R.box;have hL:=R.rowL.kept gr (by
  rcases h:vl.ownBlock with _ | b
  ·exact Or.inl rfl
  ·exact Or.inr (fun e=>R.ne b h e.symm))
 have K:KpS S w (w'.setCell ⟨g,1,none⟩ v'):=(KpS.grown R.sw gr).trans (KpS.set v' R.sg);refine⟨⟨R.st,R.fr,R.bel.trans K,R.sg,?_,own_set_other hL hbx (by decide),?_,R.sl,fun b hb=>?_,fun b hb=>?_,fun p hp=>?_⟩,K⟩
 ·rw[set_at hbx 1 v'];rfl
 ·rw[List.map_append];exact own_set_other row hbx (by decide)
 ·rcases hv with e | e
  ·exact R.sw b (by rw[←e];exact hb)
  ·rw[e] at hb;exact R.fr b (by rw[←Option.some.inj hb];exact R.bel.size)
 ·rcases hv with e | e
  ·rw[e];exact R.ne b hb
  ·intro e2;have:=(R.rowL.lt b hb).2;rw[e] at e2;have:=Option.some.inj e2;omega
 ·rcases List.mem_append.1 hp with hp | hp
  ·exact R.chgs p (List.mem_append_left _ hp)
  ·rcases List.mem_append.1 hp with hp | hp
   ·exact(R.chgs p (List.mem_append_right _ hp))
   ·rw[List.mem_singleton.1 hp];exact hc
theorem RB.setW {EV:List CE} {v':Value} (R:RB S T w0 g EL EW vl vw w) (row:RowC 0 v' (EV.map (·.2)) w) (hs:∀b,v'.ownBlock=some b→S b) (hv:∀b,vl.ownBlock=some b→v'.ownBlock≠some b) (hc:∀p∈EV,p∈EW):
 RB S T w0 g EL EV vl v' (w.setCell ⟨g,1,none⟩ v')∧KpS S w (w.setCell ⟨g,1,none⟩ v'):=by
 have K:KpS S w (w.setCell ⟨g,1,none⟩ v'):=KpS.set v' R.sg;refine⟨⟨R.st,R.fr,R.bel.trans K,R.sg,?_,own_set_other R.rowL R.box (by decide),own_set_other row R.box (by decide),R.sl,hs,hv,fun p hp=>?_⟩,K⟩
 ·rw[set_at R.box 1 v'];rfl
 ·rcases List.mem_append.1 hp with hp | hp
  ·exact R.chgs p (List.mem_append_left _ hp)
  ·exact(R.chgs p (List.mem_append_right _ (hc p hp)))
end
structure HR where
 h:Nat
 g:Nat
 act:Int
 EL:List CE
 EW:List CE
 vl:Value
 vw:Value
 vp:Value
 P:List OV
def HR.live (x:HR) (b:Nat):Prop:=b=x.h∨b=x.g∨x.vl.ownBlock=some b∨x.vw.ownBlock=some b∨x.vp.ownBlock=some b
structure HandAt (x:HR) (w:World):Prop where
 box:w.heap[x.h]?=some (.cells #[.int .i64 x.act,.pointer (some ⟨x.g,0,none⟩),x.vp] 68)
 bbox:w.heap[x.g]?=some (.cells #[x.vl,x.vw] 73)
 rowL:RowC 0 x.vl (x.EL.map (·.2)) w
 rowW:RowC 0 x.vw (x.EW.map (·.2)) w
 rowP:RowO 0 x.vp x.P w
 ne:∀b,x.vl.ownBlock=some b→x.vw.ownBlock≠some b
 ri:RI (chgsOf x.EL) (chgsOf x.EW)
 act:1≤x.act∧x.act≤99
 few:x.P.length≤40
theorem HandAt.stay {x:HR} {w w':World} (h:HandAt x w) (hk:∀b,x.live b→b<w.heap.size→w'.heap[b]?=w.heap[b]?):HandAt x w':=by
 have row:∀{e s n:Nat} {v:Value} {xs:List Value},w.ownsRow 0 e s v n xs→(∀b,v.ownBlock=some b→x.live b)→w'.ownsRow 0 e s v n xs:=fun {e s n v xs} hr hv=>by
  refine⟨hr.1,?_⟩;rcases hr.2 with h0 | ⟨g,cap,cur,h1,h2,h3,h4⟩
  ·exact Or.inl h0
  ·refine Or.inr ⟨g,cap,cur,h1,h2,?_,h4⟩;rw[hk g (hv g (by rw[h1];rfl)) (lt_of_heap h3)];exact h3
 exact⟨(hk _ (Or.inl rfl) (lt_of_heap h.box)).trans h.box,(hk _ (Or.inr (Or.inl rfl)) (lt_of_heap h.bbox)).trans h.bbox,row h.rowL (fun b e=>Or.inr (Or.inr (Or.inl e))),row h.rowW (fun b e=>Or.inr (Or.inr (Or.inr (Or.inl e)))),row h.rowP (fun b e=>Or.inr (Or.inr (Or.inr (Or.inr e)))),h.ne,h.ri,h.act,h.few⟩
theorem HandAt.below {x:HR} {w w':World} (h:HandAt x w) (hb:Below w.heap.size w w'):HandAt x w':=h.stay fun b _ hlt=>hb.block b hlt
theorem HandAt.lt {x:HR} {w:World} (h:HandAt x w) {b:Nat} (hb:x.live b):b<w.heap.size:=by
 rcases hb with rfl | rfl | e | e | e
 ·exact lt_of_heap h.box
 ·exact lt_of_heap h.bbox
 ·exact(h.rowL.lt b e).2
 ·exact(h.rowW.lt b e).2
 ·exact(h.rowP.lt b e).2
def FzQ (S:Nat→Prop) (w:World) (q:OV):Prop:=OpNums q.1∧∀w',KpS S w w'→IsPairs w' q.2 q.1.preds∧Wh q.2
section
variable {S T : Nat → Prop} {w w' : World} {q : OV}
theorem FzQ.kp (h:FzQ S w q) (k:KpS S w w'):FzQ S w' q:=⟨h.1,fun w2 k2=>h.2 w2 (k.trans k2)⟩
theorem FzQ.mono (h:FzQ S w q) (hT:∀k,k<w.heap.size→T k→S k):FzQ T w q:=⟨h.1,fun w2 k2=>h.2 w2 (k2.mono hT)⟩
end
structure Lo where
 n:Nat
 D:Nat→Prop
def LV (lo:Lo) (HS:List HR) (w:World) (b:Nat):Prop:=(∃x∈HS,x.live b)∨w.heap.size≤b∨lo.D b
structure Hands (lo:Lo) (HS:List HR) (w:World):Prop where
 hand:∀x∈HS,HandAt x w
 low:∀x∈HS,∀b,x.live b→lo.n≤b
 out:∀x∈HS,∀b,x.live b→¬lo.D b
 dl:∀b,lo.D b→b<w.heap.size
 dis:HS.Pairwise fun x y=>∀b,x.live b→¬y.live b
 fz:∀x∈HS,∀p∈x.EL++x.EW,FzC (LV lo HS w) w p.2 p.1
 fq:∀x∈HS,∀q∈x.P,FzQ (LV lo HS w) w q
 lo:lo.n≤w.heap.size
theorem LV.next {lo:Lo} {HS:List HR} {w w':World} {i:Nat} {x x':HR} (hi:HS[i]?=some x) (hs:w.heap.size≤w'.heap.size) (hl:∀b,x'.live b→x.live b∨w.heap.size≤b) {b:Nat} (h:LV lo (HS.set i x') w' b):LV lo HS w b:=by
 rcases h with⟨y,hy,hb⟩ | h
 ·rcases List.mem_or_eq_of_mem_set hy with hy | rfl
  ·exact Or.inl ⟨y,hy,hb⟩
  ·rcases hl b hb with h | h
   ·exact Or.inl ⟨x,List.mem_of_getElem? hi,h⟩
   ·exact Or.inr (Or.inl h)
 ·exact Or.inr (h.imp (fun h=>Nat.le_trans hs h) id)
theorem Hands.apart {lo:Lo} {HS:List HR} {w:World} (H:Hands lo HS w) {i j:Nat} {x y:HR} (hi:HS[i]?=some x) (hj:HS[j]?=some y) (hn:i≠j) (b:Nat):x.live b→¬y.live b:=by
 obtain⟨l1,e1⟩:=List.getElem?_eq_some_iff.1 hi;obtain⟨l2,e2⟩:=List.getElem?_eq_some_iff.1 hj;have hp:=List.pairwise_iff_getElem.1 H.dis;rcases Nat.lt_or_gt_of_ne hn with h | h
 ·have:=hp i j l1 l2 h b;rw[e1,e2] at this;exact this
 ·have:=hp j i l2 l1 h b;rw[e1,e2] at this;exact fun h1 h2=>this h2 h1
theorem Hands.old {lo:Lo} {HS:List HR} {w w':World} (H:Hands lo HS w) {i:Nat} {x x':HR} (hi:HS[i]?=some x) (K:KpS (fun b=>x.live b∨w.heap.size≤b) w w') (hl:∀b,x'.live b→x.live b∨w.heap.size≤b):
 (∀y∈HS,∀p∈y.EL++y.EW,FzC (LV lo (HS.set i x') w') w' p.2 p.1)∧∀y∈HS,∀q∈y.P,FzQ (LV lo (HS.set i x') w') w' q:=by
 have K':KpS (LV lo HS w) w w':=K.mono fun b _ hb=>by
  rcases hb with hb | hb
  ·exact Or.inl ⟨x,List.mem_of_getElem? hi,hb⟩
  ·exact Or.inr (Or.inl hb)
 exact⟨fun y hy p hp=>((H.fz y hy p hp).kp K').mono fun b _ h=>LV.next hi K.size hl h,fun y hy q hq=>((H.fq y hy q hq).kp K').mono fun b _ h=>LV.next hi K.size hl h⟩
theorem Hands.step {lo:Lo} {HS:List HR} {w w':World} (H:Hands lo HS w) {i:Nat} {x x':HR} (hi:HS[i]?=some x) (K:KpS (fun b=>x.live b∨w.heap.size≤b) w w') (hx:HandAt x' w') (hl:∀b,x'.live b→x.live b∨w.heap.size≤b)
 (hz:∀p∈x'.EL++x'.EW,FzC (LV lo (HS.set i x') w') w' p.2 p.1) (hq:∀q∈x'.P,FzQ (LV lo (HS.set i x') w') w' q):Hands lo (HS.set i x') w':=by
 obtain⟨hil,hie⟩:=List.getElem?_eq_some_iff.1 hi;obtain⟨o1,o2⟩:=H.old hi K hl;have far:∀j y,HS[j]?=some y→j≠i→∀b,y.live b→¬(x.live b∨w.heap.size≤b):=fun j y hj hn b hb e=>by
  rcases e with e | e
  ·exact H.apart hj hi hn b hb e
  ·have:=(H.hand y (List.mem_of_getElem? hj)).lt hb;omega
 have got:∀j y,(HS.set i x')[j]?=some y→(j=i∧y=x')∨(j≠i∧HS[j]?=some y):=fun j y hj=>by
  by_cases e:j=i
  ·subst e;rw[List.getElem?_set_self hil] at hj;exact Or.inl ⟨rfl,(Option.some.inj hj).symm⟩
  ·rw[List.getElem?_set_ne (fun h=>e h.symm)] at hj;exact Or.inr ⟨e,hj⟩
 refine⟨fun y hy=>?_,fun y hy b hb=>?_,fun y hy b hb hd=>?_,fun b h=>Nat.lt_of_lt_of_le (H.dl b h) K.size,?_,fun y hy p hp=>?_,fun y hy q hq'=>?_,Nat.le_trans H.lo K.size⟩
 ·obtain⟨j,hj⟩:=List.mem_iff_getElem?.1 hy;rcases got j y hj with⟨_,rfl⟩ | ⟨e,hj⟩
  ·exact hx
  ·exact(H.hand y (List.mem_of_getElem? hj)).stay fun b hb hlt=>K.block b hlt (far j y hj e b hb)
 ·rcases List.mem_or_eq_of_mem_set hy with hy | rfl
  ·exact H.low y hy b hb
  ·rcases hl b hb with h | h
   ·exact H.low x (List.mem_of_getElem? hi) b h
   ·have:=H.lo;omega
 ·rcases List.mem_or_eq_of_mem_set hy with hy | rfl
  ·exact H.out y hy b hb hd
  ·rcases hl b hb with h | h
   ·exact H.out x (List.mem_of_getElem? hi) b h hd
   ·have:=H.dl b hd;omega
 ·refine List.pairwise_iff_getElem.2 fun j k hj hk hjk b hb hb2=>?_;rcases got j _ (List.getElem?_eq_getElem hj) with⟨e1,e2⟩ | ⟨e1,e2⟩ <;> rcases got k _ (List.getElem?_eq_getElem hk) with⟨e3,e4⟩ | ⟨e3,e4⟩
  ·omega
  ·rw[e2] at hb;exact far k _ e4 e3 b hb2 (hl b hb)
  ·rw[e4] at hb2;exact far j _ e2 e1 b hb (hl b hb2)
  ·exact H.apart e2 e4 (by omega) b hb hb2
 ·rcases List.mem_or_eq_of_mem_set hy with hy | rfl
  ·exact o1 y hy p hp
  ·exact hz p hp
 ·rcases List.mem_or_eq_of_mem_set hy with hy | rfl
  ·exact o2 y hy q hq'
  ·exact hq q hq'
theorem Hands.below {lo:Lo} {HS:List HR} {w w':World} (H:Hands lo HS w) (hb:Below w.heap.size w w'):Hands lo HS w':=
 have mv:∀b,b<w'.heap.size→LV lo HS w' b→LV lo HS w b:=fun _ _ h=>h.imp id fun h=>h.imp (fun h=>Nat.le_trans hb.size h) id
 ⟨fun x hx=>(H.hand x hx).below hb,H.low,H.out,fun b h=>Nat.lt_of_lt_of_le (H.dl b h) hb.size,H.dis,fun x hx p hp=>((H.fz x hx p hp).below hb).mono mv,fun x hx q hq=>((H.fq x hx q hq).kp (KpS.of hb)).mono mv,Nat.le_trans H.lo hb.size⟩
theorem Hands.book {lo:Lo} {HS:List HR} {w:World} (H:Hands lo HS w) {x:HR} (hx:x∈HS):RB (fun b=>x.live b∨w.heap.size≤b) (LV lo HS w) w x.g x.EL x.EW x.vl x.vw w:=
 have h:=H.hand x hx
 ⟨fun _ hb=>hb.imp (fun hb=>⟨x,hx,hb⟩) Or.inl,fun _ hb=>Or.inr hb,KpS.refl _ _,Or.inl (Or.inr (Or.inl rfl)),h.bbox,h.rowL,h.rowW,fun _ e=>Or.inl (Or.inr (Or.inr (Or.inl e))),fun _ e=>Or.inl (Or.inr (Or.inr (Or.inr (Or.inl e)))),h.ne,fun p hp=>H.fz x hx p hp⟩
def UAt (W:World) (u:Value) (m:Nat) (ys:List Value):Prop:=(u=.slice none 0 0∧m=0∧ys=[])∨∃b o c,u=.slice (some ⟨b,o,none⟩) m c∧∀j y,ys[j]?=some y→W.cell? ⟨b,o+j,none⟩=some y
def OfSize (T E:TypeId) (k:Nat):Prop:=Tryz.prog.underlying T=some (.slice E)∧0<k∧(Tryz.prog.info? E).map (fun i=>(i.zero.map (·.cells.size),i.size,decide (i.bytes≤400)))=some (some k,k,true)
theorem app_gen {T E:TypeId} {k:Nat} (ho:OfSize T E k) (ty:TypeId) (W:World) (B:Nat) (hB:B≤W.heap.size) (v u:Value) (n m:Nat) (xs ys:List Value) (h:W.ownsRow B E k v n xs) (hu:UAt W u m ys) (hy:ys.length=m*k) (h1:∀y∈ys,y.oneCell'=true) (hl:n+m≤1000000):
 ∃v' W',(Builtin.append_ #[T,T] ty #[v,u]).run Tryz.prog W=.ok v' W'∧W'.ownsRow B E k v' (n+m) (xs++ys)∧W.grownBy W' v.ownBlock∧(v'.ownBlock=v.ownBlock∨v'.ownBlock=some W.heap.size):=by
 obtain⟨ht,hk,hi⟩:=ho;cases hi0:Tryz.prog.info? E with
 | none=>rw[hi0] at hi;cases hi
 | some i0=>
  rw[hi0] at hi;simp only[Option.map_some,Option.some.injEq,Prod.mk.injEq] at hi;obtain⟨hz,hs,hb⟩:=hi;obtain⟨z,hz0,hz1⟩:=Option.map_eq_some_iff.1 hz;have hb2:=of_decide_eq_true hb;rcases hu with⟨rfl,rfl,rfl⟩ | ⟨b,o,c,rfl,hc⟩
  ·refine⟨v,W,run_append_owned_none (P:=Tryz.prog) (w:=W) B T ty E i0 k ht hi0 v n xs h,?_,⟨rfl,rfl,rfl,lRf,fun _ _ _=>rfl⟩,Or.inl rfl⟩;rw[List.append_nil];exact h
  ·obtain⟨v',W',q1,q2,q3,_,q5⟩:=run_append_own_at (P:=Tryz.prog) W B T ty E i0 z k i0.bytes ht hi0 hz0 hs rfl hz1 hk v n xs h ⟨b,o,none⟩ m c ys hy (fun j y hj=>by
    have ea:(⟨b,o,none⟩:Addr).add j=⟨b,o+j,none⟩:=by unfold Addr.add;split <;> simp_all
    rw[ea];exact hc j y hj) h1 (by unfold maxLen;omega) (Nat.le_trans (Nat.mul_le_mul hl hb2) (by decide)) hB
   exact⟨v',W',q1,q2,q3,q5⟩
theorem UAt.box {W:World} {x k:Nat} {ys:List Value} {E:TypeId} (hx:W.heap[x]?=some (.cells ys.toArray E)) (_hk:ys.length=k):UAt W (.slice (some ⟨x,0,none⟩) 1 1) 1 ys:=
 Or.inr ⟨x,0,1,rfl,fun j y hj=>by rw[Nat.zero_add];simp[World.cell?,hx,hj]⟩
theorem UAt.below {W W':World} {u:Value} {m:Nat} {ys:List Value} (h:UAt W u m ys) (hb:Below W.heap.size W W'):UAt W' u m ys:=by
 rcases h with h | ⟨b,o,c,rfl,hc⟩
 ·exact Or.inl h
 ·exact Or.inr ⟨b,o,c,rfl,fun j y hj=>(hb.cell (cell_in (hc j y hj))).trans (hc j y hj)⟩
theorem step_app {ops:Array Oper} {o:Oper} {a:Act} {w:World} {K:Act→World→Prop} {Q:Exit→Act→World→Prop} {E:Prop} (hgd:o.guard=none) (s x:Operand) (T:TypeId)
 (ho:o.op=.call {callee:=.builtin .append,args:=#[s,x],argTypes:=#[T,T]}) (v u r:Value) (w':World) (hs:a.eval s=v) (hx:a.eval x=u)
 (hrun:(Builtin.append_ #[T,T] o.type #[v,u]).run Tryz.prog w=.ok r w') (hK:K (a.put o.dst r) w'):if Region.wanted o (yielded ops a.tmps)=true then Oper.wp Tryz.prog o a w K Q else E:=by
 have hw:Region.wanted o (yielded ops a.tmps)=true:=by simp[Region.wanted,hgd]
 rw[if_pos hw];unfold Oper.wp;simp[execOp,ho,resolve,invoke,builtin,hs,hx,hrun,Result.andThen];exact hK
theorem wp_app {w w':World} {ops:Array Oper} {rest:List Oper} {o:Oper} {a:Act} {Q:Exit→Act→World→Prop} (hgd:o.guard=none) (s x:Operand) (t:TypeId) (ho:o.op=.call {callee:=.builtin .append,args:=#[s,x],argTypes:=#[t,t]})
 (v u r:Value) (hs:a.eval s=v) (hx:a.eval x=u) (hrun:(Builtin.append_ #[t,t] o.type #[v,u]).run Tryz.prog w=.ok r w') (h:wpList Tryz.prog ops Q rest (a.put o.dst r) w'):wpList Tryz.prog ops Q (o::rest) a w:=by
 refine wpList_plain hgd fun K hK=>?_;unfold Oper.wp;simp[execOp,ho,resolve,invoke,builtin,hs,hx,hrun,Result.andThen];exact hK _ _ h
theorem own_at_u {W:World} {B E k n:Nat} {v:Value} {xs:List Value} (h:W.ownsRow B E k v n xs):UAt W v n xs:=by
 rcases h.2 with⟨rfl,h0⟩ | ⟨g,cap,cur,rfl,_⟩
 ·have h1:=h.1;rw[h0,Nat.zero_mul] at h1;exact Or.inl ⟨rfl,h0,List.length_eq_zero_iff.1 h1⟩
 ·refine Or.inr ⟨g,0,cap,rfl,fun j y hj=>?_⟩;have hl:=(List.getElem?_eq_some_iff.1 hj).1;rw[Nat.zero_add,h.cellAt j (by have:=h.1;omega),hj]
theorem own_cut {W:World} {B E k n:Nat} {v:Value} {xs:List Value} (h:W.ownsRow B E k v n xs) (i:Nat) (hi:i≤n):
 (v=.slice none 0 0∧n=0∧xs=[])∨∃b c,v=.slice (some ⟨b,0,none⟩) n c∧n≤c∧UAt W (.slice (some ⟨b,0,none⟩) i c) i (xs.take (i*k))∧UAt W (.slice (some ⟨b,i*k,none⟩) (n - i) (c - i)) (n - i) (xs.drop (i*k)):=by
 rcases h.2 with⟨rfl,h0⟩ | ⟨g,cap,cur,rfl,_,_,hc,_⟩
 ·have h1:=h.1;rw[h0,Nat.zero_mul] at h1;exact Or.inl ⟨rfl,h0,List.length_eq_zero_iff.1 h1⟩
 ·have hik:i*k≤n*k:=Nat.mul_le_mul_right k hi;refine Or.inr ⟨g,cap,rfl,hc,Or.inr ⟨g,0,cap,rfl,fun j y hj=>?_⟩,Or.inr ⟨g,i*k,cap - i,rfl,fun j y hj=>?_⟩⟩
  ·have hl:=(List.getElem?_eq_some_iff.1 hj).1;rw[List.length_take] at hl;rw[List.getElem?_take_of_lt (by omega)] at hj;rw[Nat.zero_add,h.cellAt j (by omega),hj]
  ·rw[List.getElem?_drop] at hj;have hl:=(List.getElem?_eq_some_iff.1 hj).1;have:=h.1;rw[h.cellAt (i*k+j) (by omega),hj]
end Go.Proofs.YtamhlgflbacjgaaGreat
