/-
  What is proved: as each theorem says.
  Conditions: as each theorem says.
-/
import Derived.Test.YtamhlgflbacjgaaGreatF00
import Derived.Test.YtamhlgflbacjgaaGreatF24
import Derived.Test.YtamhlgflbacjgaaGreatF15
import Derived.Maps.AppendAt
import Derived.Laws.OwnMore
import Derived.Test.YtamhlgflbacjgaaGreatF16
set_option maxRecDepth 100000
set_option maxHeartbeats 16000000
namespace Go.Proofs.YtamhlgflbacjgaaGreat
open Go.RowKit Go.Sort
structure KpS (S:Nat→Prop) (w w':World):Prop where
 os:w'.os=w.os
 tape:w'.tape=w.tape
 output:w'.output=w.output
 size:w.heap.size≤w'.heap.size
 block:∀k,k<w.heap.size→¬S k→w'.heap[k]?=w.heap[k]?
theorem KpS.refl (S:Nat→Prop) (w:World):KpS S w w:=⟨rfl,rfl,rfl,lRf,fun _ _ _=>rfl⟩
theorem KpS.trans {S:Nat→Prop} {w w1 w2:World} (h:KpS S w w1) (k:KpS S w1 w2):KpS S w w2:=
 ⟨k.os.trans h.os,k.tape.trans h.tape,k.output.trans h.output,Nat.le_trans h.size k.size,fun b hb hS=>(k.block b (Nat.lt_of_lt_of_le hb h.size) hS).trans (h.block b hb hS)⟩
theorem KpS.mono {S T:Nat→Prop} {w w':World} (h:KpS S w w') (hT:∀k,k<w.heap.size→S k→T k):KpS T w w':=⟨h.os,h.tape,h.output,h.size,fun k hk hn=>h.block k hk (fun e=>hn (hT k hk e))⟩
theorem KpS.of {S:Nat→Prop} {w w':World} (h:Below w.heap.size w w'):KpS S w w':=⟨h.os,h.tape,h.output,h.size,fun k hk _=>h.block k hk⟩
theorem KpS.below {S:Nat→Prop} {w w':World} {B:Nat} (h:KpS S w w') (hB:B≤w.heap.size) (hS:∀k,S k→B≤k):Below B w w':=
 ⟨h.os,h.tape,h.output,h.size,fun k hk=>h.block k (by omega) (fun e=>by have:=hS k e;omega)⟩
theorem KpS.heap {S:Nat→Prop} {w w':World} {b:Nat} {o:Obj} (h:KpS S w w') (hb:w.heap[b]?=some o) (hS:¬S b):w'.heap[b]?=some o:=by
 rw[h.block b (lt_of_heap hb) hS];exact hb
theorem own_type {w:World} {B e s n b:Nat} {v:Value} {xs:List Value} (h:w.ownsRow B e s v n xs) (hb:v.ownBlock=some b):∃cur,w.heap[b]?=some (.cells cur e):=by
 rcases h.2 with⟨rfl,_⟩ | ⟨g,cap,cur,rfl,_,hg,_⟩
 ·simp[Value.ownBlock] at hb
 ·simp[Value.ownBlock] at hb;subst hb;exact⟨cur,hg⟩
theorem KpS.grown {S:Nat→Prop} {w w':World} {v:Value} (hs:∀b,v.ownBlock=some b→S b) (hg:w.grownBy w' v.ownBlock):KpS S w w':=
 ⟨hg.os,hg.tape,hg.output,hg.size,fun k hk hS=>hg.block k hk (fun e=>hS (hs k e.symm))⟩
theorem KpS.set {S:Nat→Prop} {g i:Nat} {w:World} (u:Value) (hg:S g):KpS S w (w.setCell ⟨g,i,none⟩ u):=
 have b:=(Below.refl g w).setCell (p:=⟨g,i,none⟩) lRf u
 ⟨b.os,b.tape,b.output,b.size,fun k hk hS=>by
  rw[Below.heap_setCell _ _ _ _ (by
   intro e;have e:k=g:=by simpa using e
   subst e;exact hS hg)]⟩
def FzC (S:Nat→Prop) (w:World) (v:Value) (c:Chg):Prop:=∀w',KpS S w w'→IsChgW w' v c
section
variable {S T : Nat → Prop} {w w' : World} {v : Value} {c : Chg}
theorem FzC.chgW (h:FzC S w v c):IsChgW w v c:=h w (KpS.refl _ _)
theorem FzC.chg (h:FzC S w v c):IsChg w v c:=h.chgW.chg
theorem FzC.kp (h:FzC S w v c) (k:KpS S w w'):FzC S w' v c:=fun w2 k2=>h w2 (k.trans k2)
theorem FzC.below (h:FzC S w v c) (b:Below w.heap.size w w'):FzC S w' v c:=h.kp (KpS.of b)
theorem FzC.mono (h:FzC S w v c) (hT:∀k,k<w.heap.size→T k→S k):FzC T w v c:=fun w2 k2=>h w2 (k2.mono hT)
end
theorem run_appC_at (ty:TypeId) (W:World) (B:Nat) (hB:B≤W.heap.size) (v u:Value) (us:List Value) (hu:CV u) (h:RowC B v us W) (hl:us.length≤1000000) (x:Nat) (hx:W.heap[x]?=some (.cells (vcells u).toArray 33)):
 ∃v' W',(Builtin.append_ #[23,23] ty #[v,.slice (some ⟨x,0,none⟩) 1 1]).run Tryz.prog W=.ok v' W'∧RowC B v' (us++[u]) W'∧W.grownBy W' v.ownBlock∧(v'.ownBlock=v.ownBlock∨v'.ownBlock=some W.heap.size):=by
 obtain⟨i0,hi0,hz0,hz1,hz2⟩:=info_parts infoC;obtain⟨v',W',h1,h2,h3,_,h5⟩:=run_append_own_at (P:=Tryz.prog) W B 23 ty 33 i0 _ 5 _ Tryz.underlying23 hi0 hz0 hz1 hz2 rfl (by decide) v us.length _ h ⟨x,0,none⟩ 1 1 (vcells u) (by rw[(cv_cells hu).1]) (fun j y hj=>by
  have ea:(⟨x,0,none⟩:Addr).add j=⟨x,j,none⟩:=by unfold Addr.add;split <;> simp_all
  rw[ea];simp[World.cell?,hx,hj]) (cv_cells hu).2 (by unfold maxLen;omega) (by omega) hB
 refine⟨v',W',h1,?_,h3,h5⟩;show World.ownsRow _ _ _ _ _ _ _;rw[List.flatMap_append,List.length_append];simpa using h2
theorem run_appCs (ty:TypeId) (W:World) (B:Nat) (hB:B≤W.heap.size) (v:Value) (us xs:List Value) (hx:∀u∈xs,CV u) (h:RowC B v us W) (hl:us.length+xs.length≤1000000) (b o c:Nat) (hc:∀j y,(xs.flatMap vcells)[j]?=some y→W.cell? ⟨b,o+j,none⟩=some y):
 ∃v' W',(Builtin.append_ #[23,23] ty #[v,.slice (some ⟨b,o,none⟩) xs.length c]).run Tryz.prog W=.ok v' W'∧RowC B v' (us++xs) W'∧W.grownBy W' v.ownBlock∧(v'.ownBlock=v.ownBlock∨v'.ownBlock=some W.heap.size):=by
 obtain⟨i0,hi0,hz0,hz1,hz2⟩:=info_parts infoC;obtain⟨v',W',h1,h2,h3,_,h5⟩:=run_append_own_at (P:=Tryz.prog) W B 23 ty 33 i0 _ 5 _ Tryz.underlying23 hi0 hz0 hz1 hz2 rfl (by decide) v us.length _ h ⟨b,o,none⟩ xs.length c (xs.flatMap vcells) (flat_len hx) (fun j y hj=>by
  have ea:(⟨b,o,none⟩:Addr).add j=⟨b,o+j,none⟩:=by unfold Addr.add;split <;> simp_all
  rw[ea];exact hc j y hj) (fun u hu=>by
   obtain⟨x,hx1,hx2⟩:=List.mem_flatMap.1 hu;exact(cv_cells (hx x hx1)).2 u hx2) (by unfold maxLen;omega) (by omega) hB
 refine⟨v',W',h1,?_,h3,h5⟩;show World.ownsRow _ _ _ _ _ _ _;rw[List.flatMap_append,List.length_append];exact h2
structure RB (S T:Nat→Prop) (w0:World) (g:Nat) (EL EW:List CE) (vl vw:Value) (w:World):Prop where
 st:∀b,S b→T b
 fr:∀b,w0.heap.size≤b→S b
 bel:KpS S w0 w
 sg:S g
 box:w.heap[g]?=some (.cells #[vl,vw] 73)
 rowL:RowC 0 vl (EL.map (·.2)) w
 rowW:RowC 0 vw (EW.map (·.2)) w
 sl:∀b,vl.ownBlock=some b→S b
 sw:∀b,vw.ownBlock=some b→S b
 ne:∀b,vl.ownBlock=some b→vw.ownBlock≠some b
 chgs:∀p∈EL++EW,FzC T w0 p.2 p.1
theorem RB.base {S T:Nat→Prop} {w0 w:World} {g:Nat} {EL EW:List CE} {vl vw:Value} (R:RB S T w0 g EL EW vl vw w):RB S T w g EL EW vl vw w:=
 ⟨R.st,fun k hk=>R.fr k (Nat.le_trans R.bel.size hk),KpS.refl _ _,R.sg,R.box,R.rowL,R.rowW,R.sl,R.sw,R.ne,fun p hp=>(R.chgs p hp).kp (R.bel.mono fun b _ h=>R.st b h)⟩
theorem RB.belT {S T:Nat→Prop} {w0 w:World} {g:Nat} {EL EW:List CE} {vl vw:Value} (R:RB S T w0 g EL EW vl vw w):KpS T w0 w:=R.bel.mono fun b _ h=>R.st b h
theorem map_toCX (E:List CE):(E.map toCX).map (·.c)=chgsOf E:=by unfold chgsOf;rw[List.map_map];rfl
section
variable {S T : Nat → Prop} {w0 w w' : World} {g : Nat} {EL EW : List CE} {vl vw : Value}
theorem RB.below (R:RB S T w0 g EL EW vl vw w) (b:Below w.heap.size w w'):RB S T w0 g EL EW vl vw w':=
 ⟨R.st,R.fr,R.bel.trans (KpS.of b),R.sg,heap_below R.box b lRf,own_below R.rowL b lRf,own_below R.rowW b lRf,R.sl,R.sw,R.ne,R.chgs⟩
theorem slice_row {B e s n:Nat} {v:Value} {xs:List Value} (h:w.ownsRow B e s v n xs):∃a c,v=.slice a n c:=by
 rcases h.2 with⟨rfl,e⟩ | ⟨g,cap,cur,rfl,_⟩
 ·exact⟨_,_,by rw[e]⟩
 ·exact⟨_,_,rfl⟩
theorem RB.cv (R:RB S T w0 g EL EW vl vw w):∀p∈EL++EW,CV p.2:=fun p hp=>(toCX_val ((R.chgs p hp).kp (R.bel.mono fun b _ h=>R.st b h)).chg).2.2.1
theorem RB.isL (R:RB S T w0 g EL EW vl vw w) (hl:EL.length+EW.length≤120):IsChgs w vl (EL.map toCX):=
 rowC_chgs R.rowL (by omega) fun p hp=>((R.chgs p (List.mem_append_left _ hp)).kp (R.bel.mono fun b _ h=>R.st b h)).chg
theorem RB.isW (R:RB S T w0 g EL EW vl vw w) (hl:EL.length+EW.length≤120):IsChgs w vw (EW.map toCX):=
 rowC_chgs R.rowW (by omega) fun p hp=>((R.chgs p (List.mem_append_right _ hp)).kp (R.bel.mono fun b _ h=>R.st b h)).chg
theorem wh_toCX {w:World} {p:CE} (h:IsChgW w p.2 p.1):Wh (toCX p).ud:=by
 obtain⟨ud,uo,l,h1,_,_,_,_,h5,_⟩:=h;unfold toCX;rw[h1];exact h5
theorem RB.whL (R:RB S T w0 g EL EW vl vw w):∀x∈EL.map toCX,Wh x.ud:=fun x hx=>by
 obtain⟨p,hp,rfl⟩:=List.mem_map.1 hx;exact wh_toCX (R.chgs p (List.mem_append_left _ hp)).chgW
theorem own_ne_box {B e s n b t:Nat} {v:Value} {xs:List Value} {cur:Array Value} (h:w.ownsRow B e s v n xs) (hb:w.heap[b]?=some (.cells cur t)) (ht:t≠e):v.ownBlock≠some b:=fun e=>by
 obtain⟨cur',h2⟩:=own_type h e;rw[hb] at h2;have:=Option.some.inj h2;injection this with _ h5
 exact ht h5
theorem RB.addL {v' u:Value} {c:Chg} (R:RB S T w0 g EL EW vl vw w) (gr:w.grownBy w' vl.ownBlock) (row:RowC 0 v' (EL.map (·.2)++[u]) w') (hv:v'.ownBlock=vl.ownBlock∨v'.ownBlock=some w.heap.size) (hc:FzC T w0 u c):
 RB S T w0 g (EL++[(c,u)]) EW v' vw (w'.setCell ⟨g,0,none⟩ v')∧KpS S w (w'.setCell ⟨g,0,none⟩ v'):=by
 have hne:=own_ne_box R.rowL R.box (by decide);have hbx:w'.heap[g]?=some (.cells #[vl,vw] 73):=(gr.block g (lt_of_heap R.box) (fun e=>hne e.symm)).trans R.box;have hW:=R.rowW.kept gr (by
  rcases h:vw.ownBlock with _ | b
  ·exact Or.inl rfl
  ·exact Or.inr (fun e=>R.ne b e.symm h))
 have K:KpS S w (w'.setCell ⟨g,0,none⟩ v'):=(KpS.grown R.sl gr).trans (KpS.set v' R.sg);refine⟨⟨R.st,R.fr,R.bel.trans K,R.sg,?_,?_,own_set_other hW hbx (by decide),fun b hb=>?_,R.sw,fun b hb=>?_,fun p hp=>?_⟩,K⟩
 ·rw[set_at hbx 0 v'];rfl
 ·rw[List.map_append];exact own_set_other row hbx (by decide)
 ·rcases hv with e | e
  ·exact R.sl b (by rw[←e];exact hb)
  ·rw[e] at hb;exact R.fr b (by rw[←Option.some.inj hb];exact R.bel.size)
 ·rcases hv with e | e
  ·exact R.ne b (by rw[←e];exact hb)
  ·intro e2;have:=(R.rowW.lt b e2).2;rw[e] at hb;have:=Option.some.inj hb;omega
 ·rcases List.mem_append.1 hp with hp | hp
  ·rcases List.mem_append.1 hp with hp | hp
   ·exact R.chgs p (List.mem_append_left _ hp)
   ·rw[List.mem_singleton.1 hp];exact hc
  ·exact(R.chgs p (List.mem_append_right _ hp))
theorem RB.addW {v' u:Value} {c:Chg} (R:RB S T w0 g EL EW vl vw w) (gr:w.grownBy w' vw.ownBlock) (row:RowC 0 v' (EW.map (·.2)++[u]) w') (hv:v'.ownBlock=vw.ownBlock∨v'.ownBlock=some w.heap.size) (hc:FzC T w0 u c):
 RB S T w0 g EL (EW++[(c,u)]) vl v' (w'.setCell ⟨g,1,none⟩ v')∧KpS S w (w'.setCell ⟨g,1,none⟩ v'):=by
 have hne:=own_ne_box R.rowW R.box (by decide);have hbx:w'.heap[g]?=some (.cells #[vl,vw] 73):=(gr.block g (lt_of_heap R.box) (fun e=>hne e.symm)).trans R.box;have hL:=R.rowL.kept gr (by
  rcases h:vl.ownBlock with _ | b
  ·exact Or.inl rfl
  ·exact Or.inr (fun e=>R.ne b h e.symm))
 have K:KpS S w (w'.setCell ⟨g,1,none⟩ v'):=(KpS.grown R.sw gr).trans (KpS.set v' R.sg);refine⟨⟨R.st,R.fr,R.bel.trans K,R.sg,?_,own_set_other hL hbx (by decide),?_,R.sl,fun b hb=>?_,fun b hb=>?_,fun p hp=>?_⟩,K⟩
 ·rw[set_at hbx 1 v'];rfl
 ·rw[List.map_append];exact own_set_other row hbx (by decide)
 ·rcases hv with e | e
  ·exact R.sw b (by rw[←e];exact hb)
  ·rw[e] at hb;exact R.fr b (by rw[←Option.some.inj hb];exact R.bel.size)
 ·rcases hv with e | e
  ·rw[e];exact R.ne b hb
  ·intro e2;have:=(R.rowL.lt b hb).2;rw[e] at e2;have:=Option.some.inj e2;omega
 ·rcases List.mem_append.1 hp with hp | hp
  ·exact R.chgs p (List.mem_append_left _ hp)
  ·rcases List.mem_append.1 hp with hp | hp
   ·exact(R.chgs p (List.mem_append_right _ hp))
   ·rw[List.mem_singleton.1 hp];exact hc
theorem RB.setW {EV:List CE} {v':Value} (R:RB S T w0 g EL EW vl vw w) (row:RowC 0 v' (EV.map (·.2)) w) (hs:∀b,v'.ownBlock=some b→S b) (hv:∀b,vl.ownBlock=some b→v'.ownBlock≠some b) (hc:∀p∈EV,p∈EW):
 RB S T w0 g EL EV vl v' (w.setCell ⟨g,1,none⟩ v')∧KpS S w (w.setCell ⟨g,1,none⟩ v'):=by
 have K:KpS S w (w.setCell ⟨g,1,none⟩ v'):=KpS.set v' R.sg;refine⟨⟨R.st,R.fr,R.bel.trans K,R.sg,?_,own_set_other R.rowL R.box (by decide),own_set_other row R.box (by decide),R.sl,hs,hv,fun p hp=>?_⟩,K⟩
 ·rw[set_at R.box 1 v'];rfl
 ·rcases List.mem_append.1 hp with hp | hp
  ·exact R.chgs p (List.mem_append_left _ hp)
  ·exact(R.chgs p (List.mem_append_right _ (hc p hp)))
end
structure HR where
 h:Nat
 g:Nat
 act:Int
 EL:List CE
 EW:List CE
 vl:Value
 vw:Value
 vp:Value
 P:List OV
def HR.live (x:HR) (b:Nat):Prop:=b=x.h∨b=x.g∨x.vl.ownBlock=some b∨x.vw.ownBlock=some b∨x.vp.ownBlock=some b
structure HandAt (x:HR) (w:World):Prop where
 box:w.heap[x.h]?=some (.cells #[.int .i64 x.act,.pointer (some ⟨x.g,0,none⟩),x.vp] 68)
 bbox:w.heap[x.g]?=some (.cells #[x.vl,x.vw] 73)
 rowL:RowC 0 x.vl (x.EL.map (·.2)) w
 rowW:RowC 0 x.vw (x.EW.map (·.2)) w
 rowP:RowO 0 x.vp x.P w
 ne:∀b,x.vl.ownBlock=some b→x.vw.ownBlock≠some b
 ri:RI (chgsOf x.EL) (chgsOf x.EW)
 act:1≤x.act∧x.act≤99
 few:x.P.length≤40
theorem HandAt.stay {x:HR} {w w':World} (h:HandAt x w) (hk:∀b,x.live b→b<w.heap.size→w'.heap[b]?=w.heap[b]?):HandAt x w':=by
 have row:∀{e s n:Nat} {v:Value} {xs:List Value},w.ownsRow 0 e s v n xs→(∀b,v.ownBlock=some b→x.live b)→w'.ownsRow 0 e s v n xs:=fun {e s n v xs} hr hv=>by
  refine⟨hr.1,?_⟩;rcases hr.2 with h0 | ⟨g,cap,cur,h1,h2,h3,h4⟩
  ·exact Or.inl h0
  ·refine Or.inr ⟨g,cap,cur,h1,h2,?_,h4⟩;rw[hk g (hv g (by rw[h1];rfl)) (lt_of_heap h3)];exact h3
 exact⟨(hk _ (Or.inl rfl) (lt_of_heap h.box)).trans h.box,(hk _ (Or.inr (Or.inl rfl)) (lt_of_heap h.bbox)).trans h.bbox,row h.rowL (fun b e=>Or.inr (Or.inr (Or.inl e))),row h.rowW (fun b e=>Or.inr (Or.inr (Or.inr (Or.inl e)))),row h.rowP (fun b e=>Or.inr (Or.inr (Or.inr (Or.inr e)))),h.ne,h.ri,h.act,h.few⟩
theorem HandAt.below {x:HR} {w w':World} (h:HandAt x w) (hb:Below w.heap.size w w'):HandAt x w':=h.stay fun b _ hlt=>hb.block b hlt
theorem HandAt.lt {x:HR} {w:World} (h:HandAt x w) {b:Nat} (hb:x.live b):b<w.heap.size:=by
 rcases hb with rfl | rfl | e | e | e
 ·exact lt_of_heap h.box
 ·exact lt_of_heap h.bbox
 ·exact(h.rowL.lt b e).2
 ·exact(h.rowW.lt b e).2
 ·exact(h.rowP.lt b e).2
def FzQ (S:Nat→Prop) (w:World) (q:OV):Prop:=OpNums q.1∧∀w',KpS S w w'→IsPairs w' q.2 q.1.preds∧Wh q.2
section
variable {S T : Nat → Prop} {w w' : World} {q : OV}
theorem FzQ.kp (h:FzQ S w q) (k:KpS S w w'):FzQ S w' q:=⟨h.1,fun w2 k2=>h.2 w2 (k.trans k2)⟩
theorem FzQ.mono (h:FzQ S w q) (hT:∀k,k<w.heap.size→T k→S k):FzQ T w q:=⟨h.1,fun w2 k2=>h.2 w2 (k2.mono hT)⟩
end
structure Lo where
 n:Nat
 D:Nat→Prop
def LV (lo:Lo) (HS:List HR) (w:World) (b:Nat):Prop:=(∃x∈HS,x.live b)∨w.heap.size≤b∨lo.D b
structure Hands (lo:Lo) (HS:List HR) (w:World):Prop where
 hand:∀x∈HS,HandAt x w
 low:∀x∈HS,∀b,x.live b→lo.n≤b
 out:∀x∈HS,∀b,x.live b→¬lo.D b
 dl:∀b,lo.D b→b<w.heap.size
 dis:HS.Pairwise fun x y=>∀b,x.live b→¬y.live b
 fz:∀x∈HS,∀p∈x.EL++x.EW,FzC (LV lo HS w) w p.2 p.1
 fq:∀x∈HS,∀q∈x.P,FzQ (LV lo HS w) w q
 lo:lo.n≤w.heap.size
theorem LV.next {lo:Lo} {HS:List HR} {w w':World} {i:Nat} {x x':HR} (hi:HS[i]?=some x) (hs:w.heap.size≤w'.heap.size) (hl:∀b,x'.live b→x.live b∨w.heap.size≤b) {b:Nat} (h:LV lo (HS.set i x') w' b):LV lo HS w b:=by
 rcases h with⟨y,hy,hb⟩ | h
 ·rcases List.mem_or_eq_of_mem_set hy with hy | rfl
  ·exact Or.inl ⟨y,hy,hb⟩
  ·rcases hl b hb with h | h
   ·exact Or.inl ⟨x,List.mem_of_getElem? hi,h⟩
   ·exact Or.inr (Or.inl h)
 ·exact Or.inr (h.imp (fun h=>Nat.le_trans hs h) id)
theorem Hands.apart {lo:Lo} {HS:List HR} {w:World} (H:Hands lo HS w) {i j:Nat} {x y:HR} (hi:HS[i]?=some x) (hj:HS[j]?=some y) (hn:i≠j) (b:Nat):x.live b→¬y.live b:=by
 obtain⟨l1,e1⟩:=List.getElem?_eq_some_iff.1 hi;obtain⟨l2,e2⟩:=List.getElem?_eq_some_iff.1 hj;have hp:=List.pairwise_iff_getElem.1 H.dis;rcases Nat.lt_or_gt_of_ne hn with h | h
 ·have:=hp i j l1 l2 h b;rw[e1,e2] at this;exact this
 ·have:=hp j i l2 l1 h b;rw[e1,e2] at this;exact fun h1 h2=>this h2 h1
theorem Hands.old {lo:Lo} {HS:List HR} {w w':World} (H:Hands lo HS w) {i:Nat} {x x':HR} (hi:HS[i]?=some x) (K:KpS (fun b=>x.live b∨w.heap.size≤b) w w') (hl:∀b,x'.live b→x.live b∨w.heap.size≤b):
 (∀y∈HS,∀p∈y.EL++y.EW,FzC (LV lo (HS.set i x') w') w' p.2 p.1)∧∀y∈HS,∀q∈y.P,FzQ (LV lo (HS.set i x') w') w' q:=by
 have K':KpS (LV lo HS w) w w':=K.mono fun b _ hb=>by
  rcases hb with hb | hb
  ·exact Or.inl ⟨x,List.mem_of_getElem? hi,hb⟩
  ·exact Or.inr (Or.inl hb)
 exact⟨fun y hy p hp=>((H.fz y hy p hp).kp K').mono fun b _ h=>LV.next hi K.size hl h,fun y hy q hq=>((H.fq y hy q hq).kp K').mono fun b _ h=>LV.next hi K.size hl h⟩
theorem Hands.step {lo:Lo} {HS:List HR} {w w':World} (H:Hands lo HS w) {i:Nat} {x x':HR} (hi:HS[i]?=some x) (K:KpS (fun b=>x.live b∨w.heap.size≤b) w w') (hx:HandAt x' w') (hl:∀b,x'.live b→x.live b∨w.heap.size≤b)
 (hz:∀p∈x'.EL++x'.EW,FzC (LV lo (HS.set i x') w') w' p.2 p.1) (hq:∀q∈x'.P,FzQ (LV lo (HS.set i x') w') w' q):Hands lo (HS.set i x') w':=by
 obtain⟨hil,hie⟩:=List.getElem?_eq_some_iff.1 hi;obtain⟨o1,o2⟩:=H.old hi K hl;have far:∀j y,HS[j]?=some y→j≠i→∀b,y.live b→¬(x.live b∨w.heap.size≤b):=fun j y hj hn b hb e=>by
  rcases e with e | e
  ·exact H.apart hj hi hn b hb e
  ·have:=(H.hand y (List.mem_of_getElem? hj)).lt hb;omega
 have got:∀j y,(HS.set i x')[j]?=some y→(j=i∧y=x')∨(j≠i∧HS[j]?=some y):=fun j y hj=>by
  by_cases e:j=i
  ·subst e;rw[List.getElem?_set_self hil] at hj;exact Or.inl ⟨rfl,(Option.some.inj hj).symm⟩
  ·rw[List.getElem?_set_ne (fun h=>e h.symm)] at hj;exact Or.inr ⟨e,hj⟩
 refine⟨fun y hy=>?_,fun y hy b hb=>?_,fun y hy b hb hd=>?_,fun b h=>Nat.lt_of_lt_of_le (H.dl b h) K.size,?_,fun y hy p hp=>?_,fun y hy q hq'=>?_,Nat.le_trans H.lo K.size⟩
 ·obtain⟨j,hj⟩:=List.mem_iff_getElem?.1 hy;rcases got j y hj with⟨_,rfl⟩ | ⟨e,hj⟩
  ·exact hx
  ·exact(H.hand y (List.mem_of_getElem? hj)).stay fun b hb hlt=>K.block b hlt (far j y hj e b hb)
 ·rcases List.mem_or_eq_of_mem_set hy with hy | rfl
  ·exact H.low y hy b hb
  ·rcases hl b hb with h | h
   ·exact H.low x (List.mem_of_getElem? hi) b h
   ·have:=H.lo;omega
 ·rcases List.mem_or_eq_of_mem_set hy with hy | rfl
  ·exact H.out y hy b hb hd
  ·rcases hl b hb with h | h
   ·exact H.out x (List.mem_of_getElem? hi) b h hd
   ·have:=H.dl b hd;omega
 ·refine List.pairwise_iff_getElem.2 fun j k hj hk hjk b hb hb2=>?_;rcases got j _ (List.getElem?_eq_getElem hj) with⟨e1,e2⟩ | ⟨e1,e2⟩ <;> rcases got k _ (List.getElem?_eq_getElem hk) with⟨e3,e4⟩ | ⟨e3,e4⟩
  ·omega
  ·rw[e2] at hb;exact far k _ e4 e3 b hb2 (hl b hb)
  ·rw[e4] at hb2;exact far j _ e2 e1 b hb (hl b hb2)
  ·exact H.apart e2 e4 (by omega) b hb hb2
 ·rcases List.mem_or_eq_of_mem_set hy with hy | rfl
  ·exact o1 y hy p hp
  ·exact hz p hp
 ·rcases List.mem_or_eq_of_mem_set hy with hy | rfl
  ·exact o2 y hy q hq'
  ·exact hq q hq'
theorem Hands.below {lo:Lo} {HS:List HR} {w w':World} (H:Hands lo HS w) (hb:Below w.heap.size w w'):Hands lo HS w':=
 have mv:∀b,b<w'.heap.size→LV lo HS w' b→LV lo HS w b:=fun _ _ h=>h.imp id fun h=>h.imp (fun h=>Nat.le_trans hb.size h) id
 ⟨fun x hx=>(H.hand x hx).below hb,H.low,H.out,fun b h=>Nat.lt_of_lt_of_le (H.dl b h) hb.size,H.dis,fun x hx p hp=>((H.fz x hx p hp).below hb).mono mv,fun x hx q hq=>((H.fq x hx q hq).kp (KpS.of hb)).mono mv,Nat.le_trans H.lo hb.size⟩
theorem Hands.book {lo:Lo} {HS:List HR} {w:World} (H:Hands lo HS w) {x:HR} (hx:x∈HS):RB (fun b=>x.live b∨w.heap.size≤b) (LV lo HS w) w x.g x.EL x.EW x.vl x.vw w:=
 have h:=H.hand x hx
 ⟨fun _ hb=>hb.imp (fun hb=>⟨x,hx,hb⟩) Or.inl,fun _ hb=>Or.inr hb,KpS.refl _ _,Or.inl (Or.inr (Or.inl rfl)),h.bbox,h.rowL,h.rowW,fun _ e=>Or.inl (Or.inr (Or.inr (Or.inl e))),fun _ e=>Or.inl (Or.inr (Or.inr (Or.inr (Or.inl e)))),h.ne,fun p hp=>H.fz x hx p hp⟩
def UAt (W:World) (u:Value) (m:Nat) (ys:List Value):Prop:=(u=.slice none 0 0∧m=0∧ys=[])∨∃b o c,u=.slice (some ⟨b,o,none⟩) m c∧∀j y,ys[j]?=some y→W.cell? ⟨b,o+j,none⟩=some y
def OfSize (T E:TypeId) (k:Nat):Prop:=Tryz.prog.underlying T=some (.slice E)∧0<k∧(Tryz.prog.info? E).map (fun i=>(i.zero.map (·.cells.size),i.size,decide (i.bytes≤400)))=some (some k,k,true)
theorem app_gen {T E:TypeId} {k:Nat} (ho:OfSize T E k) (ty:TypeId) (W:World) (B:Nat) (hB:B≤W.heap.size) (v u:Value) (n m:Nat) (xs ys:List Value) (h:W.ownsRow B E k v n xs) (hu:UAt W u m ys) (hy:ys.length=m*k) (h1:∀y∈ys,y.oneCell'=true) (hl:n+m≤1000000):
 ∃v' W',(Builtin.append_ #[T,T] ty #[v,u]).run Tryz.prog W=.ok v' W'∧W'.ownsRow B E k v' (n+m) (xs++ys)∧W.grownBy W' v.ownBlock∧(v'.ownBlock=v.ownBlock∨v'.ownBlock=some W.heap.size):=by
 obtain⟨ht,hk,hi⟩:=ho;cases hi0:Tryz.prog.info? E with
 | none=>rw[hi0] at hi;cases hi
 | some i0=>
  rw[hi0] at hi;simp only[Option.map_some,Option.some.injEq,Prod.mk.injEq] at hi;obtain⟨hz,hs,hb⟩:=hi;obtain⟨z,hz0,hz1⟩:=Option.map_eq_some_iff.1 hz;have hb2:=of_decide_eq_true hb;rcases hu with⟨rfl,rfl,rfl⟩ | ⟨b,o,c,rfl,hc⟩
  ·refine⟨v,W,run_append_owned_none (P:=Tryz.prog) (w:=W) B T ty E i0 k ht hi0 v n xs h,?_,⟨rfl,rfl,rfl,lRf,fun _ _ _=>rfl⟩,Or.inl rfl⟩;rw[List.append_nil];exact h
  ·obtain⟨v',W',q1,q2,q3,_,q5⟩:=run_append_own_at (P:=Tryz.prog) W B T ty E i0 z k i0.bytes ht hi0 hz0 hs rfl hz1 hk v n xs h ⟨b,o,none⟩ m c ys hy (fun j y hj=>by
    have ea:(⟨b,o,none⟩:Addr).add j=⟨b,o+j,none⟩:=by unfold Addr.add;split <;> simp_all
    rw[ea];exact hc j y hj) h1 (by unfold maxLen;omega) (Nat.le_trans (Nat.mul_le_mul hl hb2) (by decide)) hB
   exact⟨v',W',q1,q2,q3,q5⟩
theorem UAt.box {W:World} {x k:Nat} {ys:List Value} {E:TypeId} (hx:W.heap[x]?=some (.cells ys.toArray E)) (_hk:ys.length=k):UAt W (.slice (some ⟨x,0,none⟩) 1 1) 1 ys:=
 Or.inr ⟨x,0,1,rfl,fun j y hj=>by rw[Nat.zero_add];simp[World.cell?,hx,hj]⟩
theorem UAt.below {W W':World} {u:Value} {m:Nat} {ys:List Value} (h:UAt W u m ys) (hb:Below W.heap.size W W'):UAt W' u m ys:=by
 rcases h with h | ⟨b,o,c,rfl,hc⟩
 ·exact Or.inl h
 ·exact Or.inr ⟨b,o,c,rfl,fun j y hj=>(hb.cell (cell_in (hc j y hj))).trans (hc j y hj)⟩
theorem step_app {ops:Array Oper} {o:Oper} {a:Act} {w:World} {K:Act→World→Prop} {Q:Exit→Act→World→Prop} {E:Prop} (hgd:o.guard=none) (s x:Operand) (T:TypeId)
 (ho:o.op=.call {callee:=.builtin .append,args:=#[s,x],argTypes:=#[T,T]}) (v u r:Value) (w':World) (hs:a.eval s=v) (hx:a.eval x=u)
 (hrun:(Builtin.append_ #[T,T] o.type #[v,u]).run Tryz.prog w=.ok r w') (hK:K (a.put o.dst r) w'):if Region.wanted o (yielded ops a.tmps)=true then Oper.wp Tryz.prog o a w K Q else E:=by
 have hw:Region.wanted o (yielded ops a.tmps)=true:=by simp[Region.wanted,hgd]
 rw[if_pos hw];unfold Oper.wp;simp[execOp,ho,resolve,invoke,builtin,hs,hx,hrun,Result.andThen];exact hK
theorem wp_app {w w':World} {ops:Array Oper} {rest:List Oper} {o:Oper} {a:Act} {Q:Exit→Act→World→Prop} (hgd:o.guard=none) (s x:Operand) (t:TypeId) (ho:o.op=.call {callee:=.builtin .append,args:=#[s,x],argTypes:=#[t,t]})
 (v u r:Value) (hs:a.eval s=v) (hx:a.eval x=u) (hrun:(Builtin.append_ #[t,t] o.type #[v,u]).run Tryz.prog w=.ok r w') (h:wpList Tryz.prog ops Q rest (a.put o.dst r) w'):wpList Tryz.prog ops Q (o::rest) a w:=by
 refine wpList_plain hgd fun K hK=>?_;unfold Oper.wp;simp[execOp,ho,resolve,invoke,builtin,hs,hx,hrun,Result.andThen];exact hK _ _ h
theorem own_at_u {W:World} {B E k n:Nat} {v:Value} {xs:List Value} (h:W.ownsRow B E k v n xs):UAt W v n xs:=by
 rcases h.2 with⟨rfl,h0⟩ | ⟨g,cap,cur,rfl,_⟩
 ·have h1:=h.1;rw[h0,Nat.zero_mul] at h1;exact Or.inl ⟨rfl,h0,List.length_eq_zero_iff.1 h1⟩
 ·refine Or.inr ⟨g,0,cap,rfl,fun j y hj=>?_⟩;have hl:=(List.getElem?_eq_some_iff.1 hj).1;rw[Nat.zero_add,h.cellAt j (by have:=h.1;omega),hj]
theorem own_cut {W:World} {B E k n:Nat} {v:Value} {xs:List Value} (h:W.ownsRow B E k v n xs) (i:Nat) (hi:i≤n):
 (v=.slice none 0 0∧n=0∧xs=[])∨∃b c,v=.slice (some ⟨b,0,none⟩) n c∧n≤c∧UAt W (.slice (some ⟨b,0,none⟩) i c) i (xs.take (i*k))∧UAt W (.slice (some ⟨b,i*k,none⟩) (n - i) (c - i)) (n - i) (xs.drop (i*k)):=by
 rcases h.2 with⟨rfl,h0⟩ | ⟨g,cap,cur,rfl,_,_,hc,_⟩
 ·have h1:=h.1;rw[h0,Nat.zero_mul] at h1;exact Or.inl ⟨rfl,h0,List.length_eq_zero_iff.1 h1⟩
 ·have hik:i*k≤n*k:=Nat.mul_le_mul_right k hi;refine Or.inr ⟨g,cap,rfl,hc,Or.inr ⟨g,0,cap,rfl,fun j y hj=>?_⟩,Or.inr ⟨g,i*k,cap - i,rfl,fun j y hj=>?_⟩⟩
  ·have hl:=(List.getElem?_eq_some_iff.1 hj).1;rw[List.length_take] at hl;rw[List.getElem?_take_of_lt (by omega)] at hj;rw[Nat.zero_add,h.cellAt j (by omega),hj]
  ·rw[List.getElem?_drop] at hj;have hl:=(List.getElem?_eq_some_iff.1 hj).1;have:=h.1;rw[h.cellAt (i*k+j) (by omega),hj]
def spotI (l:List Pr) (r:Pr):Nat:=(l.takeWhile fun y=>lessB r.1 r.2 y.1 y.2).length
def insI (l:List Pr) (r:Pr):List Pr:=l.take (spotI l r)++r::l.drop (spotI l r)
def kidOk (obj el:Pr) (q:OpM×Pr):Bool:=q.1.ins&&samePr q.1.obj obj&&samePr q.1.elem el
def kidsM (J:List (OpM×Pr)) (obj el:Pr):List Pr:=J.foldl (fun acc q=>if kidOk obj el q then insI acc q.2 else acc) []
def behM (K:List (OpM×Pr)) (obj:Pr):Nat→Pr→List Pr
 | 0,_=>[]
 | n+1,el=>(kidsM K obj el).flatMap fun k=>k::behM K obj n k
structure KOk (M:Int) (K:List (OpM×Pr)):Prop where
 nd:(K.map (·.2)).Nodup
 up:∀q∈K,q.1.ins=true→q.1.elem.1<q.2.1
 top:∀q∈K,q.2.1≤M
theorem kids_snoc (J:List (OpM×Pr)) (q:OpM×Pr) (obj el:Pr):kidsM (J++[q]) obj el=if kidOk obj el q then insI (kidsM J obj el) q.2 else kidsM J obj el:=by
 unfold kidsM;rw[List.foldl_append];rfl
theorem ins_perm (l:List Pr) (r:Pr):(insI l r).Perm (r::l):=by
 unfold insI;refine List.perm_middle.trans ?_;rw[List.take_append_drop]
theorem insI_len (l:List Pr) (r:Pr):(insI l r).length=l.length+1:=by
 have:=(ins_perm l r).length_eq;simpa using this
theorem kids_perm (J:List (OpM×Pr)) (obj el:Pr):(kidsM J obj el).Perm ((J.filter (kidOk obj el)).map (·.2)):=by
 have key:∀(J:List (OpM×Pr)) (acc:List Pr),(J.foldl (fun acc q=>if kidOk obj el q then insI acc q.2 else acc) acc).Perm (acc++(J.filter (kidOk obj el)).map (·.2)):=by
  intro J
  induction J with
  | nil=>intro acc;simp
  | cons q J ih=>
   intro acc;rw[List.foldl_cons,List.filter_cons];by_cases h:kidOk obj el q=true
   ·rw[if_pos h,if_pos h,List.map_cons];refine(ih _).trans ?_;refine((ins_perm acc q.2).append_right _).trans ?_;exact List.perm_middle.symm
   ·rw[if_neg h,if_neg h];exact ih acc
 have:=key J [];simpa [kidsM] using this
theorem kids_len (J:List (OpM×Pr)) (obj el:Pr):(kidsM J obj el).length≤J.length:=by
 rw[(kids_perm J obj el).length_eq,List.length_map];exact List.length_filter_le _ _
theorem kids_mem {J:List (OpM×Pr)} {obj el k:Pr} (h:k∈kidsM J obj el):∃q∈J,q.2=k∧q.1.ins=true∧q.1.elem=el:=by
 have h1:=(kids_perm J obj el).mem_iff.1 h;obtain⟨q,hq,rfl⟩:=List.mem_map.1 h1;obtain⟨h2,h3⟩:=List.mem_filter.1 hq;unfold kidOk at h3;simp only[Bool.and_eq_true] at h3;exact⟨q,h2,rfl,h3.1.1,(samePr_iff _ _).1 h3.2⟩
theorem kids_nd {M:Int} {K:List (OpM×Pr)} (h:KOk M K) (obj el:Pr):(kidsM K obj el).Nodup:=by
 rw[(kids_perm K obj el).nodup_iff];exact h.nd.sublist (List.filter_sublist.map _)
def upK (K:List (OpM×Pr)) (x:Pr):Option Pr:=(K.find? fun q=>q.2==x&&q.1.ins).map (·.1.elem)
def upN (K:List (OpM×Pr)):Nat→Pr→Option Pr
 | 0,x=>some x
 | n+1,x=>(upK K x).bind (upN K n)
theorem same_op {K:List (OpM×Pr)} (h:(K.map (·.2)).Nodup) {p q:OpM×Pr} (hp:p∈K) (hq:q∈K) (e:p.2=q.2):p=q:=by
 induction K with
 | nil=>cases hp
 | cons a l ih=>
  rw[List.map_cons] at h;have h2:=List.nodup_cons.1 h;rcases List.mem_cons.1 hp with hp1 | hp1 <;> rcases List.mem_cons.1 hq with hq1 | hq1
  ·rw[hp1,hq1]
  ·exact absurd (List.mem_map.2 ⟨q,hq1,by rw[←e,hp1]⟩) h2.1
  ·exact absurd (List.mem_map.2 ⟨p,hp1,by rw[e,hq1]⟩) h2.1
  ·exact ih h2.2 hp1 hq1
theorem up_kid {M:Int} {K:List (OpM×Pr)} (h:KOk M K) {obj el k:Pr} (hk:k∈kidsM K obj el):upK K k=some el:=by
 obtain⟨q,hq,h1,h2,h3⟩:=kids_mem hk;unfold upK;cases hf:K.find? (fun q=>q.2==k&&q.1.ins) with
 | none=>
  have:=List.find?_eq_none.1 hf q hq;rw[h1,h2] at this;simp at this
 | some p=>
  have e:=List.find?_some hf;simp only[Bool.and_eq_true,beq_iff_eq] at e;have:p=q:=same_op h.nd (List.mem_of_find?_eq_some hf) hq (by rw[e.1,h1]);rw[this,Option.map_some,h3]
theorem up_lt {M:Int} {K:List (OpM×Pr)} (h:KOk M K) {x e:Pr} (hx:upK K x=some e):e.1<x.1:=by
 unfold upK at hx;obtain⟨p,hp,rfl⟩:=Option.map_eq_some_iff.1 hx;have e:=List.find?_some hp;simp only[Bool.and_eq_true,beq_iff_eq] at e;have:=h.up p (List.mem_of_find?_eq_some hp) e.2;rw[e.1] at this;exact this
theorem upN_lt {M:Int} {K:List (OpM×Pr)} (h:KOk M K):∀(n:Nat) {x a:Pr},upN K n x=some a→a.1+n≤x.1
 | 0,x,a,e=>by cases e;simp
 | n+1,x,a,e=>by
  unfold upN at e;obtain⟨y,hy,e2⟩:=Option.bind_eq_some_iff.1 e;have h1:=up_lt h hy;have h2:=upN_lt h n e2;omega
theorem upN_add (K:List (OpM×Pr)) (m:Nat):∀(n:Nat) (x:Pr),upN K (n+m) x=(upN K n x).bind (upN K m)
 | 0,x=>by rw[Nat.zero_add];rfl
 | n+1,x=>by
  rw[Nat.add_right_comm];unfold upN;cases upK K x with
  | none=>rfl
  | some y=>exact upN_add K m n y
theorem beh_up {M:Int} {K:List (OpM×Pr)} (h:KOk M K) (obj:Pr):∀(n:Nat) (el x:Pr),x∈behM K obj n el→∃m,upN K (m+1) x=some el
 | 0,el,x,hx=>by cases hx
 | n+1,el,x,hx=>by
  unfold behM at hx;obtain⟨k,hk,hx⟩:=List.mem_flatMap.1 hx;have hu:=up_kid h hk;rcases List.mem_cons.1 hx with rfl | hx
  ·exact⟨0,by unfold upN;rw[hu];rfl⟩
  ·obtain⟨m,hm⟩:=beh_up h obj n k x hx;refine⟨m+1,?_⟩;rw[upN_add K 1 (m+1) x,hm];show upN K 1 k=_;unfold upN;rw[hu];rfl
theorem beh_in {K:List (OpM×Pr)} (obj:Pr):∀(n:Nat) (el x:Pr),x∈behM K obj n el→x∈K.map (·.2)
 | 0,el,x,hx=>by cases hx
 | n+1,el,x,hx=>by
  unfold behM at hx;obtain⟨k,hk,hx⟩:=List.mem_flatMap.1 hx;rcases List.mem_cons.1 hx with rfl | hx
  ·obtain⟨q,hq,h1,_⟩:=kids_mem hk;exact List.mem_map.2 ⟨q,hq,h1⟩
  ·exact beh_in obj n k x hx
theorem up_two {M:Int} {K:List (OpM×Pr)} (h:KOk M K) {x k1 k2 el:Pr} {n m:Nat} (hn:upN K n x=some k1) (hm:upN K m x=some k2) (h1:upK K k1=some el) (h2:upK K k2=some el) (hnm:n≤m):k1=k2:=by
 obtain⟨d,rfl⟩:=Nat.exists_eq_add_of_le hnm;rw[upN_add K d n x,hn] at hm;change upN K d k1=some k2 at hm;cases d with
 | zero=>exact Option.some.inj hm
 | succ d=>
  unfold upN at hm;rw[h1] at hm;change upN K d el=some k2 at hm;have a:=upN_lt h d hm;have b:=up_lt h h2;omega
theorem beh_nd {M:Int} {K:List (OpM×Pr)} (h:KOk M K) (obj:Pr):∀(n:Nat) (el:Pr),(behM K obj n el).Nodup
 | 0,_=>List.nodup_nil
 | n+1,el=>by
  have mem:∀k x,x∈k::behM K obj n k→∃m,upN K m x=some k:=fun k x hx=>by
   rcases List.mem_cons.1 hx with rfl | hx
   ·exact⟨0,rfl⟩
   ·obtain⟨m,hm⟩:=beh_up h obj n k x hx;exact⟨_,hm⟩
  unfold behM List.Nodup;refine List.pairwise_flatMap.2 ⟨fun k _=>List.nodup_cons.2 ⟨fun hk=>?_,beh_nd h obj n k⟩,?_⟩
  ·obtain⟨m,hm⟩:=beh_up h obj n k k hk;have:=upN_lt h (m+1) hm;omega
  ·refine List.Pairwise.imp_of_mem ?_ (kids_nd h obj el);intro k1 k2 hk1 hk2 hne x hx y hy e;subst e;obtain⟨a,ha⟩:=mem k1 x hx;obtain⟨b,hb⟩:=mem k2 x hy;rcases Nat.le_total a b with hab | hab
   ·exact hne (up_two h ha hb (up_kid h hk1) (up_kid h hk2) hab)
   ·exact hne (up_two h hb ha (up_kid h hk2) (up_kid h hk1) hab).symm
theorem nd_len {R S:List Pr} (h:R.Nodup) (hs:∀x∈R,x∈S):R.length≤S.length:=by
 induction R generalizing S with
 | nil=>simp
 | cons a l ih=>
  have h2:=List.nodup_cons.1 h;obtain⟨s,t,rfl⟩:=List.append_of_mem (hs a (List.mem_cons_self ..));have:=ih (S:=s++t) h2.2 (fun x hx=>by
   have h3:=hs x (List.mem_cons_of_mem _ hx);rcases List.mem_append.1 h3 with h4 | h4
   ·exact List.mem_append_left _ h4
   ·rcases List.mem_cons.1 h4 with rfl | h4
    ·exact absurd hx h2.1
    ·exact List.mem_append_right _ h4)
  simp only[List.length_append,List.length_cons] at this ⊢;omega
theorem beh_len {M:Int} {K:List (OpM×Pr)} (h:KOk M K) (obj:Pr) (n:Nat) (el:Pr):(behM K obj n el).length≤K.length:=by
 have:=nd_len (beh_nd h obj n el) (beh_in obj n el)
 rwa [List.length_map] at this
theorem kid_lt {M:Int} {K:List (OpM×Pr)} (h:KOk M K) {obj el k:Pr} (hk:k∈kidsM K obj el):el.1<k.1∧k.1≤M:=by
 obtain⟨q,hq,h1,h2,h3⟩:=kids_mem hk;have a:=h.up q hq h2;have b:=h.top q hq;rw[h1] at a b;rw[h3] at a;exact⟨a,b⟩
theorem beh_last {M:Int} {K:List (OpM×Pr)} (h:KOk M K) {obj el:Pr} (he:M≤el.1):kidsM K obj el=[]:=by
 cases hk:kidsM K obj el with
 | nil=>rfl
 | cons a l=>
  have:=kid_lt h (k:=a) (obj:=obj) (el:=el) (by rw[hk];exact List.mem_cons_self ..);omega
theorem spotI_go {l:List Pr} {r:Pr} {k:Nat} (h:k≤l.length) (h1:∀j (hj:j<l.length),j<k→lessB r.1 r.2 l[j].1 l[j].2=true) (h2:∀(hk:k<l.length),lessB r.1 r.2 l[k].1 l[k].2=false):spotI l r=k:=by
 induction l generalizing k with
 | nil=>simp at h;subst h;rfl
 | cons a l ih=>
  unfold spotI at *;rw[List.takeWhile_cons];cases k with
  | zero=>
   have:=h2 (by simp);simp only[List.getElem_cons_zero] at this;rw[this];rfl
  | succ k=>
   have h0:=h1 0 (by simp) (by omega);simp only[List.getElem_cons_zero] at h0;rw[if_pos h0,List.length_cons];rw[ih (by simpa using h) (fun j hj hjk=>by have:=h1 (j+1) (by simpa using hj) (by omega);simpa using this) (fun hk=>by have:=h2 (by simpa using hk);simpa using this)]
end Go.Proofs.YtamhlgflbacjgaaGreat
