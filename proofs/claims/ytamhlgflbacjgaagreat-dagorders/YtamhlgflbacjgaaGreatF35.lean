/-
  What is proved: as each theorem says.
  Conditions: as each theorem says.
-/
import Derived.Test.YtamhlgflbacjgaaGreatF00
import Derived.Test.YtamhlgflbacjgaaGreatF25
import Derived.Test.YtamhlgflbacjgaaGreatF34
import Derived.Test.YtamhlgflbacjgaaGreatF26
import Derived.Deep.CutBlock
set_option maxRecDepth 100000
set_option maxHeartbeats 16000000
namespace Go.Proofs.YtamhlgflbacjgaaGreat
open Go.RowKit Go.Sort
structure ErrR (L W:List Chg) (c:Chg) (x:Int):Prop where
 bad:chk c≠0→x≠0
 old:chk c=0→(c.ref∈refsOf L∨c.ref∈refsOf W)→x=0∨x=8
 same:chk c=0→(c∈L∨c∈W)→x=0
 full:chk c=0→¬(c.ref∈refsOf L∨c.ref∈refsOf W)→120≤L.length+W.length→x=4
 wait:chk c=0→¬(c.ref∈refsOf L∨c.ref∈refsOf W)→L.length+W.length<120→¬Ready L c→x=0
 unfit:chk c=0→¬(c.ref∈refsOf L∨c.ref∈refsOf W)→L.length+W.length<120→Ready L c→¬FitC L c→x=7
 take:chk c=0→¬(c.ref∈refsOf L∨c.ref∈refsOf W)→L.length+W.length<120→Ready L c→FitC L c→x=0
section
variable {L W L' W' : List Chg} {c : Chg} {x : Int}
theorem old_inR (h:c∈L∨c∈W):c.ref∈refsOf L∨c.ref∈refsOf W:=h.imp (fun h=>mem_refs.2 ⟨c,h,rfl⟩) (fun h=>mem_refs.2 ⟨c,h,rfl⟩)
theorem rtake_bad (h:chk c≠0) (hx:x≠0):TakeR L W c L W∧ErrR L W c x:=
 ⟨⟨fun _=>⟨rfl,rfl⟩,fun e=>absurd e h,fun e=>absurd e h,fun e=>absurd e h,fun e=>absurd e h,fun e=>absurd e h⟩,⟨fun _=>hx,fun e=>absurd e h,fun e=>absurd e h,fun e=>absurd e h,fun e=>absurd e h,fun e=>absurd e h,fun e=>absurd e h⟩⟩
theorem rtake_old (h:chk c=0) (h2:c.ref∈refsOf L∨c.ref∈refsOf W) (hx:x=0∨x=8) (hy:c∈L∨c∈W→x=0):TakeR L W c L W∧ErrR L W c x:=
 ⟨⟨fun e=>absurd h e,fun _ _=>⟨rfl,rfl⟩,fun _ e=>absurd h2 e,fun _ e=>absurd h2 e,fun _ e=>absurd h2 e,fun _ e=>absurd h2 e⟩,⟨fun e=>absurd h e,fun _ _=>hx,fun _=>hy,fun _ e=>absurd h2 e,fun _ e=>absurd h2 e,fun _ e=>absurd h2 e,fun _ e=>absurd h2 e⟩⟩
theorem rtake_full (h:chk c=0) (h2:¬(c.ref∈refsOf L∨c.ref∈refsOf W)) (h3:120≤L.length+W.length) (hx:x=4):TakeR L W c L W∧ErrR L W c x:=
 ⟨⟨fun e=>absurd h e,fun _ e=>absurd e h2,fun _ _ _=>⟨rfl,rfl⟩,fun _ _ e=>by omega,fun _ _ e=>by omega,fun _ _ e=>by omega⟩,⟨fun e=>absurd h e,fun _ e=>absurd e h2,fun _ e=>absurd (old_inR e) h2,fun _ _ _=>hx,fun _ _ e=>by omega,fun _ _ e=>by omega,fun _ _ e=>by omega⟩⟩
theorem rtake_wait (h:chk c=0) (h2:¬(c.ref∈refsOf L∨c.ref∈refsOf W)) (h3:L.length+W.length<120) (h4:¬Ready L c) (hx:x=0):TakeR L W c L (W++[c])∧ErrR L W c x:=
 ⟨⟨fun e=>absurd h e,fun _ e=>absurd e h2,fun _ _ e=>by omega,fun _ _ _ _=>⟨rfl,rfl⟩,fun _ _ _ e=>absurd e h4,fun _ _ _ e=>absurd e h4⟩,⟨fun e=>absurd h e,fun _ e=>absurd e h2,fun _ e=>absurd (old_inR e) h2,fun _ _ e=>by omega,fun _ _ _ _=>hx,fun _ _ _ e=>absurd e h4,fun _ _ _ e=>absurd e h4⟩⟩
theorem rtake_unfit (h:chk c=0) (h2:¬(c.ref∈refsOf L∨c.ref∈refsOf W)) (h3:L.length+W.length<120) (h4:Ready L c) (h5:¬FitC L c) (hx:x=7):TakeR L W c L W∧ErrR L W c x:=
 ⟨⟨fun e=>absurd h e,fun _ e=>absurd e h2,fun _ _ e=>by omega,fun _ _ _ e=>absurd h4 e,fun _ _ _ _ _=>⟨rfl,rfl⟩,fun _ _ _ _ e=>absurd e h5⟩,⟨fun e=>absurd h e,fun _ e=>absurd e h2,fun _ e=>absurd (old_inR e) h2,fun _ _ e=>by omega,fun _ _ _ e=>absurd h4 e,fun _ _ _ _ _=>hx,fun _ _ _ _ e=>absurd e h5⟩⟩
theorem rtake_take (h:chk c=0) (h2:¬(c.ref∈refsOf L∨c.ref∈refsOf W)) (h3:L.length+W.length<120) (h4:Ready L c) (h5:FitC L c) (hw:WakeR (L++[c]) W L' W') (hx:x=0):TakeR L W c L' W'∧ErrR L W c x:=
 ⟨⟨fun e=>absurd h e,fun _ e=>absurd e h2,fun _ _ e=>by omega,fun _ _ _ e=>absurd h4 e,fun _ _ _ _ e=>absurd h5 e,fun _ _ _ _ _=>hw⟩,⟨fun e=>absurd h e,fun _ e=>absurd e h2,fun _ e=>absurd (old_inR e) h2,fun _ _ e=>by omega,fun _ _ _ e=>absurd h4 e,fun _ _ _ _ e=>absurd h5 e,fun _ _ _ _ _=>hx⟩⟩
end
def RTakeP (S T:Nat→Prop) (w0 w:World) (g:Nat) (EL EW:List CE) (c:Chg) (x:Int) (w':World):Prop:=
 ∃EL' EW' vl' vw',RB S T w0 g EL' EW' vl' vw' w'∧RI (chgsOf EL') (chgsOf EW')∧(TakeR (chgsOf EL) (chgsOf EW) c (chgsOf EL') (chgsOf EW')∧ErrR (chgsOf EL) (chgsOf EW) c x)∧KpS S w w'∧(x≠0→EL'=EL∧EW'=EW)
theorem old_same {L W:List Chg} {c d:Chg} (I:RI L W) (he:d.ref=c.ref) (hd:d∈L∨d∈W) (hc:c∈L∨c∈W):d=c:=by
 rcases hd with hd | hd <;> rcases hc with hc | hc
 ·exact refs_inj I.inv.nd hd hc he
 ·exact absurd (mem_refs.2 ⟨d,hd,he⟩) (I.dis _ (mem_refs.2 ⟨c,hc,rfl⟩))
 ·exact absurd (mem_refs.2 ⟨c,hc,he.symm⟩) (I.dis _ (mem_refs.2 ⟨d,hd,rfl⟩))
 ·exact refs_inj I.nd hd hc he
theorem chgs_len (E:List CE):(chgsOf E).length=E.length:=List.length_map _
theorem chgs_at (E:List CE) (k:Nat) (h:k<(chgsOf E).length):(chgsOf E)[k]=(E[k]'(by rw[chgs_len] at h;exact h)).1:=List.getElem_map ..
def LeastTo (L W:List Chg) (i:Nat) (at':Int):Prop:=
 (at'= -1∧∀j (h:j<W.length),j<i→¬Ready L W[j])∨∃k:Nat,at'=k∧∃h:k<W.length,k<i∧Ready L W[k]∧∀j (hj:j<W.length),j<i→Ready L W[j]→W[j].ref=W[k].ref∨ltR W[k].ref W[j].ref
theorem LeastTo.start (L W:List Chg):LeastTo L W 0 (-1):=Or.inl ⟨rfl,fun _ _ h=>absurd h (Nat.not_lt_zero _)⟩
theorem LeastTo.skip {L W:List Chg} {i:Nat} {at':Int} (h:LeastTo L W i at') (hi:i<W.length) (hn:¬Ready L W[i]):LeastTo L W (i+1) at':=by
 rcases h with⟨e,h⟩ | ⟨k,e,hk,hki,hr,h⟩
 ·refine Or.inl ⟨e,fun j hj hji=>?_⟩;rcases Nat.lt_or_ge j i with h1 | h1
  ·exact h j hj h1
  ·obtain rfl:j=i:=by omega
   exact hn
 ·refine Or.inr ⟨k,e,hk,by omega,hr,fun j hj hji hrj=>?_⟩;rcases Nat.lt_or_ge j i with h1 | h1
  ·exact h j hj h1 hrj
  ·obtain rfl:j=i:=by omega
   exact absurd hrj hn
theorem LeastTo.first {L W:List Chg} {i:Nat} {at':Int} (h:LeastTo L W i at') (hi:i<W.length) (hr:Ready L W[i]) (ha:at'<0):LeastTo L W (i+1) (i:Int):=by
 rcases h with⟨e,h⟩ | ⟨k,e,hk,hki,hr,h⟩
 ·refine Or.inr ⟨i,rfl,hi,by omega,hr,fun j hj hji hrj=>?_⟩;rcases Nat.lt_or_ge j i with h1 | h1
  ·exact absurd hrj (h j hj h1)
  ·obtain rfl:j=i:=by omega
   exact Or.inl rfl
 ·omega
theorem LeastTo.ahead {L W:List Chg} {i k:Nat} (h:LeastTo L W i (k:Int)) (hi:i<W.length) (hk:k<W.length) (hr:Ready L W[i]) (ha:ltR W[i].ref W[k].ref):LeastTo L W (i+1) (i:Int):=by
 rcases h with⟨e,h⟩ | ⟨k',e,hk',hki,hrk,h⟩
 ·omega
 ·obtain rfl:k=k':=by omega
  refine Or.inr ⟨i,rfl,hi,by omega,hr,fun j hj hji hrj=>?_⟩;rcases Nat.lt_or_ge j i with h1 | h1
  ·rcases h j hj h1 hrj with e2 | e2
   ·right;rw[e2];exact ha
   ·right;exact ltR_trans ha e2
  ·obtain rfl:j=i:=by omega
   exact Or.inl rfl
theorem LeastTo.behind {L W:List Chg} {i k:Nat} (h:LeastTo L W i (k:Int)) (hi:i<W.length) (hk:k<W.length) (ha:¬ltR W[i].ref W[k].ref):LeastTo L W (i+1) (k:Int):=by
 rcases h with⟨e,h⟩ | ⟨k',e,hk',hki,hrk,h⟩
 ·omega
 ·obtain rfl:k=k':=by omega
  refine Or.inr ⟨k,rfl,hk,by omega,hrk,fun j hj hji hrj=>?_⟩;rcases Nat.lt_or_ge j i with h1 | h1
  ·exact h j hj h1 hrj
  ·obtain rfl:j=i:=by omega
   by_cases e2:W[j].ref=W[k].ref
   ·exact Or.inl e2
   ·exact Or.inr (ltR_total e2 ha)
theorem LeastTo.neg {L W:List Chg} {i:Nat} {at':Int} (h:LeastTo L W i at') (hi:W.length≤i) (ha:at'<0):∀x∈W,¬Ready L x:=by
 rcases h with⟨e,h⟩ | ⟨k,e,_⟩
 ·intro x hx;obtain⟨j,hj,rfl⟩:=List.getElem_of_mem hx;exact h j hj (by omega)
 ·omega
theorem LeastTo.least {L W:List Chg} {i k:Nat} (h:LeastTo L W i (k:Int)) (hi:W.length≤i):∃h:k<W.length,Least L W W[k]:=by
 rcases h with⟨e,h⟩ | ⟨k',e,hk',hki,hrk,h⟩
 ·omega
 ·obtain rfl:k=k':=by omega
  refine⟨hk',List.getElem_mem _,hrk,fun x hx hr=>?_⟩;obtain⟨j,hj,rfl⟩:=List.getElem_of_mem hx;exact h j hj (by omega) hr
theorem rRefD_any (a s t:Int) (d:Option Addr) (n c:Nat) (o:Option Addr) (m e:Nat) (w:World):
 Calls Tryz.prog 50 #[.agg #[.int .i64 a,.int .i64 s,.int .i64 t,.slice d n c,.slice o m e]] w fun x w'=>x=.returned (.agg #[.int .i64 a,.int .i64 s])∧Below w.heap.size w w':=rRefC_any a s t d n c o m e w
theorem rAheadD_any (a s b t:Int) (z:Bool) (hz:aheadB (a,s) (b,t)=z) (w:World):
 Calls Tryz.prog 63 #[.agg #[.int .i64 a,.int .i64 s],.agg #[.int .i64 b,.int .i64 t]] w fun e w'=>e=.returned (.bool z)∧Below w.heap.size w w':=by
 have h:=rAhead_any (a,s) (b,t) w;rw[hz] at h;exact h
theorem flat_take {us:List Value} (_h:∀u∈us,CV u) (k j:Nat) (y:Value) (hj:((us.take k).flatMap vcells)[j]?=some y):(us.flatMap vcells)[j]?=some y:=by
 have e:us.flatMap vcells=(us.take k).flatMap vcells++(us.drop k).flatMap vcells:=by rw[←List.flatMap_append,List.take_append_drop]
 rw[e,List.getElem?_append_left (List.getElem?_eq_some_iff.1 hj).1];exact hj
theorem flat_drop {us:List Value} (h:∀u∈us,CV u) (k j:Nat) (y:Value) (hj:((us.drop k).flatMap vcells)[j]?=some y):(us.flatMap vcells)[k*5+j]?=some y:=by
 by_cases hk:k≤us.length
 ·have e:us.flatMap vcells=(us.take k).flatMap vcells++(us.drop k).flatMap vcells:=by rw[←List.flatMap_append,List.take_append_drop]
  have hl:((us.take k).flatMap vcells).length=k*5:=by
   rw[flat_len (fun u hu=>h u (List.mem_of_mem_take hu)),List.length_take,Nat.min_eq_left hk]
  rw[e,List.getElem?_append_right (by omega),hl,show k*5+j - k*5=j by omega];exact hj
 ·rw[List.drop_of_length_le (by omega)] at hj;simp at hj
theorem row_few {w:World} {N b n c:Nat} {us:List Value} (h:RowC N (.slice (some ⟨b,0,none⟩) n c) us w) (hn:us.length=n):w.ownsRow N 33 5 (.slice (some ⟨b,0,none⟩) n c) n (us.flatMap vcells):=by subst hn;exact h
theorem app_take {W:World} {N b n c:Nat} {us:List Value} (h:RowC N (.slice (some ⟨b,0,none⟩) n c) us W) (hn:us.length=n) (hcv:∀u∈us,CV u) (hN:N≤W.heap.size) (k:Nat) (hk:k<n) (hf:n≤120):
 ∃v1 U1,(Builtin.append_ #[23,23] 23 #[.slice none 0 0,.slice (some ⟨b,0,none⟩) k c]).run Tryz.prog W=.ok v1 U1∧RowC N v1 (us.take k) U1∧Below W.heap.size W U1∧(v1.ownBlock=none∨v1.ownBlock=some W.heap.size):=by
 have hrw:=row_few h hn;have hl:(us.take k).length=k:=by rw[List.length_take];omega
 obtain⟨v1,U1,h1,h2,h3,h4⟩:=run_appCs 23 W N hN (.slice none 0 0) [] (us.take k) (fun u hu=>hcv u (List.mem_of_mem_take hu)) (World.ownsRow_nil _ _ _ _) (by rw[hl];simp;omega) b 0 c (fun j y hj=>by
  have hj2:=flat_take hcv k j y hj;rw[Nat.zero_add,hrw.cellAt j (by
   have:=(List.getElem?_eq_some_iff.1 hj2).1;rw[flat_len hcv,hn] at this;exact this)]
  exact hj2)
 rw[hl] at h1;rw[List.nil_append] at h2;exact⟨v1,U1,h1,h2,(Below.refl _ _).grown h3 lRf (fun j e=>by simp[Value.ownBlock] at e),h4.imp (fun e=>by rw[e];rfl) id⟩
theorem app_drop {W:World} {N b n c:Nat} {us ws:List Value} {v:Value} (h:RowC N (.slice (some ⟨b,0,none⟩) n c) us W) (hn:us.length=n) (hcv:∀u∈us,CV u) (hN:N≤W.heap.size) (hv:RowC N v ws W) (hw:ws.length≤120) (j:Nat) (hf:n≤120) (o9 c9:Nat) (ho:n - j=0∨o9=0+j*5):
 ∃v2 U2,(Builtin.append_ #[23,23] 23 #[v,.slice (some ⟨b,o9,none⟩) (n - j) c9]).run Tryz.prog W=.ok v2 U2∧RowC N v2 (ws++us.drop j) U2∧W.grownBy U2 v.ownBlock∧(v2.ownBlock=v.ownBlock∨v2.ownBlock=some W.heap.size):=by
 have hrw:=row_few h hn;have hl:(us.drop j).length=n - j:=by rw[List.length_drop,hn]
 have hcv2:∀u∈us.drop j,CV u:=fun u hu=>hcv u (List.mem_of_mem_drop hu);obtain⟨v2,U2,h1,h2,h3,h4⟩:=run_appCs 23 W N hN v ws (us.drop j) hcv2 hv (by rw[hl];omega) b o9 c9 (fun t y ht=>by
  have ht1:=(List.getElem?_eq_some_iff.1 ht).1;rw[flat_len hcv2,hl] at ht1;rcases ho with ho | ho
  ·rw[ho] at ht1;omega
  ·have ht2:=flat_drop hcv j t y ht;rw[ho,Nat.zero_add,hrw.cellAt (j*5+t) (by
    have:=(List.getElem?_eq_some_iff.1 ht2).1;rw[flat_len hcv,hn] at this;exact this)]
   exact ht2)
 rw[hl] at h1;exact⟨v2,U2,h1,h2,h3,h4⟩
theorem wrap_nat (k j:Nat) (h:k+1=j) (hj:j≤1000000):wrap64 ((k:Int)+1)=(j:Int):=by unfold wrap64;omega
theorem keep10 {W W':World} {p0 p1 p2 p3 p4 p5 p6 p7 p8 p9:Addr} {v0 v1 v2 v3 v4 v5 v6 v7 v8 v9:Value} (h:W.cell? p0=some v0∧W.cell? p1=some v1∧W.cell? p2=some v2∧W.cell? p3=some v3∧W.cell? p4=some v4∧W.cell? p5=some v5∧W.cell? p6=some v6∧W.cell? p7=some v7∧W.cell? p8=some v8∧W.cell? p9=some v9) (hb:Below W.heap.size W W'):
 W'.cell? p0=some v0∧W'.cell? p1=some v1∧W'.cell? p2=some v2∧W'.cell? p3=some v3∧W'.cell? p4=some v4∧W'.cell? p5=some v5∧W'.cell? p6=some v6∧W'.cell? p7=some v7∧W'.cell? p8=some v8∧W'.cell? p9=some v9:=by
 obtain⟨h0,h1,h2,h3,h4,h5,h6,h7,h8,h9⟩:=h;exact⟨(hb.cell (cell_in h0)).trans h0,(hb.cell (cell_in h1)).trans h1,(hb.cell (cell_in h2)).trans h2,(hb.cell (cell_in h3)).trans h3,(hb.cell (cell_in h4)).trans h4,(hb.cell (cell_in h5)).trans h5,(hb.cell (cell_in h6)).trans h6,(hb.cell (cell_in h7)).trans h7,(hb.cell (cell_in h8)).trans h8,(hb.cell (cell_in h9)).trans h9⟩
theorem rTake_any (S T:Nat→Prop) (w0:World) (g:Nat) (EL EW:List CE) (vl vw v:Value) (c:Chg) (w:World) (R:RB S T w0 g EL EW vl vw w) (I:RI (chgsOf EL) (chgsOf EW)) (hv:FzC T w0 v c):
 Calls Tryz.prog 28 #[.pointer (some ⟨g,0,none⟩),v] w fun e w'=>∃x,e=.returned (.int .i64 x)∧RTakeP S T w0 w g EL EW c x w':=by
 obtain⟨la,lc,rfl⟩:=slice_row R.rowL;obtain⟨ka,kc,rfl⟩:=slice_row R.rowW;rw[List.length_map,List.length_map] at R;obtain⟨ln,hln⟩:=gNz (EL.length);obtain⟨kn,hkn⟩:=gNz (EW.length);rw[hln,hkn] at R;have HLN:Hid (EL.length=ln∧EW.length=kn):=⟨hln,hkn⟩
 have HFEW:Hid (EL.length+EW.length≤120):=by have:=I.few;unfold chgsOf at this;rw[List.length_map,List.length_map] at this;exact this
 obtain⟨ud,uo,lo,e0,hi,⟨da,dc,rfl,_⟩,⟨oa,oc,rfl,_⟩,_⟩:=(hv.kp R.belT).chgW;obtain⟨ca,hca⟩:=gNz (c.actor:Int);obtain⟨cs,hcs⟩:=gNz (c.seq:Int);obtain⟨ct,hct⟩:=gNz (c.start:Int);obtain⟨dn,hdn⟩:=gNz (c.deps.length:Nat);obtain⟨on,hon⟩:=gNz (lo.length:Nat);rw[hca,hcs,hct,hdn,hon] at e0;have HVF:Hid (v=(.agg #[.int .i64 ca,.int .i64 cs,.int .i64 ct,.slice da dn dc,.slice oa on oc])):=e0;have HA:Hid (RB S T w0 g EL EW (.slice la ln lc) (.slice ka kn kc) w∧RI (chgsOf EL) (chgsOf EW)∧FzC T w0 v c):=⟨R,I,hv⟩
 have HCW:Hid (FzC T w0 (.agg #[.int .i64 ca,.int .i64 cs,.int .i64 ct,.slice da dn dc,.slice oa on oc]) c):=by show FzC _ _ _ _;rw[←e0];exact hv
 have HCV:Hid (CV (.agg #[.int .i64 ca,.int .i64 cs,.int .i64 ct,.slice da dn dc,.slice oa on oc])):=⟨_,_,_,_,_,_,_,_,_,rfl⟩
 have HCR:Hid (c.ref=(ca,cs)):=by show _=_;unfold Chg.ref;rw[hca,hcs]
 have HCH:Hid (∀p∈EL++EW,chk p.1=0):=fun p hp=>by
  rcases List.mem_append.1 hp with hp | hp
  ·exact I.inv.ok _ (mem_chgs.2 ⟨p,hp,rfl⟩)
  ·exact I.ok _ (mem_chgs.2 ⟨p,hp,rfl⟩)
 have HI:Hid (R64 (ca,cs)):=by show R64 _;rw[←hca,←hcs];exact⟨hi.1,hi.2.1⟩
 have HST:Hid (∀{W:World} {x:Int},Below w.heap.size w W→TakeR (chgsOf EL) (chgsOf EW) c (chgsOf EL) (chgsOf EW)∧ErrR (chgsOf EL) (chgsOf EW) c x→RTakeP S T w0 w g EL EW c x W):=fun {W x} b h=>⟨EL,EW,_,_,R.below b,I,h,KpS.of b,fun _=>⟨rfl,rfl⟩⟩
 rw[e0];have HB0:Hid (Below w.heap.size w (w.alloc (.cells #[.int .i64 ca,.int .i64 cs,.int .i64 ct,.slice da dn dc,.slice oa on oc] 33))∧(w.alloc (.cells #[.int .i64 ca,.int .i64 cs,.int .i64 ct,.slice da dn dc,.slice oa on oc] 33)).heap[w.heap.size]?=some (.cells #[.int .i64 ca,.int .i64 cs,.int .i64 ct,.slice da dn dc,.slice oa on oc] 33)):=⟨bAl _ _,heap_alloc_new w _⟩
 clear R I hv e0 hi hca hcs hct hdn hon hln hkn;go_enter Tryz.func28,Tryz.ntmps28
 go_upto_region 1 with fail
 generalize w.alloc (.cells #[.int .i64 ca,.int .i64 cs,.int .i64 ct,.slice da dn dc,.slice oa on oc] 33)=W0 at *;have E1:=rChange_any _ c W0 ((HCW.out.kp HA.out.1.belT).chg.below HB0.out.1);obtain⟨z0,z1,z2,z3,z4,-⟩:=cLs HB0.out.2;have hRX:=HA.out.1.below HB0.out.1;obtain⟨k0,k1,-⟩:=cLs hRX.box;have zg:g<W0.heap.size:=lt_of_heap hRX.box;clear hRX;go_wp2_with fail;go_fit E1;rintro e w1 ⟨⟨x,rfl,hx⟩,b1⟩;have HBw1:Hid (Below w.heap.size w w1∧w1.heap[w.heap.size]?=some (.cells #[.int .i64 ca,.int .i64 cs,.int .i64 ct,.slice da dn dc,.slice oa on oc] 33)):=⟨HB0.out.1.trans (b1.mono HB0.out.1.size),heap_below HB0.out.2 b1 lRf⟩
 clear E1 b1 HB0 z0 z1 z2 z3 z4 k0 k1 zg;by_cases h0:chk c=0
 ·obtain rfl:=hx.2 h0;have HC0:Hid (chk c=0):=h0;clear hx h0;obtain⟨z0,z1,z2,z3,z4,-⟩:=cLs HBw1.out.2;have hRX:=HA.out.1.below HBw1.out.1;obtain⟨k0,k1,-⟩:=cLs hRX.box;have zg:g<w1.heap.size:=lt_of_heap hRX.box;clear hRX;go_wp2_with fail;refine wp_loop_rounds 3 ?_;rw[rounds_succ];have E2:=rRefC_any ca cs ct da dn dc oa on oc w1;go_wp2_with fail;go_fit E2;rintro e w2 ⟨rfl,b2⟩;have HBw2:Hid (Below w.heap.size w w2∧w2.heap[w.heap.size]?=some (.cells #[.int .i64 ca,.int .i64 cs,.int .i64 ct,.slice da dn dc,.slice oa on oc] 33)):=⟨HBw1.out.1.trans (b2.mono HBw1.out.1.size),heap_below HBw1.out.2 b2 lRf⟩
  clear E2 b2 HBw1 z0 z1 z2 z3 z4 k0 k1 zg;obtain⟨z0,z1,z2,z3,z4,-⟩:=cLs HBw2.out.2;have hRX:=HA.out.1.below HBw2.out.1;obtain⟨k0,k1,-⟩:=cLs hRX.box;have zg:g<w2.heap.size:=lt_of_heap hRX.box;clear hRX;have E3:=rFind_any (.slice la ln lc) (EL.map toCX) (ca,cs) w2 ((HA.out.1.below HBw2.out.1).isL HFEW.out);rw[map_toCX] at E3;unfold refV at E3 ⊢;go_wp2_with fail;go_fit E3;rintro e w3 ⟨⟨x9,rfl,hx9⟩,b3⟩;have HBw3:Hid (Below w.heap.size w w3∧w3.heap[w.heap.size]?=some (.cells #[.int .i64 ca,.int .i64 cs,.int .i64 ct,.slice da dn dc,.slice oa on oc] 33)):=⟨HBw2.out.1.trans (b3.mono HBw2.out.1.size),heap_below HBw2.out.2 b3 lRf⟩
  have HF1:Hid (FindP (chgsOf EL) (ca,cs) x9):=hx9;clear E3 b3 hx9 HBw2 z0 z1 z2 z3 z4 k0 k1 zg;obtain⟨z0,z1,z2,z3,z4,-⟩:=cLs HBw3.out.2;have hRX:=HA.out.1.below HBw3.out.1;obtain⟨k0,k1,-⟩:=cLs hRX.box;have zg:g<w3.heap.size:=lt_of_heap hRX.box;clear hRX;by_cases hneg:x9<0
  ·have HN1:Hid (c.ref∉refsOf (chgsOf EL)):=by show _∉_;rw[HCR.out];exact HF1.out.neg.1 hneg
   clear HF1;go_wp2_with fail;rw[rounds_succ];have E4:=rRefC_any ca cs ct da dn dc oa on oc w3;go_wp2_with fail;go_fit E4;rintro e w4 ⟨rfl,b4⟩;have HBw4:Hid (Below w.heap.size w w4∧w4.heap[w.heap.size]?=some (.cells #[.int .i64 ca,.int .i64 cs,.int .i64 ct,.slice da dn dc,.slice oa on oc] 33)):=⟨HBw3.out.1.trans (b4.mono HBw3.out.1.size),heap_below HBw3.out.2 b4 lRf⟩
   clear E4 b4 HBw3 z0 z1 z2 z3 z4 k0 k1 zg hneg;obtain⟨z0,z1,z2,z3,z4,-⟩:=cLs HBw4.out.2;have hRX:=HA.out.1.below HBw4.out.1;obtain⟨k0,k1,-⟩:=cLs hRX.box;have zg:g<w4.heap.size:=lt_of_heap hRX.box;clear hRX;have E5:=rFind_any (.slice ka kn kc) (EW.map toCX) (ca,cs) w4 ((HA.out.1.below HBw4.out.1).isW HFEW.out);rw[map_toCX] at E5;unfold refV at E5 ⊢;go_wp2_with fail;go_fit E5;rintro e w5 ⟨⟨x9,rfl,hx9⟩,b5⟩;have HBw5:Hid (Below w.heap.size w w5∧w5.heap[w.heap.size]?=some (.cells #[.int .i64 ca,.int .i64 cs,.int .i64 ct,.slice da dn dc,.slice oa on oc] 33)):=⟨HBw4.out.1.trans (b5.mono HBw4.out.1.size),heap_below HBw4.out.2 b5 lRf⟩
   have HF2:Hid (FindP (chgsOf EW) (ca,cs) x9):=hx9;clear E5 b5 hx9 HBw4 z0 z1 z2 z3 z4 k0 k1 zg;obtain⟨z0,z1,z2,z3,z4,-⟩:=cLs HBw5.out.2;have hRX:=HA.out.1.below HBw5.out.1;obtain⟨k0,k1,-⟩:=cLs hRX.box;have zg:g<w5.heap.size:=lt_of_heap hRX.box;clear hRX;by_cases hneg:x9<0
   ·have HNO:Hid (¬(c.ref∈refsOf (chgsOf EL)∨c.ref∈refsOf (chgsOf EW))):=fun e=>by
     rcases e with e | e
     ·exact HN1.out e
     ·rw[HCR.out] at e;exact HF2.out.neg.1 hneg e
    clear HF2 HN1;go_wp2_with fail;rw[rounds_succ];obtain⟨tot,htot⟩:=gNz ((ln:Int)+(kn:Int):Int);have hw:IntKind.i64.wrap ((ln:Int)+(kn:Int))=tot:=by
     rw[←htot];exact IntWalk.i64_in _ (by have:=HFEW.out;have:=HLN.out;omega)
    have HTOT:Hid (tot=((chgsOf EL).length+(chgsOf EW).length:Nat)):=by
     show _=_;unfold chgsOf;rw[List.length_map,List.length_map,HLN.out.1,HLN.out.2,←htot];omega
    clear htot hneg;by_cases hfu:120≤tot
    ·have HE:Hid (RTakeP S T w0 w g EL EW c 4 w5.drew):=HST.out (drew_of HBw5.out.1) (rtake_full HC0.out HNO.out (by have:=HTOT.out;omega) rfl);go_upto_region 16 with fail
     refine rNh (fun W=>W.cell? ⟨g,0,none⟩=some (.slice la ln lc)∧W.cell? ⟨g,1,none⟩=some (.slice ka kn kc)) (⟨k0,k1⟩) (fun hHeld=>?_);refine tk 0 rfl ?_;refine tk 1 rfl ?_;refine tk 2 rfl ?_;refine tk 3 rfl ?_;refine tk 4 rfl ?_;refine tk 5 rfl ?_;refine tk 6 rfl ?_;refine tk 7 rfl ?_;refine tk 8 rfl ?_;refine tk 9 rfl ?_;refine tk 10 rfl ?_;refine tk 11 rfl ?_;refine wDn ?_;clear hHeld hfu hw z0 z1 z2 z3 z4 k0 k1 zg;generalize w5.drew=WD at *;go_wp2;go_ret;exact⟨_,rfl,HE.out⟩
    ·have HFL:Hid ((chgsOf EL).length+(chgsOf EW).length<120):=by have:=HTOT.out;show _<_;omega
     go_upto_region 16 with fail
     refine rNh (fun W=>W.cell? ⟨g,0,none⟩=some (.slice la ln lc)∧W.cell? ⟨g,1,none⟩=some (.slice ka kn kc)) (⟨k0,k1⟩) (fun hHeld=>?_);refine tk 0 rfl ?_;refine tk 1 rfl ?_;refine tk 2 rfl ?_;refine tk 3 rfl ?_;refine tk 4 rfl ?_;refine tk 5 rfl ?_;refine tk 6 rfl ?_;refine tk 7 rfl ?_;refine tk 8 rfl ?_;refine tk 9 rfl ?_;refine tk 10 rfl ?_;refine tk 11 rfl ?_;refine wDn ?_;clear hHeld hfu hw z0 z1 z2 z3 z4 k0 k1 zg;have HBW6:Hid (Below w.heap.size w w5.drew∧w5.drew.heap[w.heap.size]?=some (.cells #[.int .i64 ca,.int .i64 cs,.int .i64 ct,.slice da dn dc,.slice oa on oc] 33)):=⟨drew_of HBw5.out.1,HBw5.out.2⟩
     clear HBw5;generalize w5.drew=w6 at *;obtain⟨z0,z1,z2,z3,z4,-⟩:=cLs HBW6.out.2;have hRX:=HA.out.1.below HBW6.out.1;obtain⟨k0,k1,-⟩:=cLs hRX.box;have zg:g<w6.heap.size:=lt_of_heap hRX.box;clear hRX;have E6:=rReady_any g la ln lc (.slice ka kn kc) (EL.map toCX) _ c w6 (HA.out.1.below HBW6.out.1).box ((HA.out.1.below HBW6.out.1).isL HFEW.out) ((HCW.out.kp HA.out.1.belT).chg.below HBW6.out.1);rw[map_toCX] at E6;go_wp2_with fail;go_fit E6;rintro e w7 ⟨⟨rb,rfl,hrb⟩,b7⟩;have HBw7:Hid (Below w.heap.size w w7∧w7.heap[w.heap.size]?=some (.cells #[.int .i64 ca,.int .i64 cs,.int .i64 ct,.slice da dn dc,.slice oa on oc] 33)):=⟨HBW6.out.1.trans (b7.mono HBW6.out.1.size),heap_below HBW6.out.2 b7 lRf⟩
     have HRD:Hid (rb=true↔Ready (chgsOf EL) c):=hrb;clear E6 b7 hrb HBW6 z0 z1 z2 z3 z4 k0 k1 zg;have HQB:Hid (w7.heap[w.heap.size]?=some (.cells #[.int .i64 ca,.int .i64 cs,.int .i64 ct,.slice da dn dc,.slice oa on oc] 33)∧(.slice ka kn kc:Value).ownBlock≠some w.heap.size∧(.slice la ln lc:Value).ownBlock≠some w.heap.size):=⟨HBw7.out.2,fun e=>by have:=(HA.out.1.rowW.lt _ e).2;omega,fun e=>by have:=(HA.out.1.rowL.lt _ e).2;omega⟩
     have HR7:Hid (RB S T w0 g EL EW (.slice la ln lc) (.slice ka kn kc) w7):=HA.out.1.below HBw7.out.1;cases rb with
     | false=>
      have HNR:Hid (¬Ready (chgsOf EL) c):=fun h=>by cases HRD.out.2 h
      clear HRD;have b9:Below w7.heap.size w7 (w7.drew.alloc (.cells #[.int .i64 ca,.int .i64 cs,.int .i64 ct,.slice da dn dc,.slice oa on oc] 33)):=((Below.refl _ _).drew).alloc lRf _;have R9:=HR7.out.below b9;obtain⟨v9,U9,happ,row9,gr9,hv9⟩:=run_appC_at 23 (w7.drew.alloc (.cells #[.int .i64 ca,.int .i64 cs,.int .i64 ct,.slice da dn dc,.slice oa on oc] 33)) 0 (Nat.zero_le _) (.slice ka kn kc) (.agg #[.int .i64 ca,.int .i64 cs,.int .i64 ct,.slice da dn dc,.slice oa on oc]) (EW.map (·.2)) (HCV.out) R9.rowW (by rw[List.length_map];have:=HFEW.out;omega) w7.heap.size (by have:=heap_alloc_new w7.drew (.cells #[.int .i64 ca,.int .i64 cs,.int .i64 ct,.slice da dn dc,.slice oa on oc] 33);exact this);obtain⟨va9,vc9,hv9e⟩:=slice_row row9;obtain⟨vn9,hvn9⟩:=gNz ((EW.map (fun p:CE=>p.2)++[((.agg #[.int .i64 ca,.int .i64 cs,.int .i64 ct,.slice da dn dc,.slice oa on oc]):Value)]).length);rw[hvn9] at hv9e;subst hv9e;clear hvn9;have RN:Hid (_∧_):=R9.addW gr9 row9 hv9 HCW.out;have hgn:(.slice ka kn kc:Value).ownBlock≠some g:=own_ne_box R9.rowW R9.box (by decide);have hgb:U9.heap[g]?=(w7.drew.alloc (.cells #[.int .i64 ca,.int .i64 cs,.int .i64 ct,.slice da dn dc,.slice oa on oc] 33)).heap[g]?:=gr9.block g (lt_of_heap R9.box) (fun e=>hgn e.symm);have hxb:(w7.drew.alloc (.cells #[.int .i64 ca,.int .i64 cs,.int .i64 ct,.slice da dn dc,.slice oa on oc] 33)).heap[w.heap.size]?=some (.cells #[.int .i64 ca,.int .i64 cs,.int .i64 ct,.slice da dn dc,.slice oa on oc] 33):=(b9.block w.heap.size (lt_of_heap HQB.out.1)).trans HQB.out.1;have hxb9:U9.heap[w.heap.size]?=some (.cells #[.int .i64 ca,.int .i64 cs,.int .i64 ct,.slice da dn dc,.slice oa on oc] 33):=(gr9.block w.heap.size (lt_of_heap hxb) (fun e=>HQB.out.2.1 e.symm)).trans hxb;have kf':(w7.drew.alloc (.cells #[.int .i64 ca,.int .i64 cs,.int .i64 ct,.slice da dn dc,.slice oa on oc] 33)).cell? ⟨g,1,none⟩=some (.slice ka kn kc):=cLo R9.box 1;have kf'':U9.cell? ⟨g,1,none⟩=some (.slice ka kn kc):=cLo (hgb.trans R9.box) 1;have qf:=fRz (hgb.trans R9.box);obtain⟨-,kf,-⟩:=cLs (HR7.out.box);have gg9:g<U9.heap.size:=lt_of_heap (hgb.trans R9.box);obtain⟨y0,y1,y2,y3,y4,-⟩:=cLs HQB.out.1;have ya0:(w7.drew.alloc (.cells #[.int .i64 ca,.int .i64 cs,.int .i64 ct,.slice da dn dc,.slice oa on oc] 33)).cell? ⟨w.heap.size,0,none⟩=some (.int .i64 ca):=cLo hxb 0;have ya1:(w7.drew.alloc (.cells #[.int .i64 ca,.int .i64 cs,.int .i64 ct,.slice da dn dc,.slice oa on oc] 33)).cell? ⟨w.heap.size,1,none⟩=some (.int .i64 cs):=cLo hxb 1;have ya2:(w7.drew.alloc (.cells #[.int .i64 ca,.int .i64 cs,.int .i64 ct,.slice da dn dc,.slice oa on oc] 33)).cell? ⟨w.heap.size,2,none⟩=some (.int .i64 ct):=cLo hxb 2;have ya3:(w7.drew.alloc (.cells #[.int .i64 ca,.int .i64 cs,.int .i64 ct,.slice da dn dc,.slice oa on oc] 33)).cell? ⟨w.heap.size,3,none⟩=some (.slice da dn dc):=cLo hxb 3
      have ya4:(w7.drew.alloc (.cells #[.int .i64 ca,.int .i64 cs,.int .i64 ct,.slice da dn dc,.slice oa on oc] 33)).cell? ⟨w.heap.size,4,none⟩=some (.slice oa on oc):=cLo hxb 4;obtain⟨yb0,yb1,yb2,yb3,yb4,-⟩:=cLs hxb9;clear b9 R9 row9 gr9 hv9 hgn hgb hxb hxb9;go_upto_region 20 with fail
      refine wp_region_noPanic ?_;refine early_begin (S:=fun W=>W.cell? ⟨g,1,none⟩=some (.slice ka kn kc)∧W.cell? ⟨w.heap.size,0,none⟩=some (.int .i64 ca)∧W.cell? ⟨w.heap.size,1,none⟩=some (.int .i64 cs)∧W.cell? ⟨w.heap.size,2,none⟩=some (.int .i64 ct)∧W.cell? ⟨w.heap.size,3,none⟩=some (.slice da dn dc)∧W.cell? ⟨w.heap.size,4,none⟩=some (.slice oa on oc)) (late:=fun k=>decide (8≤k)) (by kernel_rfl) ?_;refine early_take (i:=0) (oi:={dst:=some 64,op:=Op.move (Operand.tmp 0),type:=66,pos := "book.go:226",after:=#[],guard:=none}) (v:=?_) rfl (by kernel_rfl) (by kernel_rfl) (by kernel_rfl) (by decide) (by kernel_rfl) (fun _ _ _ h=>h) (Or.inl ⟨by rfl,?_⟩) ⟨kf,y0,y1,y2,y3,y4⟩ ?_
      rotate_left
      ·intro wz hSw;(try dsimp only at hSw);go_simp;try with_reducible rfl
      try simp only[Act.put,nm]
      refine early_take (i:=1) (oi:={dst:=some 65,op:=Op.move (Operand.tmp 0),type:=66,pos := "book.go:226",after:=#[],guard:=none}) (v:=?_) rfl (by kernel_rfl) (by kernel_rfl) (by kernel_rfl) (by decide) (by kernel_rfl) (fun _ _ _ h=>h) (Or.inl ⟨by rfl,?_⟩) ⟨kf,y0,y1,y2,y3,y4⟩ ?_
      rotate_left
      ·intro wz hSw;(try dsimp only at hSw);go_simp;try with_reducible rfl
      try simp only[Act.put,nm]
      refine early_take (i:=2) (oi:={dst:=some 66,op:=Op.nilCheck (Operand.tmp 65),type:=0,pos := "book.go:226",after:=#[aD 1],guard:=none}) (v:=?_) rfl (by kernel_rfl) (by kernel_rfl) (by kernel_rfl) (by decide) (by kernel_rfl) (fun _ _ _ h=>h) (Or.inl ⟨by rfl,?_⟩) ⟨kf,y0,y1,y2,y3,y4⟩ ?_
      rotate_left
      ·intro wz hSw;(try dsimp only at hSw);go_simp;try with_reducible rfl
      try simp only[Act.put,nm]
      refine early_take (i:=3) (oi:={dst:=some 67,op:=Op.fieldAddr 73 (Operand.tmp 66) 1,type:=0,pos := "book.go:226",after:=#[aD 2],guard:=none}) (v:=?_) rfl (by kernel_rfl) (by kernel_rfl) (by kernel_rfl) (by decide) (by kernel_rfl) (fun _ _ _ h=>h) (Or.inl ⟨by rfl,?_⟩) ⟨kf,y0,y1,y2,y3,y4⟩ ?_
      rotate_left
      ·intro wz hSw;(try dsimp only at hSw);go_simp;try with_reducible rfl
      try simp only[Act.put,nm]
      refine early_take (i:=4) (oi:={dst:=some 68,op:=Op.load 23 (Operand.tmp 67),type:=23,pos := "book.go:226",after:=#[aD 3],guard:=none}) (v:=?_) rfl (by kernel_rfl) (by kernel_rfl) (by kernel_rfl) (by decide) (by kernel_rfl) (fun _ _ _ h=>h) (Or.inl ⟨by rfl,?_⟩) ⟨kf,y0,y1,y2,y3,y4⟩ ?_
      rotate_left
      ·intro wz hSw;(try dsimp only at hSw);go_simp;try with_reducible rfl
      try simp only[Act.put,nm]
      refine early_take (i:=5) (oi:={dst:=some 69,op:=Op.load 33 (Operand.tmp 3),type:=33,pos := "book.go:226",after:=#[],guard:=none}) (v:=?_) rfl (by kernel_rfl) (by kernel_rfl) (by kernel_rfl) (by decide) (by kernel_rfl) (fun _ _ _ h=>h) (Or.inl ⟨by rfl,?_⟩) ⟨kf,y0,y1,y2,y3,y4⟩ ?_
      rotate_left
      ·intro wz hSw;(try dsimp only at hSw);go_simp;try with_reducible rfl
      try simp only[Act.put,nm]
      refine early_step (i:=6) (o:={dst:=some 70,op:=Op.buildSlice 23 1 #[(0,Operand.tmp 69)],type:=23,pos := "book.go:226",after:=#[aD 5],guard:=none}) (by kernel_rfl) rfl (fun K hK=>?_);go_simp;refine hK.out _ _ (fun _=>⟨kf',ya0,ya1,ya2,ya3,ya4⟩) ?_;clear hK K;try simp only[Act.put,nm]
      refine early_step (i:=7) (o:={dst:=some 71,op:=Op.call {callee:=Callee.builtin Builtin.append,args:=#[Operand.tmp 68,Operand.tmp 70],argTypes:=#[23,23]},type:=23,pos := "book.go:226",after:=#[aD 4,aD 6],guard:=none}) (by kernel_rfl) rfl (fun K hK=>?_);refine step_append_known rfl (.tmp 68) (.tmp 70) 23 rfl (.slice ka kn kc) (.slice (some ⟨w7.drew.heap.size,0,none⟩) 1 1) (.slice va9 vn9 vc9) U9 (by simp[Act.eval]) (by simp[Act.eval]) happ ?_;refine hK.out _ _ (fun _=>⟨kf'',yb0,yb1,yb2,yb3,yb4⟩) ?_;clear hK K;try simp only[Act.put,nm]
      refine early_step (i:=8) (o:={dst:=some 72,op:=Op.nilCheck (Operand.tmp 64),type:=0,pos := "book.go:226",after:=#[aD 0,aP 0,aP 1,aP 2,aP 3,aP 4,aP 5,aP 6,aP 7],guard:=none}) (by kernel_rfl) rfl (fun K hK=>?_);go_simp;refine hK.out _ _ (fun h=>absurd h (by decide)) ?_;clear hK K;try simp only[Act.put,nm]
      refine early_step (i:=9) (o:={dst:=some 73,op:=Op.fieldAddr 73 (Operand.tmp 72) 1,type:=0,pos := "book.go:226",after:=#[aD 8,aP 0,aP 1,aP 2,aP 3,aP 4,aP 5,aP 6,aP 7],guard:=none}) (by kernel_rfl) rfl (fun K hK=>?_);go_simp;refine hK.out _ _ (fun h=>absurd h (by decide)) ?_;clear hK K;try simp only[Act.put,nm]
      refine early_step (i:=10) (o:={dst:=none,op:=Op.store 23 (Operand.tmp 73) (Operand.tmp 71),type:=0,pos := "book.go:226",after:=#[aD 9,aD 7,aC 7,aP 0,aP 1,aP 2,aP 3,aP 4,aP 5,aP 6,aP 7],guard:=none}) (by kernel_rfl) rfl (fun K hK=>?_);go_simp;refine hK.out _ _ (fun h=>absurd h (by decide)) ?_;clear hK K;try simp only[Act.put,nm]
      refine early_done (by kernel_rfl) ?_ _;refine NoPanic.normal ?_;clear happ kf kf' kf'' qf gg9 y0 y1 y2 y3 y4 ya0 ya1 ya2 ya3 ya4 yb0 yb1 yb2 yb3 yb4;have HE:Hid (RTakeP S T w0 w g EL EW c 0 (U9.setCell ⟨g,1,none⟩ (.slice va9 vn9 vc9))):=by
       have e8:chgsOf (EW++[(c,(.agg #[.int .i64 ca,.int .i64 cs,.int .i64 ct,.slice da dn dc,.slice oa on oc]))])=chgsOf EW++[c]:=by unfold chgsOf;simp
       refine⟨EL,EW++[(c,(.agg #[.int .i64 ca,.int .i64 cs,.int .i64 ct,.slice da dn dc,.slice oa on oc]))],_,_,RN.out.1,?_,?_,(KpS.of (HBw7.out.1.trans ((((Below.refl w7.heap.size w7).drew).alloc lRf _).mono HBw7.out.1.size))).trans RN.out.2,fun e=>absurd rfl e⟩
       ·rw[e8];exact HA.out.2.1.wait HC0.out HNO.out HFL.out
       ·rw[e8];exact rtake_wait HC0.out HNO.out HFL.out HNR.out rfl
      clear RN;generalize U9.setCell ⟨g,1,none⟩ (.slice va9 vn9 vc9)=WZ at *;go_wp2;go_ret;exact⟨_,rfl,HE.out⟩
     | true=>
      have HRY:Hid (Ready (chgsOf EL) c):=HRD.out.1 rfl;clear HRD;obtain⟨z0,z1,z2,z3,z4,-⟩:=cLs HBw7.out.2;have hRX:=HA.out.1.below HBw7.out.1;obtain⟨k0,k1,-⟩:=cLs hRX.box;have zg:g<w7.heap.size:=lt_of_heap hRX.box;clear hRX;have E8:=rFits_any g la ln lc (.slice ka kn kc) (EL.map toCX) _ c w7 HR7.out.box (HR7.out.isL HFEW.out) HR7.out.whL ((HCW.out.kp HR7.out.belT).chgW) (by rw[map_toCX];exact HA.out.2.1.inv) HC0.out (by rw[List.length_map];have:=HFEW.out;omega);rw[map_toCX] at E8;go_wp2_with fail;go_fit E8;rintro e w8 ⟨⟨fb,rfl,hfb⟩,b8⟩;have HBw8:Hid (Below w.heap.size w w8∧w8.heap[w.heap.size]?=some (.cells #[.int .i64 ca,.int .i64 cs,.int .i64 ct,.slice da dn dc,.slice oa on oc] 33)):=⟨HBw7.out.1.trans (b8.mono HBw7.out.1.size),heap_below HBw7.out.2 b8 lRf⟩
      have HQB8:Hid (w8.heap[w.heap.size]?=some (.cells #[.int .i64 ca,.int .i64 cs,.int .i64 ct,.slice da dn dc,.slice oa on oc] 33)∧(.slice la ln lc:Value).ownBlock≠some w.heap.size):=⟨HBw8.out.2,HQB.out.2.2⟩
      have HR8:Hid (RB S T w0 g EL EW (.slice la ln lc) (.slice ka kn kc) w8):=HR7.out.below b8;have HFB:Hid (fb=true↔FitC (chgsOf EL) c):=hfb;clear E8 b8 hfb HBw7 z0 z1 z2 z3 z4 k0 k1 zg HQB HR7;cases fb with
      | false=>
       have HE:Hid (RTakeP S T w0 w g EL EW c 7 w8):=HST.out HBw8.out.1 (rtake_unfit HC0.out HNO.out HFL.out HRY.out (fun h=>by cases HFB.out.2 h) rfl);clear HFB;go_wp2;go_ret;exact⟨_,rfl,HE.out⟩
      | true=>
       have HFY:Hid (FitC (chgsOf EL) c):=HFB.out.1 rfl;clear HFB;have b9:Below w8.heap.size w8 (w8.drew.alloc (.cells #[.int .i64 ca,.int .i64 cs,.int .i64 ct,.slice da dn dc,.slice oa on oc] 33)):=((Below.refl _ _).drew).alloc lRf _;have R9:=HR8.out.below b9;obtain⟨v9,U9,happ,row9,gr9,hv9⟩:=run_appC_at 23 (w8.drew.alloc (.cells #[.int .i64 ca,.int .i64 cs,.int .i64 ct,.slice da dn dc,.slice oa on oc] 33)) 0 (Nat.zero_le _) (.slice la ln lc) (.agg #[.int .i64 ca,.int .i64 cs,.int .i64 ct,.slice da dn dc,.slice oa on oc]) (EL.map (·.2)) (HCV.out) R9.rowL (by rw[List.length_map];have:=HFEW.out;omega) w8.heap.size (by have:=heap_alloc_new w8.drew (.cells #[.int .i64 ca,.int .i64 cs,.int .i64 ct,.slice da dn dc,.slice oa on oc] 33);exact this);obtain⟨va9,vc9,hv9e⟩:=slice_row row9;obtain⟨vn9,hvn9⟩:=gNz ((EL.map (fun p:CE=>p.2)++[((.agg #[.int .i64 ca,.int .i64 cs,.int .i64 ct,.slice da dn dc,.slice oa on oc]):Value)]).length);rw[hvn9] at hv9e;subst hv9e;clear hvn9;have RN:Hid (_∧_):=R9.addL gr9 row9 hv9 HCW.out;have hgn:(.slice la ln lc:Value).ownBlock≠some g:=own_ne_box R9.rowL R9.box (by decide);have hgb:U9.heap[g]?=(w8.drew.alloc (.cells #[.int .i64 ca,.int .i64 cs,.int .i64 ct,.slice da dn dc,.slice oa on oc] 33)).heap[g]?:=gr9.block g (lt_of_heap R9.box) (fun e=>hgn e.symm);have hxb:(w8.drew.alloc (.cells #[.int .i64 ca,.int .i64 cs,.int .i64 ct,.slice da dn dc,.slice oa on oc] 33)).heap[w.heap.size]?=some (.cells #[.int .i64 ca,.int .i64 cs,.int .i64 ct,.slice da dn dc,.slice oa on oc] 33):=(b9.block w.heap.size (lt_of_heap HQB8.out.1)).trans HQB8.out.1;have hxb9:U9.heap[w.heap.size]?=some (.cells #[.int .i64 ca,.int .i64 cs,.int .i64 ct,.slice da dn dc,.slice oa on oc] 33):=(gr9.block w.heap.size (lt_of_heap hxb) (fun e=>HQB8.out.2 e.symm)).trans hxb;have kf':(w8.drew.alloc (.cells #[.int .i64 ca,.int .i64 cs,.int .i64 ct,.slice da dn dc,.slice oa on oc] 33)).cell? ⟨g,0,none⟩=some (.slice la ln lc):=cLo R9.box 0;have kf'':U9.cell? ⟨g,0,none⟩=some (.slice la ln lc):=cLo (hgb.trans R9.box) 0;have qf:=fRz (hgb.trans R9.box);have kf:w8.drew.cell? ⟨g,0,none⟩=some (.slice la ln lc):=cLo (HR8.out.box) 0;have gg9:g<U9.heap.size:=lt_of_heap (hgb.trans R9.box);obtain⟨y0,y1,y2,y3,y4,-⟩:=cLs HQB8.out.1;have ya0:(w8.drew.alloc (.cells #[.int .i64 ca,.int .i64 cs,.int .i64 ct,.slice da dn dc,.slice oa on oc] 33)).cell? ⟨w.heap.size,0,none⟩=some (.int .i64 ca):=cLo hxb 0;have ya1:(w8.drew.alloc (.cells #[.int .i64 ca,.int .i64 cs,.int .i64 ct,.slice da dn dc,.slice oa on oc] 33)).cell? ⟨w.heap.size,1,none⟩=some (.int .i64 cs):=cLo hxb 1;have ya2:(w8.drew.alloc (.cells #[.int .i64 ca,.int .i64 cs,.int .i64 ct,.slice da dn dc,.slice oa on oc] 33)).cell? ⟨w.heap.size,2,none⟩=some (.int .i64 ct):=cLo hxb 2
       have ya3:(w8.drew.alloc (.cells #[.int .i64 ca,.int .i64 cs,.int .i64 ct,.slice da dn dc,.slice oa on oc] 33)).cell? ⟨w.heap.size,3,none⟩=some (.slice da dn dc):=cLo hxb 3;have ya4:(w8.drew.alloc (.cells #[.int .i64 ca,.int .i64 cs,.int .i64 ct,.slice da dn dc,.slice oa on oc] 33)).cell? ⟨w.heap.size,4,none⟩=some (.slice oa on oc):=cLo hxb 4;obtain⟨yb0,yb1,yb2,yb3,yb4,-⟩:=cLs hxb9;clear b9 R9 row9 gr9 hv9 hgn hgb hxb hxb9;go_upto_region 25 with fail
       refine wp_region_noPanic ?_;refine early_begin (S:=fun W=>W.cell? ⟨g,0,none⟩=some (.slice la ln lc)∧W.cell? ⟨w.heap.size,0,none⟩=some (.int .i64 ca)∧W.cell? ⟨w.heap.size,1,none⟩=some (.int .i64 cs)∧W.cell? ⟨w.heap.size,2,none⟩=some (.int .i64 ct)∧W.cell? ⟨w.heap.size,3,none⟩=some (.slice da dn dc)∧W.cell? ⟨w.heap.size,4,none⟩=some (.slice oa on oc)) (late:=fun k=>decide (8≤k)) (by kernel_rfl) ?_;refine early_take (i:=0) (oi:={dst:=some 79,op:=Op.move (Operand.tmp 0),type:=66,pos := "book.go:233",after:=#[],guard:=none}) (v:=?_) rfl (by kernel_rfl) (by kernel_rfl) (by kernel_rfl) (by decide) (by kernel_rfl) (fun _ _ _ h=>h) (Or.inl ⟨by rfl,?_⟩) ⟨kf,y0,y1,y2,y3,y4⟩ ?_
       rotate_left
       ·intro wz hSw;(try dsimp only at hSw);go_simp;try with_reducible rfl
       try simp only[Act.put,nm]
       refine early_take (i:=1) (oi:={dst:=some 80,op:=Op.move (Operand.tmp 0),type:=66,pos := "book.go:233",after:=#[],guard:=none}) (v:=?_) rfl (by kernel_rfl) (by kernel_rfl) (by kernel_rfl) (by decide) (by kernel_rfl) (fun _ _ _ h=>h) (Or.inl ⟨by rfl,?_⟩) ⟨kf,y0,y1,y2,y3,y4⟩ ?_
       rotate_left
       ·intro wz hSw;(try dsimp only at hSw);go_simp;try with_reducible rfl
       try simp only[Act.put,nm]
       refine early_take (i:=2) (oi:={dst:=some 81,op:=Op.nilCheck (Operand.tmp 80),type:=0,pos := "book.go:233",after:=#[aD 1],guard:=none}) (v:=?_) rfl (by kernel_rfl) (by kernel_rfl) (by kernel_rfl) (by decide) (by kernel_rfl) (fun _ _ _ h=>h) (Or.inl ⟨by rfl,?_⟩) ⟨kf,y0,y1,y2,y3,y4⟩ ?_
       rotate_left
       ·intro wz hSw;(try dsimp only at hSw);go_simp;try with_reducible rfl
       try simp only[Act.put,nm]
       refine early_take (i:=3) (oi:={dst:=some 82,op:=Op.fieldAddr 73 (Operand.tmp 81) 0,type:=0,pos := "book.go:233",after:=#[aD 2],guard:=none}) (v:=?_) rfl (by kernel_rfl) (by kernel_rfl) (by kernel_rfl) (by decide) (by kernel_rfl) (fun _ _ _ h=>h) (Or.inl ⟨by rfl,?_⟩) ⟨kf,y0,y1,y2,y3,y4⟩ ?_
       rotate_left
       ·intro wz hSw;(try dsimp only at hSw);go_simp;try with_reducible rfl
       try simp only[Act.put,nm]
       refine early_take (i:=4) (oi:={dst:=some 83,op:=Op.load 23 (Operand.tmp 82),type:=23,pos := "book.go:233",after:=#[aD 3],guard:=none}) (v:=?_) rfl (by kernel_rfl) (by kernel_rfl) (by kernel_rfl) (by decide) (by kernel_rfl) (fun _ _ _ h=>h) (Or.inl ⟨by rfl,?_⟩) ⟨kf,y0,y1,y2,y3,y4⟩ ?_
       rotate_left
       ·intro wz hSw;(try dsimp only at hSw);go_simp;try with_reducible rfl
       try simp only[Act.put,nm]
       refine early_take (i:=5) (oi:={dst:=some 84,op:=Op.load 33 (Operand.tmp 3),type:=33,pos := "book.go:233",after:=#[],guard:=none}) (v:=?_) rfl (by kernel_rfl) (by kernel_rfl) (by kernel_rfl) (by decide) (by kernel_rfl) (fun _ _ _ h=>h) (Or.inl ⟨by rfl,?_⟩) ⟨kf,y0,y1,y2,y3,y4⟩ ?_
       rotate_left
       ·intro wz hSw;(try dsimp only at hSw);go_simp;try with_reducible rfl
       try simp only[Act.put,nm]
       refine early_step (i:=6) (o:={dst:=some 85,op:=Op.buildSlice 23 1 #[(0,Operand.tmp 84)],type:=23,pos := "book.go:233",after:=#[aD 5],guard:=none}) (by kernel_rfl) rfl (fun K hK=>?_);go_simp;refine hK.out _ _ (fun _=>⟨kf',ya0,ya1,ya2,ya3,ya4⟩) ?_;clear hK K;try simp only[Act.put,nm]
       refine early_step (i:=7) (o:={dst:=some 86,op:=Op.call {callee:=Callee.builtin Builtin.append,args:=#[Operand.tmp 83,Operand.tmp 85],argTypes:=#[23,23]},type:=23,pos := "book.go:233",after:=#[aD 4,aD 6],guard:=none}) (by kernel_rfl) rfl (fun K hK=>?_);refine step_append_known rfl (.tmp 83) (.tmp 85) 23 rfl (.slice la ln lc) (.slice (some ⟨w8.drew.heap.size,0,none⟩) 1 1) (.slice va9 vn9 vc9) U9 (by simp[Act.eval]) (by simp[Act.eval]) happ ?_;refine hK.out _ _ (fun _=>⟨kf'',yb0,yb1,yb2,yb3,yb4⟩) ?_;clear hK K;try simp only[Act.put,nm]
       refine early_step (i:=8) (o:={dst:=some 87,op:=Op.nilCheck (Operand.tmp 79),type:=0,pos := "book.go:233",after:=#[aD 0,aP 0,aP 1,aP 2,aP 3,aP 4,aP 5,aP 6,aP 7],guard:=none}) (by kernel_rfl) rfl (fun K hK=>?_);go_simp;refine hK.out _ _ (fun h=>absurd h (by decide)) ?_;clear hK K;try simp only[Act.put,nm]
       refine early_step (i:=9) (o:={dst:=some 88,op:=Op.fieldAddr 73 (Operand.tmp 87) 0,type:=0,pos := "book.go:233",after:=#[aD 8,aP 0,aP 1,aP 2,aP 3,aP 4,aP 5,aP 6,aP 7],guard:=none}) (by kernel_rfl) rfl (fun K hK=>?_);go_simp;refine hK.out _ _ (fun h=>absurd h (by decide)) ?_;clear hK K;try simp only[Act.put,nm]
       refine early_step (i:=10) (o:={dst:=none,op:=Op.store 23 (Operand.tmp 88) (Operand.tmp 86),type:=0,pos := "book.go:233",after:=#[aD 9,aD 7,aC 7,aP 0,aP 1,aP 2,aP 3,aP 4,aP 5,aP 6,aP 7],guard:=none}) (by kernel_rfl) rfl (fun K hK=>?_);go_simp;refine hK.out _ _ (fun h=>absurd h (by decide)) ?_;clear hK K;try simp only[Act.put,nm]
       refine early_done (by kernel_rfl) ?_ _;refine NoPanic.normal ?_;clear happ kf kf' kf'' qf gg9 y0 y1 y2 y3 y4 ya0 ya1 ya2 ya3 ya4 yb0 yb1 yb2 yb3 yb4;have HRN:Hid ((∃vl' vw',RB S T w0 g (EL++[(c,(.agg #[.int .i64 ca,.int .i64 cs,.int .i64 ct,.slice da dn dc,.slice oa on oc]))]) EW vl' vw' (U9.setCell ⟨g,0,none⟩ (.slice va9 vn9 vc9)))∧RI (chgsOf (EL++[(c,(.agg #[.int .i64 ca,.int .i64 cs,.int .i64 ct,.slice da dn dc,.slice oa on oc]))])) (chgsOf EW)∧KpS S w (U9.setCell ⟨g,0,none⟩ (.slice va9 vn9 vc9))∧chgsOf (EL++[(c,(.agg #[.int .i64 ca,.int .i64 cs,.int .i64 ct,.slice da dn dc,.slice oa on oc]))])=chgsOf EL++[c]):=by
        have e8:chgsOf (EL++[(c,(.agg #[.int .i64 ca,.int .i64 cs,.int .i64 ct,.slice da dn dc,.slice oa on oc]))])=chgsOf EL++[c]:=by unfold chgsOf;simp
        refine⟨⟨_,_,RN.out.1⟩,?_,(KpS.of (HBw8.out.1.trans ((((Below.refl w8.heap.size w8).drew).alloc lRf _).mono HBw8.out.1.size))).trans RN.out.2,e8⟩;rw[e8];exact HA.out.2.1.come HC0.out HNO.out HFL.out HRY.out HFY.out
       clear RN HBw8 HQB8 HR8;generalize U9.setCell ⟨g,0,none⟩ (.slice va9 vn9 vc9)=wa at *;have HTK:Hid (∀(W:World) (EL' EW':List CE) (vl' vw':Value) (n:Nat),RB S T w0 g EL' EW' vl' vw' W→RI (chgsOf EL') (chgsOf EW')→KpS S w W→WSteps n (chgsOf EL++[c]) (chgsOf EW) (chgsOf EL') (chgsOf EW')→(∀x∈chgsOf EW',¬Ready (chgsOf EL') x)→RTakeP S T w0 w g EL EW c 0 W):=fun W EL' EW' vl' vw' n h1 h2 h3 h4 h5=>
        ⟨EL',EW',vl',vw',h1,h2,rtake_take HC0.out HNO.out HFL.out HRY.out HFY.out ⟨n,h4,h5⟩ rfl,h3,fun e=>absurd rfl e⟩
       obtain⟨L0,hL0⟩:=gNz (chgsOf EL++[c]:List Chg);obtain⟨W0',hW0'⟩:∃z:List Chg,chgsOf EW=z:=⟨_,rfl⟩
       obtain⟨EN,hEN⟩:=gNz (EL++[(c,(.agg #[.int .i64 ca,.int .i64 cs,.int .i64 ct,.slice da dn dc,.slice oa on oc]))]:List CE);have HTK2:Hid (∀(W:World) (EL' EW':List CE) (vl' vw':Value) (n:Nat),RB S T w0 g EL' EW' vl' vw' W→RI (chgsOf EL') (chgsOf EW')→KpS S w W→WSteps n L0 W0' (chgsOf EL') (chgsOf EW')→(∀x∈chgsOf EW',¬Ready (chgsOf EL') x)→RTakeP S T w0 w g EL EW c 0 W):=by rw[←hL0,←hW0'];exact HTK.out
       have HST2:Hid (∃EL' EW' vl' vw' n,EW'.length≤EW.length∧RB S T w0 g EL' EW' vl' vw' wa∧RI (chgsOf EL') (chgsOf EW')∧KpS S w wa∧WSteps n L0 W0' (chgsOf EL') (chgsOf EW')):=by
        obtain⟨⟨vl',vw',h1⟩,h2,h3,h4⟩:=HRN.out;exact⟨_,EW,vl',vw',0,lRf,h1,h2,h3,by rw[h4,hL0],hW0'⟩
       clear HTK HRN HRY HFY HNO HFL HC0 HST HCH HCV HCW HCR HI HVF HTOT hL0 hW0' hEN EN HA HLN;go_wp2_with fail;go_loopg [] EW.length (fun gk wr=>Hid (∃EL' EW' vl' vw' n,EW'.length≤gk∧RB S T w0 g EL' EW' vl' vw' wr∧RI (chgsOf EL') (chgsOf EW')∧KpS S w wr∧WSteps n L0 W0' (chgsOf EL') (chgsOf EW')))
       case atStart=>exact HST2.out
       case round=>
        clear HST2;generalize wr=wo at *;clear wr;obtain⟨EL1,EW1,vl1,vw1,n,hgk,hR,hI,hK,hW⟩:=hrel.out;clear hrel;obtain⟨go,hgo⟩:∃x:Nat,Hid (x=gk):=⟨_,rfl⟩
        obtain⟨ma,mc,rfl⟩:=slice_row hR.rowL;obtain⟨na,nc,rfl⟩:=slice_row hR.rowW;rw[List.length_map,List.length_map] at hR;obtain⟨mn,hmn⟩:=gNz (EL1.length);obtain⟨nn,hnn⟩:=gNz (EW1.length);rw[hmn,hnn] at hR;have HG:Hid (RB S T w0 g EL1 EW1 (.slice ma mn mc) (.slice na nn nc) wo∧RI (chgsOf EL1) (chgsOf EW1)∧KpS S w wo∧WSteps n L0 W0' (chgsOf EL1) (chgsOf EW1)∧EW1.length≤gk):=⟨hR,hI,hK,hW,hgk⟩
        have HN1:Hid (EL1.length=mn∧EW1.length=nn∧EL1.length+EW1.length≤120):=⟨hmn,hnn,by have:=hI.few;rw[chgs_len,chgs_len] at this;exact this⟩
        clear hgk hR hI hK hW hmn hnn;have HEL:Hid (∀k (h:k<EW1.length),∃(b o:Nat) (p:CE) (xa xs xt:Int) (xda:Option Addr) (xdn xdc:Nat) (xoa:Option Addr) (xon xoc:Nat),na=some ⟨b,o,none⟩∧EW1[k]=p∧p.2=.agg #[.int .i64 xa,.int .i64 xs,.int .i64 xt,.slice xda xdn xdc,.slice xoa xon xoc]∧p.1.ref=(xa,xs)∧FzC T w0 p.2 p.1∧chk p.1=0∧∀W,Below wo.heap.size wo W→W.cell? ⟨b,o+k*5,none⟩=some (.int .i64 xa)∧W.cell? ⟨b,o+k*5+1,none⟩=some (.int .i64 xs)∧W.cell? ⟨b,o+k*5+2,none⟩=some (.int .i64 xt)∧W.cell? ⟨b,o+k*5+3,none⟩=some (.slice xda xdn xdc)∧W.cell? ⟨b,o+k*5+4,none⟩=some (.slice xoa xon xoc)):=fun k hk8=>by
         have hk7:k<(EW1.map toCX).length:=by rw[List.length_map];exact hk8
         obtain⟨a7,c7,e7,_,_,hIn,h47⟩:=HG.out.1.isW HN1.out.2.2;obtain⟨cb,co,ha7,h57,h67⟩:=h47 (fun e=>by rw[e] at hk7;simp at hk7);have hna:na=some ⟨cb,co,none⟩:=(Value.slice.inj e7).1.trans ha7;obtain⟨p,hp⟩:=gNz (EW1[k]:CE);have hpm:p∈EW1:=by rw[←hp];exact List.getElem_mem hk8
         have hpw:=HG.out.1.chgs p (List.mem_append_right _ hpm);have hpc:=HG.out.2.1.ok _ (mem_chgs.2 ⟨p,hpm,rfl⟩);obtain⟨pud,puo,plo,hpv,_,⟨pda,pdc,rfl,_⟩,⟨poa,poc,rfl,_⟩,_⟩:=(hpw.kp HG.out.1.belT).chgW;refine⟨cb,co,p,_,_,_,_,_,_,_,_,_,hna,hp,hpv,rfl,hpw,hpc,fun W hW=>?_⟩;have hcell:∀j,j<5→W.cell? ⟨cb,co+k*5+j,none⟩=(vcells p.2)[j]?:=fun j hj=>by
          rw[hW.cell (p:=⟨cb,co+k*5+j,none⟩) h57,h67 k hk7 j hj];rw[List.getElem_map,hp,(toCX_val hpw.chg).2.2.2]
         rw[hpv] at hcell;exact⟨hcell 0 (by omega),hcell 1 (by omega),hcell 2 (by omega),hcell 3 (by omega),hcell 4 (by omega)⟩
        have HK1:Hid (∀W,Below wo.heap.size wo W→W.cell? ⟨g,1,none⟩=some (.slice na nn nc)∧g<W.heap.size):=fun W hW=>⟨cLo (HG.out.1.below hW).box 1,lt_of_heap (HG.out.1.below hW).box⟩
        go_wp2_with fail;go_loopw [11,12] (fun xa xi wq=>∃(i:Nat) (at':Int),i≤EW1.length∧xa=.int .i64 at'∧xi=.int .i64 i∧Hid (LeastTo (chgsOf EL1) (chgsOf EW1) i at'∧Below wo.heap.size wo wq)) (fun _ xi _=>EW1.length - (RowKit.intOf xi).toNat)
        case atStart=>exact⟨0,-1,Nat.zero_le _,rfl,rfl,LeastTo.start _ _,Below.refl _ _⟩
        case round=>
         obtain⟨i,at',hi,rfl,rfl,hq⟩:=hrel;obtain⟨k1,zg⟩:=HK1.out wr hq.out.2;by_cases hlt:i<EW1.length
         ·obtain⟨b,o,p,pa,ps,pt,pda,pdn,pdc,poa,pon,poc,hna,hp,hpv,hpr,hpw,hpc,hcl⟩:=HEL.out i hlt;have HCL:Hid (∀W,Below wo.heap.size wo W→W.cell? ⟨b,o+i*5,none⟩=some (.int .i64 pa)∧W.cell? ⟨b,o+i*5+1,none⟩=some (.int .i64 ps)∧W.cell? ⟨b,o+i*5+2,none⟩=some (.int .i64 pt)∧W.cell? ⟨b,o+i*5+3,none⟩=some (.slice pda pdn pdc)∧W.cell? ⟨b,o+i*5+4,none⟩=some (.slice poa pon poc)):=hcl;obtain⟨x0,x1,x2,x3,x4⟩:=hcl wr hq.out.2;have HM:Hid (∃h:i<(chgsOf EW1).length,(chgsOf EW1)[i]=p.1):=⟨by rw[chgs_len];exact hlt,by rw[chgs_at,hp]⟩
          have HPR:Hid (p.1.ref=(pa,ps)):=hpr;have HLS:Hid (LeastTo (chgsOf EL1) (chgsOf EW1) i at'):=hq.out.1;have HRB:Hid (Below wo.heap.size wo wr):=hq.out.2;have HAT:Hid (at'<0∨∃k:Nat,at'=k∧k<EW1.length):=by
           rcases hq.out.1 with⟨e,_⟩ | ⟨k,e,hk,_⟩
           ·left;omega
           ·right;exact⟨k,e,by rw[chgs_len] at hk;exact hk⟩
          have hR1:=HG.out.1.below hq.out.2;have ER:=rReady_any g ma mn mc (.slice na nn nc) (EL1.map toCX) p.2 p.1 wr hR1.box (hR1.isL HN1.out.2.2) ((hpw.kp hR1.belT).chg);rw[map_toCX,hpv] at ER;have g1:(i:Int)<nn:=by have:=HN1.out.2.1;omega
          have g3:(0:Int)≤i:=by omega
          clear hcl hR1 hpv hpw hpc hp hpr hi hlt hq;subst hna;go_wp2_with fail;go_fit ER;rintro e w2 ⟨⟨rb,rfl,hrb⟩,b2⟩;have HRD:Hid (rb=true↔Ready (chgsOf EL1) p.1):=hrb;have HRB2:Hid (Below wo.heap.size wo w2):=HRB.out.trans (b2.mono HRB.out.size);clear ER hrb b2 HRB x0 x1 x2 x3 x4 k1 zg;cases rb with
          | false=>
           have HS2:Hid (LeastTo (chgsOf EL1) (chgsOf EW1) (i+1) at'):=by
            obtain⟨h1,e1⟩:=HM.out;exact HLS.out.skip h1 (by rw[e1];exact fun h=>by cases HRD.out.2 h)
           clear HRD HLS;go_upto_region 31 with fail
           refine rNh (fun W=>Below wo.heap.size wo W) (drew_of HRB2.out) (fun hHeld=>?_);refine tk 0 rfl ?_;refine tk 1 rfl ?_;refine sk 2 rfl ?_;refine sk 3 rfl ?_;refine sk 4 rfl ?_;refine sk 5 rfl ?_;refine sk 6 rfl ?_;refine sk 7 rfl ?_;refine sk 8 rfl ?_;refine sk 9 rfl ?_;refine sk 10 rfl ?_;refine sk 11 rfl ?_;refine sk 12 rfl ?_;refine sk 13 rfl ?_;refine sk 14 rfl ?_;refine sk 15 rfl ?_;refine sk 16 rfl ?_;refine sk 17 rfl ?_;refine sk 18 rfl ?_;refine sk 19 rfl ?_;refine sk 20 rfl ?_;refine sk 21 rfl ?_;refine sk 22 rfl ?_;refine tk 23 rfl ?_;refine wDn ?_;clear hHeld;have HRB3:Hid (Below wo.heap.size wo w2.drew):=drew_of HRB2.out;clear HRB2;generalize w2.drew=wz at *;go_upto_region 29 with fail
           have gm:(i:Int)<1000:=by obtain⟨h,_⟩:=HM.out;rw[chgs_len] at h;have:=HN1.out.2.2;omega
           go_wp2;go_roundw
           case rel=>obtain⟨h,_⟩:=HM.out;rw[chgs_len] at h;exact⟨i+1,_,h,rfl,by go_num,HS2.out,HRB3.out⟩
           case measure=>obtain⟨h,_⟩:=HM.out;rw[chgs_len] at h;simp[RowKit.intOf];omega
          | true=>
           have HRY:Hid (Ready (chgsOf EL1) p.1):=HRD.out.1 rfl;clear HRD;by_cases hat:at'<0
           ·have HS2:Hid (LeastTo (chgsOf EL1) (chgsOf EW1) (i+1) (i:Int)):=by
             obtain⟨h1,e1⟩:=HM.out;exact HLS.out.first h1 (by rw[e1];exact HRY.out) hat
            clear HLS HAT;go_upto_region 31 with fail
            refine rNh (fun W=>Below wo.heap.size wo W) (drew_of HRB2.out) (fun hHeld=>?_);refine tk 0 rfl ?_;refine tk 1 rfl ?_;refine tk 2 rfl ?_;refine tk 3 rfl ?_;refine tk 4 rfl ?_;refine sk 5 rfl ?_;refine sk 6 rfl ?_;refine sk 7 rfl ?_;refine sk 8 rfl ?_;refine sk 9 rfl ?_;refine sk 10 rfl ?_;refine sk 11 rfl ?_;refine sk 12 rfl ?_;refine sk 13 rfl ?_;refine sk 14 rfl ?_;refine sk 15 rfl ?_;refine sk 16 rfl ?_;refine sk 17 rfl ?_;refine sk 18 rfl ?_;refine sk 19 rfl ?_;refine sk 20 rfl ?_;refine sk 21 rfl ?_;refine tk 22 rfl ?_;refine tk 23 rfl ?_;refine wDn ?_;clear hHeld hat;have HRB3:Hid (Below wo.heap.size wo w2.drew):=drew_of HRB2.out;clear HRB2;generalize w2.drew=wz at *;go_upto_region 29 with fail
            have gm:(i:Int)<1000:=by obtain⟨h,_⟩:=HM.out;rw[chgs_len] at h;have:=HN1.out.2.2;omega
            go_wp2;go_roundw
            case rel=>obtain⟨h,_⟩:=HM.out;rw[chgs_len] at h;exact⟨i+1,_,h,rfl,by go_num,HS2.out,HRB3.out⟩
            case measure=>obtain⟨h,_⟩:=HM.out;rw[chgs_len] at h;simp[RowKit.intOf];omega
           ·obtain⟨k,rfl,hk⟩:∃k:Nat,at'=k∧k<EW1.length:=by
             rcases HAT.out with h | h
             ·exact absurd h hat
             ·exact h
            obtain⟨b',o',q,qa,qs,qt,qda,qdn,qdc,qoa,qon,qoc,hna,hq,hqv,hqr,_,_,hcl⟩:=HEL.out k hk;obtain⟨rfl,rfl⟩:b=b'∧o=o':=by injection hna with e2;injection e2 with e3 e4;exact⟨e3,e4⟩
            have HCB:Hid (∀W,Below wo.heap.size wo W→W.cell? ⟨g,1,none⟩=some (.slice (some ⟨b,o,none⟩) nn nc)∧W.cell? ⟨b,o+i*5,none⟩=some (.int .i64 pa)∧W.cell? ⟨b,o+i*5+1,none⟩=some (.int .i64 ps)∧W.cell? ⟨b,o+i*5+2,none⟩=some (.int .i64 pt)∧W.cell? ⟨b,o+i*5+3,none⟩=some (.slice pda pdn pdc)∧W.cell? ⟨b,o+i*5+4,none⟩=some (.slice poa pon poc)∧W.cell? ⟨b,o+k*5,none⟩=some (.int .i64 qa)∧W.cell? ⟨b,o+k*5+1,none⟩=some (.int .i64 qs)∧W.cell? ⟨b,o+k*5+2,none⟩=some (.int .i64 qt)∧W.cell? ⟨b,o+k*5+3,none⟩=some (.slice qda qdn qdc)∧W.cell? ⟨b,o+k*5+4,none⟩=some (.slice qoa qon qoc)):=fun W hW=>by
             obtain⟨a0,a1,a2,a3,a4⟩:=HCL.out W hW;obtain⟨c0,c1,c2,c3,c4⟩:=hcl W hW;exact⟨(HK1.out W hW).1,a0,a1,a2,a3,a4,c0,c1,c2,c3,c4⟩
            obtain⟨ab,hab⟩:=gNz (aheadB (pa,ps) (qa,qs):Bool);have HAB:Hid (aheadB (pa,ps) (qa,qs)=ab):=hab;have HQM:Hid (∃h:k<(chgsOf EW1).length,(chgsOf EW1)[k].ref=(qa,qs)):=⟨by rw[chgs_len];exact hk,by rw[chgs_at,hq];exact hqr⟩
            have g5:(k:Int)<nn:=by have:=HN1.out.2.1;omega
            have g6:(0:Int)≤k:=by omega
            have jn:decide ((k:Int)<0)=false:=decide_eq_false hat;have zg:g<w2.drew.heap.size:=(HK1.out _ (drew_of HRB2.out)).2;clear hna hq hqv hqr hcl hab hk HAT hat;go_upto_region 31 with fail
            refine rNh (fun W=>Below wo.heap.size wo W) (drew_of HRB2.out) (fun hHeld=>?_);refine tk 0 rfl ?_;refine tk 1 rfl ?_;refine tk 2 rfl ?_;refine tk 3 rfl ?_;refine tk 4 rfl ?_;refine tkC 5 HCB rfl ?_;refine tkC 6 HCB rfl ?_;refine tkC 7 HCB rfl ?_;refine tkC 8 HCB rfl ?_;refine tkC 9 HCB rfl ?_;refine tkC 10 HCB rfl ?_;refine tkC 11 HCB rfl ?_;refine tkC 13 HCB rfl ?_;refine tkC 14 HCB rfl ?_;refine tkC 15 HCB rfl ?_;refine tkC 16 HCB rfl ?_;refine tkC 17 HCB rfl ?_;refine tkC 18 HCB rfl ?_;refine tkC 19 HCB rfl ?_;refine wpAnyH_ready (rs:=[12]) (by kernel_rfl) (by simp) (AllReadyH.cons (o:={dst:=some 119,op:=Op.call {callee:=Callee.value (Operand.func 50),args:=#[Operand.tmp 118],argTypes:=#[33]},type:=45,pos := "book.go:238",after:=#[aD 11,aC 4,aG 4],guard:=some (4,false)}) rfl (fun K hK=>?_) AllReadyH.nil);go_simp;go_at_call 50;refine Calls.mono (rRefD_any pa ps pt pda pdn pdc poa pon poc w2.drew) ?_;rintro e w12 ⟨rfl,b12⟩;go_wp2_with fail;refine hK.out _ _ ((drew_of HRB2.out).trans (b12.mono HRB2.out.size)) (fun hHeld12=>?_);clear hK K;try simp only[Act.put,nm]
            refine wpAnyH_ready (rs:=[20]) (by kernel_rfl) (by simp) (AllReadyH.cons (o:={dst:=some 127,op:=Op.call {callee:=Callee.value (Operand.func 50),args:=#[Operand.tmp 126],argTypes:=#[33]},type:=45,pos := "book.go:238",after:=#[aD 19,aC 12,aG 4],guard:=some (4,false)}) rfl (fun K hK=>?_) AllReadyH.nil);go_simp;go_at_call 50;refine Calls.mono (rRefD_any qa qs qt qda qdn qdc qoa qon qoc w12) ?_;rintro e w20 ⟨rfl,b20⟩;go_wp2_with fail;refine hK.out _ _ (((drew_of HRB2.out).trans (b12.mono HRB2.out.size)).trans (b20.mono (Nat.le_trans HRB2.out.size b12.size))) (fun hHeld20=>?_);clear hK K;try simp only[Act.put,nm]
            refine wpAnyH_ready (rs:=[21]) (by kernel_rfl) (by simp) (AllReadyH.cons (o:={dst:=some 128,op:=Op.call {callee:=Callee.value (Operand.func 63),args:=#[Operand.tmp 119,Operand.tmp 127],argTypes:=#[45,45]},type:=4,pos := "book.go:238",after:=#[aD 12,aD 20,aC 20,aG 4],guard:=some (4,false)}) rfl (fun K hK=>?_) AllReadyH.nil);go_simp;go_at_call 63;refine Calls.mono (rAheadD_any pa ps qa qs ab HAB.out w20) ?_;rintro e w21 ⟨rfl,b21⟩;go_wp2_with fail;refine hK.out _ _ ((((drew_of HRB2.out).trans (b12.mono HRB2.out.size)).trans (b20.mono (Nat.le_trans HRB2.out.size b12.size))).trans (b21.mono (Nat.le_trans (Nat.le_trans HRB2.out.size b12.size) b20.size))) (fun hHeld21=>?_);clear hK K;try simp only[Act.put,nm]
            refine tk 22 rfl ?_;refine tk 23 rfl ?_;refine wDn ?_;have HRB3:Hid (Below wo.heap.size wo w21):=(((drew_of HRB2.out).trans (b12.mono HRB2.out.size)).trans (b20.mono (Nat.le_trans HRB2.out.size b12.size))).trans (b21.mono (Nat.le_trans (Nat.le_trans HRB2.out.size b12.size) b20.size));clear hHeld hHeld12 hHeld20 hHeld21 b12 b20 b21 HRB2 jn g5 g6 zg HCB;cases ab with
            | false=>
             have HS2:Hid (LeastTo (chgsOf EL1) (chgsOf EW1) (i+1) (k:Int)):=by
              obtain⟨h1,e1⟩:=HM.out;obtain⟨h2,e2⟩:=HQM.out;refine HLS.out.behind h1 h2 ?_;rw[e1,HPR.out,e2];intro h;have:=(ahead_iff _ _).2 h;rw[HAB.out] at this;cases this
             clear HLS HAB HQM;generalize w21=wz at *;go_upto_region 29 with fail
             have gm:(i:Int)<1000:=by obtain⟨h,_⟩:=HM.out;rw[chgs_len] at h;have:=HN1.out.2.2;omega
             go_wp2;go_roundw
             case rel=>obtain⟨h,_⟩:=HM.out;rw[chgs_len] at h;exact⟨i+1,_,h,rfl,by go_num,HS2.out,HRB3.out⟩
             case measure=>obtain⟨h,_⟩:=HM.out;rw[chgs_len] at h;simp[RowKit.intOf];omega
            | true=>
             have HS2:Hid (LeastTo (chgsOf EL1) (chgsOf EW1) (i+1) (i:Int)):=by
              obtain⟨h1,e1⟩:=HM.out;obtain⟨h2,e2⟩:=HQM.out;refine HLS.out.ahead h1 h2 (by rw[e1];exact HRY.out) ?_;rw[e1,HPR.out,e2];exact(ahead_iff _ _).1 HAB.out
             clear HLS HAB HQM;generalize w21=wz at *;go_upto_region 29 with fail
             have gm:(i:Int)<1000:=by obtain⟨h,_⟩:=HM.out;rw[chgs_len] at h;have:=HN1.out.2.2;omega
             go_wp2;go_roundw
             case rel=>obtain⟨h,_⟩:=HM.out;rw[chgs_len] at h;exact⟨i+1,_,h,rfl,by go_num,HS2.out,HRB3.out⟩
             case measure=>obtain⟨h,_⟩:=HM.out;rw[chgs_len] at h;simp[RowKit.intOf];omega
         ·have HLS:Hid (LeastTo (chgsOf EL1) (chgsOf EW1) i at'):=hq.out.1;have HRB:Hid (Below wo.heap.size wo wr):=hq.out.2;have HIE:Hid ((chgsOf EW1).length≤i):=by show _≤_;rw[chgs_len];omega
          have hme:¬(i:Int)<nn:=by have:=HN1.out.2.1;omega
          clear hq hlt hi;by_cases hat:at'<0
          ·have HE:Hid (RTakeP S T w0 w g EL EW c 0 wr):=HTK2.out _ _ _ _ _ _ (HG.out.1.below HRB.out) HG.out.2.1 (HG.out.2.2.1.trans (KpS.of HRB.out)) HG.out.2.2.2.1 (HLS.out.neg HIE.out hat);clear HLS;go_wp2;go_ret;exact⟨_,rfl,HE.out⟩
          ·obtain⟨k,rfl,hk⟩:∃k:Nat,at'=k∧k<EW1.length:=by
            rcases HLS.out with⟨e,_⟩ | ⟨k,e,hk,_⟩
            ·omega
            ·exact⟨k,e,by rw[chgs_len] at hk;exact hk⟩
           obtain⟨b,o,p,pa,ps,pt,pda,pdn,pdc,poa,pon,poc,hna,hp,hpv,hpr,hpw,hpc,hcl⟩:=HEL.out k hk;obtain⟨x0,x1,x2,x3,x4⟩:=hcl wr HRB.out;have HLE:Hid (Least (chgsOf EL1) (chgsOf EW1) p.1):=by
            obtain⟨h1,h2⟩:=HLS.out.least HIE.out;rw[chgs_at,hp] at h2;exact h2
           have HPV:Hid (p.2=(.agg #[.int .i64 pa,.int .i64 ps,.int .i64 pt,.slice pda pdn pdc,.slice poa pon poc])):=hpv;have HPW:Hid (FzC T w0 p.2 p.1∧chk p.1=0):=⟨hpw,hpc⟩
           have HPK:Hid (∃h:k<EW1.length,EW1[k]=p):=⟨hk,hp⟩
           have HKN:Hid (k<nn):=by show _<_;rw[←HN1.out.2.1];exact hk
           have g5:(k:Int)<nn:=by have:=HKN.out;omega
           have g6:(0:Int)≤k:=by omega
           have jn:decide ((k:Int)<0)=false:=decide_eq_false hat
           -- where the row of those that wait lies
           obtain⟨hbo,hnc⟩:o=0∧nn≤nc:=by
            rcases HG.out.1.rowW.2 with⟨e,e2⟩ | ⟨g9,cap,cur,e,_,_,hcap,_⟩
            ·exfalso;rw[List.length_map] at e2;omega
            ·obtain⟨e3,e4,e5⟩:=Value.slice.inj e;rw[hna] at e3;injection e3 with e3
             injection e3 with _ e6
             subst e5;rw[List.length_map] at hcap;exact⟨e6,by have:=HN1.out.2.1;omega⟩
           subst hbo;subst hna;clear hcl hpv hpr hpw hpc hp hk HLS hat;rw[Nat.zero_add] at x0 x1 x2 x3 x4;go_upto_region 37 with fail
           clear x0 x1 x2 x3 x4 hme;have HBW:Hid (Below wo.heap.size wo (wr.alloc (.cells #[.int .i64 pa,.int .i64 ps,.int .i64 pt,.slice pda pdn pdc,.slice poa pon poc] 33))∧(wr.alloc (.cells #[.int .i64 pa,.int .i64 ps,.int .i64 pt,.slice pda pdn pdc,.slice poa pon poc] 33)).heap[wr.heap.size]?=some (.cells #[.int .i64 pa,.int .i64 ps,.int .i64 pt,.slice pda pdn pdc,.slice poa pon poc] 33)∧wo.heap.size≤wr.heap.size):=⟨HRB.out.alloc HRB.out.size _,heap_alloc_new wr _,HRB.out.size⟩
           generalize wr.alloc (.cells #[.int .i64 pa,.int .i64 ps,.int .i64 pt,.slice pda pdn pdc,.slice poa pon poc] 33)=wb at *;obtain⟨xb,hxb⟩:=gNz (wr.heap.size);rw[hxb] at HBW ⊢;clear hxb k1 zg HRB;clear wr;obtain⟨k1,zg⟩:=HK1.out wb HBW.out.1;have HR3:Hid (RB S T w0 g EL1 EW1 (.slice ma mn mc) (.slice (some ⟨b,0,none⟩) nn nc) wb):=HG.out.1.below HBW.out.1
           -- what stands ahead of it
           have hcv:∀u∈EW1.map (·.2),CV u:=fun u hu=>by
            obtain⟨p9,hp9,rfl⟩:=List.mem_map.1 hu;exact HR3.out.cv p9 (List.mem_append_right _ hp9)
           have hus:(EW1.map (fun p:CE=>p.2)).length=nn:=by rw[List.length_map];exact HN1.out.2.1
           obtain⟨US,hUS⟩:=gNz (EW1.map (fun p:CE=>p.2));have hrowW:=HR3.out.rowW;rw[hUS] at hus hcv hrowW;have hn120:nn≤120:=by have:=HN1.out;omega
           obtain⟨v1,U1,happ1,row1,bU1,hv1⟩:=app_take hrowW hus hcv (Nat.zero_le _) k HKN.out hn120;obtain⟨va1,vc1,hv1e⟩:=slice_row row1;obtain⟨vn1,hvn1⟩:=gNz ((US.take k).length);rw[hvn1] at hv1e;subst hv1e;have HR4:Hid (RB S T w0 g EL1 EW1 (.slice ma mn mc) (.slice (some ⟨b,0,none⟩) nn nc) U1):=HR3.out.below bU1;go_upto_region 38 with(first | (at_builtin;refine wp_append rfl _ _ 23 rfl _ _ _ _ rfl rfl happ1 ?_))
           clear happ1 k1 zg;obtain⟨-,k1,-⟩:=cLs HR4.out.box;have zg:g<U1.heap.size:=lt_of_heap HR4.out.box
           -- what stands behind it
           obtain⟨j,hj⟩:=gNz (k+1:Nat);have HJ:Hid (k+1=j∧j≤nn∧nn≤nc∧nn≤120):=⟨hj,by have:=HKN.out;omega,hnc,by have:=HN1.out;omega⟩
           have HW1:Hid (wrap64 ((k:Int)+1)=(j:Int)):=wrap_nat k j HJ.out.1 (by have:=HJ.out;omega);have hrowW4:=HR4.out.rowW;rw[hUS] at hrowW4;have hrl:(US.take k).length≤120:=by rw[List.length_take];have:=HKN.out;omega
           have happ2:=app_drop hrowW4 hus hcv (Nat.zero_le _) row1 hrl j hn120;have HUS:Hid (EW1.map (fun p:CE=>p.2)=US):=hUS;have HRW1:Hid (RowC 0 (.slice va1 vn1 vc1) (US.take k) U1∧((Value.slice va1 vn1 vc1).ownBlock=none∨(Value.slice va1 vn1 vc1).ownBlock=some wb.heap.size)∧Below wb.heap.size wb U1):=⟨row1,hv1,bU1⟩
           clear row1 hv1 bU1 hvn1 hj hnc hrowW hrowW4 hrl hus hn120 hUS;have hj1:(j:Int)≤nn:=by have:=HJ.out;omega
           have hj2:(nn:Int)≤nc:=by have:=HJ.out;omega
           by_cases hcj:nc=j
           ·subst hcj;obtain⟨v2,U2,hr2,row2,gr2,hv2⟩:=happ2 (0) (0) (Or.inl (by have:=HJ.out;omega));clear happ2;obtain⟨va2,vc2,hv2e⟩:=slice_row row2;obtain⟨vn2,hvn2⟩:=gNz ((US.take k++US.drop (nc)).length);rw[hvn2] at hv2e;subst hv2e;clear hvn2;have hEV:US.take k++US.drop (nc)=(EW1.take k++EW1.drop (nc)).map (·.2):=by rw[←HUS.out,List.map_append,List.map_take,List.map_drop]
            rw[hEV] at row2;obtain⟨EV,hEV2⟩:=gNz (EW1.take k++EW1.drop (nc));rw[hEV2] at row2;have bU2:Below wb.heap.size wb U2:=HRW1.out.2.2.grown gr2 HRW1.out.2.2.size (fun t e=>by
             rcases HRW1.out.2.1 with h | h
             ·rw[h] at e;cases e
             ·rw[h] at e;have:=Option.some.inj e;omega)
            have R5:=HR3.out.below bU2;have RS:Hid (_∧_):=R5.setW row2 (fun t ht=>hv2.elim (fun h=>HRW1.out.2.1.elim (fun h2=>by rw[h,h2] at ht;cases ht) (fun h2=>HR3.out.fr t (by rw[h,h2] at ht;rw[←Option.some.inj ht];exact HR3.out.bel.size))) (fun h=>HR3.out.fr t (by rw[h] at ht;rw[←Option.some.inj ht];exact Nat.le_trans HR3.out.bel.size HRW1.out.2.2.size))) (fun t ht e=>by
             have h1:=(HR3.out.rowL.lt t ht).2;rcases hv2 with h | h
             ·rw[h] at e;rcases HRW1.out.2.1 with h2 | h2
              ·rw[h2] at e;cases e
              ·rw[h2] at e;have:=Option.some.inj e;omega
             ·rw[h] at e;have:=Option.some.inj e;have:=HRW1.out.2.2.size;omega) (fun p9 hp9=>by
             rw[←hEV2] at hp9;rcases List.mem_append.1 hp9 with h | h
             ·exact List.mem_of_mem_take h
             ·exact List.mem_of_mem_drop h)
            have HEV:Hid (chgsOf EV=(chgsOf EW1).filter (fun x=>decide (x.ref≠p.1.ref))∧EV.length<EW1.length):=by
             obtain⟨h1,e1⟩:=HPK.out;have h2:k<(chgsOf EW1).length:=by rw[chgs_len];exact h1
             have h3:=filter_cut HG.out.2.1.nd k h2;have e3:(chgsOf EW1)[k]=p.1:=by rw[chgs_at,e1]
             rw[e3] at h3;rw[h3,←hEV2,HJ.out.1];refine⟨by unfold chgsOf;rw[List.map_append,List.map_take,List.map_drop],?_⟩;rw[List.length_append,List.length_take,List.length_drop];have:=HJ.out.1;omega
            have hxg:xb≠g:=fun e=>by
             have h1:=HBW.out.2.1;have h2:=HR3.out.box;rw[e] at h1;rw[h1] at h2;have:=Option.some.inj h2;injection this with _ h5
             exact absurd h5 (by decide)
            have HX2:Hid (U2.heap[xb]?=some (.cells #[.int .i64 pa,.int .i64 ps,.int .i64 pt,.slice pda pdn pdc,.slice poa pon poc] 33)∧xb≠g):=⟨heap_below HBW.out.2.1 bU2 lRf,hxg⟩
            have HKP:Hid (KpS S w U2):=(HG.out.2.2.1.trans (KpS.of HBW.out.1)).trans (KpS.of bU2);have HLB:Hid (∀t,(Value.slice ma mn mc).ownBlock=some t→t<wo.heap.size):=fun t ht=>(HG.out.1.rowL.lt t ht).2;have HXW:Hid (wo.heap.size≤xb):=HBW.out.2.2;obtain⟨-,ku,-⟩:=cLs R5.box;have kf:=fRz R5.box;have zu:g<U2.heap.size:=lt_of_heap R5.box;clear row2 gr2 hv2 hEV hEV2 hxg bU2 R5 HR4 HRW1 HBW;have hw1:=HW1.out;go_upto_region 39 with(first | (at_builtin;refine wp_append rfl _ _ 23 rfl _ _ _ _ rfl rfl hr2 ?_))
            clear hr2 k1 zg hcv hw1 HW1 hj1 hj2;go_upto_region 40 with fail
            clear ku kf zu;have HXS:Hid ((U2.setCell ⟨g,1,none⟩ (.slice va2 vn2 vc2)).heap[xb]?=some (.cells #[.int .i64 pa,.int .i64 ps,.int .i64 pt,.slice pda pdn pdc,.slice poa pon poc] 33)):=heap_set_other HX2.out.1 HX2.out.2;generalize U2.setCell ⟨g,1,none⟩ (.slice va2 vn2 vc2)=ws at *;obtain⟨zs0,zs1,zs2,zs3,zs4,-⟩:=cLs HXS.out;have zg:g<ws.heap.size:=lt_of_heap RS.out.1.box;have HN5:Hid (EL1.length+EV.length≤120):=by have:=HN1.out.2.2;have:=HEV.out.2;show _≤_;omega
            have HPCW:Hid (FzC T w0 (.agg #[.int .i64 pa,.int .i64 ps,.int .i64 pt,.slice pda pdn pdc,.slice poa pon poc]) p.1):=by have:=HPW.out.1;rw[HPV.out] at this;exact this
            have EF:=rFits_any g ma mn mc (.slice va2 vn2 vc2) (EL1.map toCX) (.agg #[.int .i64 pa,.int .i64 ps,.int .i64 pt,.slice pda pdn pdc,.slice poa pon poc]) p.1 ws RS.out.1.box (RS.out.1.isL HN5.out) RS.out.1.whL ((HPCW.out.kp RS.out.1.belT).chgW) (by rw[map_toCX];exact HG.out.2.1.inv) HPW.out.2 (by rw[List.length_map];have:=HN5.out;omega);rw[map_toCX] at EF;go_wp2_with fail;go_fit EF;rintro e w6 ⟨⟨fb,rfl,hfb⟩,b6⟩;have HFB:Hid (fb=true↔FitC (chgsOf EL1) p.1):=hfb;have HR6:Hid (RB S T w0 g EL1 EV (.slice ma mn mc) (.slice va2 vn2 vc2) w6):=RS.out.1.below b6;have HK6:Hid (KpS S w w6):=(HKP.out.trans RS.out.2).trans (KpS.of b6);have HQ6:Hid (w6.heap[xb]?=some (.cells #[.int .i64 pa,.int .i64 ps,.int .i64 pt,.slice pda pdn pdc,.slice poa pon poc] 33)∧(Value.slice ma mn mc).ownBlock≠some xb):=⟨heap_below HXS.out b6 lRf,fun e=>by have:=HLB.out _ e;have:=HXW.out;omega⟩
            clear EF hfb b6 zs0 zs1 zs2 zs3 zs4 zg RS HKP HXS HX2;cases fb with
            | false=>
             have HST9:Hid (WStep (chgsOf EL1) (chgsOf EW1) (chgsOf EL1) (chgsOf EV)):=⟨p.1,HLE.out,Or.inr ⟨fun h=>(by cases HFB.out.2 h),rfl⟩,HEV.out.1⟩
             clear HFB;go_wp2;go_roundg (go - 1)
             case measure=>have:=hgo.out;have:=HEV.out.2;have:=HG.out.2.2.2.2;omega
             case rel=>exact⟨EL1,EV,_,_,n+1,by have:=hgo.out;have:=HEV.out.2;have:=HG.out.2.2.2.2;omega,HR6.out,HG.out.2.1.step HST9.out,HK6.out,_,_,HG.out.2.2.2.1,HST9.out⟩
            | true=>
             have HST9:Hid (WStep (chgsOf EL1) (chgsOf EW1) (chgsOf EL1++[p.1]) (chgsOf EV)):=⟨p.1,HLE.out,Or.inl ⟨HFB.out.1 rfl,rfl⟩,HEV.out.1⟩
             have HPCV:Hid (CV (.agg #[.int .i64 pa,.int .i64 ps,.int .i64 pt,.slice pda pdn pdc,.slice poa pon poc])):=⟨_,_,_,_,_,_,_,_,_,rfl⟩
             clear HFB;have b9:Below w6.heap.size w6 (w6.drew.alloc (.cells #[.int .i64 pa,.int .i64 ps,.int .i64 pt,.slice pda pdn pdc,.slice poa pon poc] 33)):=((Below.refl _ _).drew).alloc lRf _;have R9:=HR6.out.below b9;obtain⟨v9,U9,happ,row9,gr9,hv9⟩:=run_appC_at 23 (w6.drew.alloc (.cells #[.int .i64 pa,.int .i64 ps,.int .i64 pt,.slice pda pdn pdc,.slice poa pon poc] 33)) 0 (Nat.zero_le _) (.slice ma mn mc) (.agg #[.int .i64 pa,.int .i64 ps,.int .i64 pt,.slice pda pdn pdc,.slice poa pon poc]) (EL1.map (·.2)) (HPCV.out) R9.rowL (by rw[List.length_map];have:=HN1.out.2.2;omega) w6.heap.size (by have:=heap_alloc_new w6.drew (.cells #[.int .i64 pa,.int .i64 ps,.int .i64 pt,.slice pda pdn pdc,.slice poa pon poc] 33);exact this);obtain⟨va9,vc9,hv9e⟩:=slice_row row9;obtain⟨vn9,hvn9⟩:=gNz ((EL1.map (fun p:CE=>p.2)++[((.agg #[.int .i64 pa,.int .i64 ps,.int .i64 pt,.slice pda pdn pdc,.slice poa pon poc]):Value)]).length);rw[hvn9] at hv9e;subst hv9e;clear hvn9;have RN:Hid (_∧_):=R9.addL gr9 row9 hv9 HPCW.out;have hgn:(.slice ma mn mc:Value).ownBlock≠some g:=own_ne_box R9.rowL R9.box (by decide);have hgb:U9.heap[g]?=(w6.drew.alloc (.cells #[.int .i64 pa,.int .i64 ps,.int .i64 pt,.slice pda pdn pdc,.slice poa pon poc] 33)).heap[g]?:=gr9.block g (lt_of_heap R9.box) (fun e=>hgn e.symm);have hxb:(w6.drew.alloc (.cells #[.int .i64 pa,.int .i64 ps,.int .i64 pt,.slice pda pdn pdc,.slice poa pon poc] 33)).heap[xb]?=some (.cells #[.int .i64 pa,.int .i64 ps,.int .i64 pt,.slice pda pdn pdc,.slice poa pon poc] 33):=(b9.block xb (lt_of_heap HQ6.out.1)).trans HQ6.out.1;have hxb9:U9.heap[xb]?=some (.cells #[.int .i64 pa,.int .i64 ps,.int .i64 pt,.slice pda pdn pdc,.slice poa pon poc] 33):=(gr9.block xb (lt_of_heap hxb) (fun e=>HQ6.out.2 e.symm)).trans hxb;have kf':(w6.drew.alloc (.cells #[.int .i64 pa,.int .i64 ps,.int .i64 pt,.slice pda pdn pdc,.slice poa pon poc] 33)).cell? ⟨g,0,none⟩=some (.slice ma mn mc):=cLo R9.box 0;have kf'':U9.cell? ⟨g,0,none⟩=some (.slice ma mn mc):=cLo (hgb.trans R9.box) 0;have qf:=fRz (hgb.trans R9.box);have kf:w6.drew.cell? ⟨g,0,none⟩=some (.slice ma mn mc):=cLo (HR6.out.box) 0;have gg9:g<U9.heap.size:=lt_of_heap (hgb.trans R9.box);obtain⟨y0,y1,y2,y3,y4,-⟩:=cLs HQ6.out.1;have ya0:(w6.drew.alloc (.cells #[.int .i64 pa,.int .i64 ps,.int .i64 pt,.slice pda pdn pdc,.slice poa pon poc] 33)).cell? ⟨xb,0,none⟩=some (.int .i64 pa):=cLo hxb 0;have ya1:(w6.drew.alloc (.cells #[.int .i64 pa,.int .i64 ps,.int .i64 pt,.slice pda pdn pdc,.slice poa pon poc] 33)).cell? ⟨xb,1,none⟩=some (.int .i64 ps):=cLo hxb 1;have ya2:(w6.drew.alloc (.cells #[.int .i64 pa,.int .i64 ps,.int .i64 pt,.slice pda pdn pdc,.slice poa pon poc] 33)).cell? ⟨xb,2,none⟩=some (.int .i64 pt):=cLo hxb 2
             have ya3:(w6.drew.alloc (.cells #[.int .i64 pa,.int .i64 ps,.int .i64 pt,.slice pda pdn pdc,.slice poa pon poc] 33)).cell? ⟨xb,3,none⟩=some (.slice pda pdn pdc):=cLo hxb 3;have ya4:(w6.drew.alloc (.cells #[.int .i64 pa,.int .i64 ps,.int .i64 pt,.slice pda pdn pdc,.slice poa pon poc] 33)).cell? ⟨xb,4,none⟩=some (.slice poa pon poc):=cLo hxb 4;obtain⟨yb0,yb1,yb2,yb3,yb4,-⟩:=cLs hxb9;clear b9 R9 row9 gr9 hv9 hgn hgb hxb hxb9;go_upto_region 42 with fail
             refine wp_region_noPanic ?_;refine early_begin (S:=fun W=>W.cell? ⟨g,0,none⟩=some (.slice ma mn mc)∧W.cell? ⟨xb,0,none⟩=some (.int .i64 pa)∧W.cell? ⟨xb,1,none⟩=some (.int .i64 ps)∧W.cell? ⟨xb,2,none⟩=some (.int .i64 pt)∧W.cell? ⟨xb,3,none⟩=some (.slice pda pdn pdc)∧W.cell? ⟨xb,4,none⟩=some (.slice poa pon poc)) (late:=fun k=>decide (8≤k)) (by kernel_rfl) ?_;refine early_take (i:=0) (oi:={dst:=some 166,op:=Op.move (Operand.tmp 0),type:=66,pos := "book.go:252",after:=#[],guard:=none}) (v:=?_) rfl (by kernel_rfl) (by kernel_rfl) (by kernel_rfl) (by decide) (by kernel_rfl) (fun _ _ _ h=>h) (Or.inl ⟨by rfl,?_⟩) ⟨kf,y0,y1,y2,y3,y4⟩ ?_
             rotate_left
             ·intro wz hSw;(try dsimp only at hSw);go_simp;try with_reducible rfl
             try simp only[Act.put,nm]
             refine early_take (i:=1) (oi:={dst:=some 167,op:=Op.move (Operand.tmp 0),type:=66,pos := "book.go:252",after:=#[],guard:=none}) (v:=?_) rfl (by kernel_rfl) (by kernel_rfl) (by kernel_rfl) (by decide) (by kernel_rfl) (fun _ _ _ h=>h) (Or.inl ⟨by rfl,?_⟩) ⟨kf,y0,y1,y2,y3,y4⟩ ?_
             rotate_left
             ·intro wz hSw;(try dsimp only at hSw);go_simp;try with_reducible rfl
             try simp only[Act.put,nm]
             refine early_take (i:=2) (oi:={dst:=some 168,op:=Op.nilCheck (Operand.tmp 167),type:=0,pos := "book.go:252",after:=#[aD 1],guard:=none}) (v:=?_) rfl (by kernel_rfl) (by kernel_rfl) (by kernel_rfl) (by decide) (by kernel_rfl) (fun _ _ _ h=>h) (Or.inl ⟨by rfl,?_⟩) ⟨kf,y0,y1,y2,y3,y4⟩ ?_
             rotate_left
             ·intro wz hSw;(try dsimp only at hSw);go_simp;try with_reducible rfl
             try simp only[Act.put,nm]
             refine early_take (i:=3) (oi:={dst:=some 169,op:=Op.fieldAddr 73 (Operand.tmp 168) 0,type:=0,pos := "book.go:252",after:=#[aD 2],guard:=none}) (v:=?_) rfl (by kernel_rfl) (by kernel_rfl) (by kernel_rfl) (by decide) (by kernel_rfl) (fun _ _ _ h=>h) (Or.inl ⟨by rfl,?_⟩) ⟨kf,y0,y1,y2,y3,y4⟩ ?_
             rotate_left
             ·intro wz hSw;(try dsimp only at hSw);go_simp;try with_reducible rfl
             try simp only[Act.put,nm]
             refine early_take (i:=4) (oi:={dst:=some 170,op:=Op.load 23 (Operand.tmp 169),type:=23,pos := "book.go:252",after:=#[aD 3],guard:=none}) (v:=?_) rfl (by kernel_rfl) (by kernel_rfl) (by kernel_rfl) (by decide) (by kernel_rfl) (fun _ _ _ h=>h) (Or.inl ⟨by rfl,?_⟩) ⟨kf,y0,y1,y2,y3,y4⟩ ?_
             rotate_left
             ·intro wz hSw;(try dsimp only at hSw);go_simp;try with_reducible rfl
             try simp only[Act.put,nm]
             refine early_take (i:=5) (oi:={dst:=some 171,op:=Op.load 33 (Operand.tmp 13),type:=33,pos := "book.go:252",after:=#[],guard:=none}) (v:=?_) rfl (by kernel_rfl) (by kernel_rfl) (by kernel_rfl) (by decide) (by kernel_rfl) (fun _ _ _ h=>h) (Or.inl ⟨by rfl,?_⟩) ⟨kf,y0,y1,y2,y3,y4⟩ ?_
             rotate_left
             ·intro wz hSw;(try dsimp only at hSw);go_simp;try with_reducible rfl
             try simp only[Act.put,nm]
             refine early_step (i:=6) (o:={dst:=some 172,op:=Op.buildSlice 23 1 #[(0,Operand.tmp 171)],type:=23,pos := "book.go:252",after:=#[aD 5],guard:=none}) (by kernel_rfl) rfl (fun K hK=>?_);go_simp;refine hK.out _ _ (fun _=>⟨kf',ya0,ya1,ya2,ya3,ya4⟩) ?_;clear hK K;try simp only[Act.put,nm]
             refine early_step (i:=7) (o:={dst:=some 173,op:=Op.call {callee:=Callee.builtin Builtin.append,args:=#[Operand.tmp 170,Operand.tmp 172],argTypes:=#[23,23]},type:=23,pos := "book.go:252",after:=#[aD 4,aD 6],guard:=none}) (by kernel_rfl) rfl (fun K hK=>?_);refine step_append_known rfl (.tmp 170) (.tmp 172) 23 rfl (.slice ma mn mc) (.slice (some ⟨w6.drew.heap.size,0,none⟩) 1 1) (.slice va9 vn9 vc9) U9 (by simp[Act.eval]) (by simp[Act.eval]) happ ?_;refine hK.out _ _ (fun _=>⟨kf'',yb0,yb1,yb2,yb3,yb4⟩) ?_;clear hK K;try simp only[Act.put,nm]
             refine early_step (i:=8) (o:={dst:=some 174,op:=Op.nilCheck (Operand.tmp 166),type:=0,pos := "book.go:252",after:=#[aD 0,aP 0,aP 1,aP 2,aP 3,aP 4,aP 5,aP 6,aP 7],guard:=none}) (by kernel_rfl) rfl (fun K hK=>?_);go_simp;refine hK.out _ _ (fun h=>absurd h (by decide)) ?_;clear hK K;try simp only[Act.put,nm]
             refine early_step (i:=9) (o:={dst:=some 175,op:=Op.fieldAddr 73 (Operand.tmp 174) 0,type:=0,pos := "book.go:252",after:=#[aD 8,aP 0,aP 1,aP 2,aP 3,aP 4,aP 5,aP 6,aP 7],guard:=none}) (by kernel_rfl) rfl (fun K hK=>?_);go_simp;refine hK.out _ _ (fun h=>absurd h (by decide)) ?_;clear hK K;try simp only[Act.put,nm]
             refine early_step (i:=10) (o:={dst:=none,op:=Op.store 23 (Operand.tmp 175) (Operand.tmp 173),type:=0,pos := "book.go:252",after:=#[aD 9,aD 7,aC 7,aP 0,aP 1,aP 2,aP 3,aP 4,aP 5,aP 6,aP 7],guard:=none}) (by kernel_rfl) rfl (fun K hK=>?_);go_simp;refine hK.out _ _ (fun h=>absurd h (by decide)) ?_;clear hK K;try simp only[Act.put,nm]
             refine early_done (by kernel_rfl) ?_ _;refine NoPanic.normal ?_;clear happ kf kf' kf'' qf gg9 y0 y1 y2 y3 y4 ya0 ya1 ya2 ya3 ya4 yb0 yb1 yb2 yb3 yb4;have HK9:Hid ((∃vl' vw',RB S T w0 g (EL1++[(p.1,(.agg #[.int .i64 pa,.int .i64 ps,.int .i64 pt,.slice pda pdn pdc,.slice poa pon poc]))]) EV vl' vw' (U9.setCell ⟨g,0,none⟩ (.slice va9 vn9 vc9)))∧KpS S w (U9.setCell ⟨g,0,none⟩ (.slice va9 vn9 vc9))):=⟨⟨_,_,RN.out.1⟩,(HK6.out.trans (KpS.of (((Below.refl w6.heap.size w6).drew).alloc lRf _))).trans RN.out.2⟩
             clear RN;generalize U9.setCell ⟨g,0,none⟩ (.slice va9 vn9 vc9)=w9 at *;have e8:chgsOf (EL1++[(p.1,(.agg #[.int .i64 pa,.int .i64 ps,.int .i64 pt,.slice pda pdn pdc,.slice poa pon poc]))])=chgsOf EL1++[p.1]:=by unfold chgsOf;simp
             have HE8:Hid (chgsOf (EL1++[(p.1,(.agg #[.int .i64 pa,.int .i64 ps,.int .i64 pt,.slice pda pdn pdc,.slice poa pon poc]))])=chgsOf EL1++[p.1]):=e8;clear e8;go_wp2;go_roundg (go - 1)
             case measure=>have:=hgo.out;have:=HEV.out.2;have:=HG.out.2.2.2.2;omega
             case rel=>
              obtain⟨⟨vl',vw',h1⟩,h2⟩:=HK9.out;exact⟨_,EV,vl',vw',n+1,by have:=hgo.out;have:=HEV.out.2;have:=HG.out.2.2.2.2;omega,h1,by rw[HE8.out];exact HG.out.2.1.step HST9.out,h2,_,_,HG.out.2.2.2.1,by rw[HE8.out];exact HST9.out⟩
           ·obtain⟨v2,U2,hr2,row2,gr2,hv2⟩:=happ2 (j*5) (nc - j) (Or.inr (by rw[Nat.zero_add]));clear happ2;obtain⟨va2,vc2,hv2e⟩:=slice_row row2;obtain⟨vn2,hvn2⟩:=gNz ((US.take k++US.drop (j)).length);rw[hvn2] at hv2e;subst hv2e;clear hvn2;have hEV:US.take k++US.drop (j)=(EW1.take k++EW1.drop (j)).map (·.2):=by rw[←HUS.out,List.map_append,List.map_take,List.map_drop]
            rw[hEV] at row2;obtain⟨EV,hEV2⟩:=gNz (EW1.take k++EW1.drop (j));rw[hEV2] at row2;have bU2:Below wb.heap.size wb U2:=HRW1.out.2.2.grown gr2 HRW1.out.2.2.size (fun t e=>by
             rcases HRW1.out.2.1 with h | h
             ·rw[h] at e;cases e
             ·rw[h] at e;have:=Option.some.inj e;omega)
            have R5:=HR3.out.below bU2;have RS:Hid (_∧_):=R5.setW row2 (fun t ht=>hv2.elim (fun h=>HRW1.out.2.1.elim (fun h2=>by rw[h,h2] at ht;cases ht) (fun h2=>HR3.out.fr t (by rw[h,h2] at ht;rw[←Option.some.inj ht];exact HR3.out.bel.size))) (fun h=>HR3.out.fr t (by rw[h] at ht;rw[←Option.some.inj ht];exact Nat.le_trans HR3.out.bel.size HRW1.out.2.2.size))) (fun t ht e=>by
             have h1:=(HR3.out.rowL.lt t ht).2;rcases hv2 with h | h
             ·rw[h] at e;rcases HRW1.out.2.1 with h2 | h2
              ·rw[h2] at e;cases e
              ·rw[h2] at e;have:=Option.some.inj e;omega
             ·rw[h] at e;have:=Option.some.inj e;have:=HRW1.out.2.2.size;omega) (fun p9 hp9=>by
             rw[←hEV2] at hp9;rcases List.mem_append.1 hp9 with h | h
             ·exact List.mem_of_mem_take h
             ·exact List.mem_of_mem_drop h)
            have HEV:Hid (chgsOf EV=(chgsOf EW1).filter (fun x=>decide (x.ref≠p.1.ref))∧EV.length<EW1.length):=by
             obtain⟨h1,e1⟩:=HPK.out;have h2:k<(chgsOf EW1).length:=by rw[chgs_len];exact h1
             have h3:=filter_cut HG.out.2.1.nd k h2;have e3:(chgsOf EW1)[k]=p.1:=by rw[chgs_at,e1]
             rw[e3] at h3;rw[h3,←hEV2,HJ.out.1];refine⟨by unfold chgsOf;rw[List.map_append,List.map_take,List.map_drop],?_⟩;rw[List.length_append,List.length_take,List.length_drop];have:=HJ.out.1;omega
            have hxg:xb≠g:=fun e=>by
             have h1:=HBW.out.2.1;have h2:=HR3.out.box;rw[e] at h1;rw[h1] at h2;have:=Option.some.inj h2;injection this with _ h5
             exact absurd h5 (by decide)
            have HX2:Hid (U2.heap[xb]?=some (.cells #[.int .i64 pa,.int .i64 ps,.int .i64 pt,.slice pda pdn pdc,.slice poa pon poc] 33)∧xb≠g):=⟨heap_below HBW.out.2.1 bU2 lRf,hxg⟩
            have HKP:Hid (KpS S w U2):=(HG.out.2.2.1.trans (KpS.of HBW.out.1)).trans (KpS.of bU2);have HLB:Hid (∀t,(Value.slice ma mn mc).ownBlock=some t→t<wo.heap.size):=fun t ht=>(HG.out.1.rowL.lt t ht).2;have HXW:Hid (wo.heap.size≤xb):=HBW.out.2.2;obtain⟨-,ku,-⟩:=cLs R5.box;have kf:=fRz R5.box;have zu:g<U2.heap.size:=lt_of_heap R5.box;clear row2 gr2 hv2 hEV hEV2 hxg bU2 R5 HR4 HRW1 HBW;have hw1:=HW1.out;go_upto_region 39 with(first | (at_builtin;refine wp_append rfl _ _ 23 rfl _ _ _ _ rfl rfl hr2 ?_))
            clear hr2 k1 zg hcv hw1 HW1 hj1 hj2;go_upto_region 40 with fail
            clear ku kf zu;have HXS:Hid ((U2.setCell ⟨g,1,none⟩ (.slice va2 vn2 vc2)).heap[xb]?=some (.cells #[.int .i64 pa,.int .i64 ps,.int .i64 pt,.slice pda pdn pdc,.slice poa pon poc] 33)):=heap_set_other HX2.out.1 HX2.out.2;generalize U2.setCell ⟨g,1,none⟩ (.slice va2 vn2 vc2)=ws at *;obtain⟨zs0,zs1,zs2,zs3,zs4,-⟩:=cLs HXS.out;have zg:g<ws.heap.size:=lt_of_heap RS.out.1.box;have HN5:Hid (EL1.length+EV.length≤120):=by have:=HN1.out.2.2;have:=HEV.out.2;show _≤_;omega
            have HPCW:Hid (FzC T w0 (.agg #[.int .i64 pa,.int .i64 ps,.int .i64 pt,.slice pda pdn pdc,.slice poa pon poc]) p.1):=by have:=HPW.out.1;rw[HPV.out] at this;exact this
            have EF:=rFits_any g ma mn mc (.slice va2 vn2 vc2) (EL1.map toCX) (.agg #[.int .i64 pa,.int .i64 ps,.int .i64 pt,.slice pda pdn pdc,.slice poa pon poc]) p.1 ws RS.out.1.box (RS.out.1.isL HN5.out) RS.out.1.whL ((HPCW.out.kp RS.out.1.belT).chgW) (by rw[map_toCX];exact HG.out.2.1.inv) HPW.out.2 (by rw[List.length_map];have:=HN5.out;omega);rw[map_toCX] at EF;go_wp2_with fail;go_fit EF;rintro e w6 ⟨⟨fb,rfl,hfb⟩,b6⟩;have HFB:Hid (fb=true↔FitC (chgsOf EL1) p.1):=hfb;have HR6:Hid (RB S T w0 g EL1 EV (.slice ma mn mc) (.slice va2 vn2 vc2) w6):=RS.out.1.below b6;have HK6:Hid (KpS S w w6):=(HKP.out.trans RS.out.2).trans (KpS.of b6);have HQ6:Hid (w6.heap[xb]?=some (.cells #[.int .i64 pa,.int .i64 ps,.int .i64 pt,.slice pda pdn pdc,.slice poa pon poc] 33)∧(Value.slice ma mn mc).ownBlock≠some xb):=⟨heap_below HXS.out b6 lRf,fun e=>by have:=HLB.out _ e;have:=HXW.out;omega⟩
            clear EF hfb b6 zs0 zs1 zs2 zs3 zs4 zg RS HKP HXS HX2;cases fb with
            | false=>
             have HST9:Hid (WStep (chgsOf EL1) (chgsOf EW1) (chgsOf EL1) (chgsOf EV)):=⟨p.1,HLE.out,Or.inr ⟨fun h=>(by cases HFB.out.2 h),rfl⟩,HEV.out.1⟩
             clear HFB;go_wp2;go_roundg (go - 1)
             case measure=>have:=hgo.out;have:=HEV.out.2;have:=HG.out.2.2.2.2;omega
             case rel=>exact⟨EL1,EV,_,_,n+1,by have:=hgo.out;have:=HEV.out.2;have:=HG.out.2.2.2.2;omega,HR6.out,HG.out.2.1.step HST9.out,HK6.out,_,_,HG.out.2.2.2.1,HST9.out⟩
            | true=>
             have HST9:Hid (WStep (chgsOf EL1) (chgsOf EW1) (chgsOf EL1++[p.1]) (chgsOf EV)):=⟨p.1,HLE.out,Or.inl ⟨HFB.out.1 rfl,rfl⟩,HEV.out.1⟩
             have HPCV:Hid (CV (.agg #[.int .i64 pa,.int .i64 ps,.int .i64 pt,.slice pda pdn pdc,.slice poa pon poc])):=⟨_,_,_,_,_,_,_,_,_,rfl⟩
             clear HFB;have b9:Below w6.heap.size w6 (w6.drew.alloc (.cells #[.int .i64 pa,.int .i64 ps,.int .i64 pt,.slice pda pdn pdc,.slice poa pon poc] 33)):=((Below.refl _ _).drew).alloc lRf _;have R9:=HR6.out.below b9;obtain⟨v9,U9,happ,row9,gr9,hv9⟩:=run_appC_at 23 (w6.drew.alloc (.cells #[.int .i64 pa,.int .i64 ps,.int .i64 pt,.slice pda pdn pdc,.slice poa pon poc] 33)) 0 (Nat.zero_le _) (.slice ma mn mc) (.agg #[.int .i64 pa,.int .i64 ps,.int .i64 pt,.slice pda pdn pdc,.slice poa pon poc]) (EL1.map (·.2)) (HPCV.out) R9.rowL (by rw[List.length_map];have:=HN1.out.2.2;omega) w6.heap.size (by have:=heap_alloc_new w6.drew (.cells #[.int .i64 pa,.int .i64 ps,.int .i64 pt,.slice pda pdn pdc,.slice poa pon poc] 33);exact this);obtain⟨va9,vc9,hv9e⟩:=slice_row row9;obtain⟨vn9,hvn9⟩:=gNz ((EL1.map (fun p:CE=>p.2)++[((.agg #[.int .i64 pa,.int .i64 ps,.int .i64 pt,.slice pda pdn pdc,.slice poa pon poc]):Value)]).length);rw[hvn9] at hv9e;subst hv9e;clear hvn9;have RN:Hid (_∧_):=R9.addL gr9 row9 hv9 HPCW.out;have hgn:(.slice ma mn mc:Value).ownBlock≠some g:=own_ne_box R9.rowL R9.box (by decide);have hgb:U9.heap[g]?=(w6.drew.alloc (.cells #[.int .i64 pa,.int .i64 ps,.int .i64 pt,.slice pda pdn pdc,.slice poa pon poc] 33)).heap[g]?:=gr9.block g (lt_of_heap R9.box) (fun e=>hgn e.symm);have hxb:(w6.drew.alloc (.cells #[.int .i64 pa,.int .i64 ps,.int .i64 pt,.slice pda pdn pdc,.slice poa pon poc] 33)).heap[xb]?=some (.cells #[.int .i64 pa,.int .i64 ps,.int .i64 pt,.slice pda pdn pdc,.slice poa pon poc] 33):=(b9.block xb (lt_of_heap HQ6.out.1)).trans HQ6.out.1;have hxb9:U9.heap[xb]?=some (.cells #[.int .i64 pa,.int .i64 ps,.int .i64 pt,.slice pda pdn pdc,.slice poa pon poc] 33):=(gr9.block xb (lt_of_heap hxb) (fun e=>HQ6.out.2 e.symm)).trans hxb;have kf':(w6.drew.alloc (.cells #[.int .i64 pa,.int .i64 ps,.int .i64 pt,.slice pda pdn pdc,.slice poa pon poc] 33)).cell? ⟨g,0,none⟩=some (.slice ma mn mc):=cLo R9.box 0;have kf'':U9.cell? ⟨g,0,none⟩=some (.slice ma mn mc):=cLo (hgb.trans R9.box) 0;have qf:=fRz (hgb.trans R9.box);have kf:w6.drew.cell? ⟨g,0,none⟩=some (.slice ma mn mc):=cLo (HR6.out.box) 0;have gg9:g<U9.heap.size:=lt_of_heap (hgb.trans R9.box);obtain⟨y0,y1,y2,y3,y4,-⟩:=cLs HQ6.out.1;have ya0:(w6.drew.alloc (.cells #[.int .i64 pa,.int .i64 ps,.int .i64 pt,.slice pda pdn pdc,.slice poa pon poc] 33)).cell? ⟨xb,0,none⟩=some (.int .i64 pa):=cLo hxb 0;have ya1:(w6.drew.alloc (.cells #[.int .i64 pa,.int .i64 ps,.int .i64 pt,.slice pda pdn pdc,.slice poa pon poc] 33)).cell? ⟨xb,1,none⟩=some (.int .i64 ps):=cLo hxb 1;have ya2:(w6.drew.alloc (.cells #[.int .i64 pa,.int .i64 ps,.int .i64 pt,.slice pda pdn pdc,.slice poa pon poc] 33)).cell? ⟨xb,2,none⟩=some (.int .i64 pt):=cLo hxb 2
             have ya3:(w6.drew.alloc (.cells #[.int .i64 pa,.int .i64 ps,.int .i64 pt,.slice pda pdn pdc,.slice poa pon poc] 33)).cell? ⟨xb,3,none⟩=some (.slice pda pdn pdc):=cLo hxb 3;have ya4:(w6.drew.alloc (.cells #[.int .i64 pa,.int .i64 ps,.int .i64 pt,.slice pda pdn pdc,.slice poa pon poc] 33)).cell? ⟨xb,4,none⟩=some (.slice poa pon poc):=cLo hxb 4;obtain⟨yb0,yb1,yb2,yb3,yb4,-⟩:=cLs hxb9;clear b9 R9 row9 gr9 hv9 hgn hgb hxb hxb9;go_upto_region 42 with fail
             refine wp_region_noPanic ?_;refine early_begin (S:=fun W=>W.cell? ⟨g,0,none⟩=some (.slice ma mn mc)∧W.cell? ⟨xb,0,none⟩=some (.int .i64 pa)∧W.cell? ⟨xb,1,none⟩=some (.int .i64 ps)∧W.cell? ⟨xb,2,none⟩=some (.int .i64 pt)∧W.cell? ⟨xb,3,none⟩=some (.slice pda pdn pdc)∧W.cell? ⟨xb,4,none⟩=some (.slice poa pon poc)) (late:=fun k=>decide (8≤k)) (by kernel_rfl) ?_;refine early_take (i:=0) (oi:={dst:=some 166,op:=Op.move (Operand.tmp 0),type:=66,pos := "book.go:252",after:=#[],guard:=none}) (v:=?_) rfl (by kernel_rfl) (by kernel_rfl) (by kernel_rfl) (by decide) (by kernel_rfl) (fun _ _ _ h=>h) (Or.inl ⟨by rfl,?_⟩) ⟨kf,y0,y1,y2,y3,y4⟩ ?_
             rotate_left
             ·intro wz hSw;(try dsimp only at hSw);go_simp;try with_reducible rfl
             try simp only[Act.put,nm]
             refine early_take (i:=1) (oi:={dst:=some 167,op:=Op.move (Operand.tmp 0),type:=66,pos := "book.go:252",after:=#[],guard:=none}) (v:=?_) rfl (by kernel_rfl) (by kernel_rfl) (by kernel_rfl) (by decide) (by kernel_rfl) (fun _ _ _ h=>h) (Or.inl ⟨by rfl,?_⟩) ⟨kf,y0,y1,y2,y3,y4⟩ ?_
             rotate_left
             ·intro wz hSw;(try dsimp only at hSw);go_simp;try with_reducible rfl
             try simp only[Act.put,nm]
             refine early_take (i:=2) (oi:={dst:=some 168,op:=Op.nilCheck (Operand.tmp 167),type:=0,pos := "book.go:252",after:=#[aD 1],guard:=none}) (v:=?_) rfl (by kernel_rfl) (by kernel_rfl) (by kernel_rfl) (by decide) (by kernel_rfl) (fun _ _ _ h=>h) (Or.inl ⟨by rfl,?_⟩) ⟨kf,y0,y1,y2,y3,y4⟩ ?_
             rotate_left
             ·intro wz hSw;(try dsimp only at hSw);go_simp;try with_reducible rfl
             try simp only[Act.put,nm]
             refine early_take (i:=3) (oi:={dst:=some 169,op:=Op.fieldAddr 73 (Operand.tmp 168) 0,type:=0,pos := "book.go:252",after:=#[aD 2],guard:=none}) (v:=?_) rfl (by kernel_rfl) (by kernel_rfl) (by kernel_rfl) (by decide) (by kernel_rfl) (fun _ _ _ h=>h) (Or.inl ⟨by rfl,?_⟩) ⟨kf,y0,y1,y2,y3,y4⟩ ?_
             rotate_left
             ·intro wz hSw;(try dsimp only at hSw);go_simp;try with_reducible rfl
             try simp only[Act.put,nm]
             refine early_take (i:=4) (oi:={dst:=some 170,op:=Op.load 23 (Operand.tmp 169),type:=23,pos := "book.go:252",after:=#[aD 3],guard:=none}) (v:=?_) rfl (by kernel_rfl) (by kernel_rfl) (by kernel_rfl) (by decide) (by kernel_rfl) (fun _ _ _ h=>h) (Or.inl ⟨by rfl,?_⟩) ⟨kf,y0,y1,y2,y3,y4⟩ ?_
             rotate_left
             ·intro wz hSw;(try dsimp only at hSw);go_simp;try with_reducible rfl
             try simp only[Act.put,nm]
             refine early_take (i:=5) (oi:={dst:=some 171,op:=Op.load 33 (Operand.tmp 13),type:=33,pos := "book.go:252",after:=#[],guard:=none}) (v:=?_) rfl (by kernel_rfl) (by kernel_rfl) (by kernel_rfl) (by decide) (by kernel_rfl) (fun _ _ _ h=>h) (Or.inl ⟨by rfl,?_⟩) ⟨kf,y0,y1,y2,y3,y4⟩ ?_
             rotate_left
             ·intro wz hSw;(try dsimp only at hSw);go_simp;try with_reducible rfl
             try simp only[Act.put,nm]
             refine early_step (i:=6) (o:={dst:=some 172,op:=Op.buildSlice 23 1 #[(0,Operand.tmp 171)],type:=23,pos := "book.go:252",after:=#[aD 5],guard:=none}) (by kernel_rfl) rfl (fun K hK=>?_);go_simp;refine hK.out _ _ (fun _=>⟨kf',ya0,ya1,ya2,ya3,ya4⟩) ?_;clear hK K;try simp only[Act.put,nm]
             refine early_step (i:=7) (o:={dst:=some 173,op:=Op.call {callee:=Callee.builtin Builtin.append,args:=#[Operand.tmp 170,Operand.tmp 172],argTypes:=#[23,23]},type:=23,pos := "book.go:252",after:=#[aD 4,aD 6],guard:=none}) (by kernel_rfl) rfl (fun K hK=>?_);refine step_append_known rfl (.tmp 170) (.tmp 172) 23 rfl (.slice ma mn mc) (.slice (some ⟨w6.drew.heap.size,0,none⟩) 1 1) (.slice va9 vn9 vc9) U9 (by simp[Act.eval]) (by simp[Act.eval]) happ ?_;refine hK.out _ _ (fun _=>⟨kf'',yb0,yb1,yb2,yb3,yb4⟩) ?_;clear hK K;try simp only[Act.put,nm]
             refine early_step (i:=8) (o:={dst:=some 174,op:=Op.nilCheck (Operand.tmp 166),type:=0,pos := "book.go:252",after:=#[aD 0,aP 0,aP 1,aP 2,aP 3,aP 4,aP 5,aP 6,aP 7],guard:=none}) (by kernel_rfl) rfl (fun K hK=>?_);go_simp;refine hK.out _ _ (fun h=>absurd h (by decide)) ?_;clear hK K;try simp only[Act.put,nm]
             refine early_step (i:=9) (o:={dst:=some 175,op:=Op.fieldAddr 73 (Operand.tmp 174) 0,type:=0,pos := "book.go:252",after:=#[aD 8,aP 0,aP 1,aP 2,aP 3,aP 4,aP 5,aP 6,aP 7],guard:=none}) (by kernel_rfl) rfl (fun K hK=>?_);go_simp;refine hK.out _ _ (fun h=>absurd h (by decide)) ?_;clear hK K;try simp only[Act.put,nm]
             refine early_step (i:=10) (o:={dst:=none,op:=Op.store 23 (Operand.tmp 175) (Operand.tmp 173),type:=0,pos := "book.go:252",after:=#[aD 9,aD 7,aC 7,aP 0,aP 1,aP 2,aP 3,aP 4,aP 5,aP 6,aP 7],guard:=none}) (by kernel_rfl) rfl (fun K hK=>?_);go_simp;refine hK.out _ _ (fun h=>absurd h (by decide)) ?_;clear hK K;try simp only[Act.put,nm]
             refine early_done (by kernel_rfl) ?_ _;refine NoPanic.normal ?_;clear happ kf kf' kf'' qf gg9 y0 y1 y2 y3 y4 ya0 ya1 ya2 ya3 ya4 yb0 yb1 yb2 yb3 yb4;have HK9:Hid ((∃vl' vw',RB S T w0 g (EL1++[(p.1,(.agg #[.int .i64 pa,.int .i64 ps,.int .i64 pt,.slice pda pdn pdc,.slice poa pon poc]))]) EV vl' vw' (U9.setCell ⟨g,0,none⟩ (.slice va9 vn9 vc9)))∧KpS S w (U9.setCell ⟨g,0,none⟩ (.slice va9 vn9 vc9))):=⟨⟨_,_,RN.out.1⟩,(HK6.out.trans (KpS.of (((Below.refl w6.heap.size w6).drew).alloc lRf _))).trans RN.out.2⟩
             clear RN;generalize U9.setCell ⟨g,0,none⟩ (.slice va9 vn9 vc9)=w9 at *;have e8:chgsOf (EL1++[(p.1,(.agg #[.int .i64 pa,.int .i64 ps,.int .i64 pt,.slice pda pdn pdc,.slice poa pon poc]))])=chgsOf EL1++[p.1]:=by unfold chgsOf;simp
             have HE8:Hid (chgsOf (EL1++[(p.1,(.agg #[.int .i64 pa,.int .i64 ps,.int .i64 pt,.slice pda pdn pdc,.slice poa pon poc]))])=chgsOf EL1++[p.1]):=e8;clear e8;go_wp2;go_roundg (go - 1)
             case measure=>have:=hgo.out;have:=HEV.out.2;have:=HG.out.2.2.2.2;omega
             case rel=>
              obtain⟨⟨vl',vw',h1⟩,h2⟩:=HK9.out;exact⟨_,EV,vl',vw',n+1,by have:=hgo.out;have:=HEV.out.2;have:=HG.out.2.2.2.2;omega,h1,by rw[HE8.out];exact HG.out.2.1.step HST9.out,h2,_,_,HG.out.2.2.2.1,by rw[HE8.out];exact HST9.out⟩
   ·obtain⟨k9,rfl,hk9,hkr,hkq⟩:∃k:Nat,x9=k∧∃h:k<(chgsOf EW).length,(chgsOf EW)[k].ref=(ca,cs)∧∀j (_:j<k),(chgsOf EW)[j].ref≠(ca,cs):=by
     rcases HF2.out with⟨e,_⟩ | h
     ·exact absurd hneg (by rw[e];omega)
     ·exact h
    have hk8:k9<EW.length:=by unfold chgsOf at hk9;rw[List.length_map] at hk9;exact hk9
    have hk7:k9<(EW.map toCX).length:=by rw[List.length_map];exact hk8
    obtain⟨a7,c7,e7,_,_,hIn,h47⟩:=HA.out.1.isW HFEW.out;obtain⟨cb,co,ha7,h57,h67⟩:=h47 (fun e=>by rw[e] at hk7;simp at hk7);have hla:ka=some ⟨cb,co,none⟩:=(Value.slice.inj e7).1.trans ha7;obtain⟨p,hp⟩:=gNz (EW[k9]:CE);have hpm:p∈EW:=by rw[←hp];exact List.getElem_mem hk8
    have hpw:=HA.out.1.chgs p (List.mem_append_right _ hpm);have hpc:=HCH.out p (List.mem_append_right _ hpm);obtain⟨pud,puo,plo,hpv,_,⟨pda,pdc,rfl,_⟩,⟨poa,poc,rfl,_⟩,_⟩:=(hpw.kp HA.out.1.belT).chgW;obtain⟨pa,hpa⟩:=gNz (p.1.actor:Int);obtain⟨ps,hps⟩:=gNz (p.1.seq:Int);obtain⟨pt,hpt⟩:=gNz (p.1.start:Int);obtain⟨pdn,hpdn⟩:=gNz (p.1.deps.length:Nat);obtain⟨pon,hpon⟩:=gNz (plo.length:Nat);rw[hpa,hps,hpt,hpdn,hpon] at hpv;have hcell:∀j,j<5→w5.cell? ⟨cb,co+k9*5+j,none⟩=(vcells p.2)[j]?:=fun j hj=>by
     rw[HBw5.out.1.cell (p:=⟨cb,co+k9*5+j,none⟩) h57,h67 k9 hk7 j hj];rw[List.getElem_map,hp,(toCX_val hpw.chg).2.2.2]
    rw[hpv] at hcell;have x0:w5.cell? ⟨cb,co+k9*5,none⟩=some (.int .i64 pa):=hcell 0 (by omega);have x1:w5.cell? ⟨cb,co+k9*5+1,none⟩=some (.int .i64 ps):=hcell 1 (by omega);have x2:w5.cell? ⟨cb,co+k9*5+2,none⟩=some (.int .i64 pt):=hcell 2 (by omega);have x3:w5.cell? ⟨cb,co+k9*5+3,none⟩=some (.slice pda pdn pdc):=hcell 3 (by omega);have x4:w5.cell? ⟨cb,co+k9*5+4,none⟩=some (.slice poa pon poc):=hcell 4 (by omega);have HOLD:Hid (p.1.ref=c.ref∧p∈EW):=⟨by
     rw[chgs_at,hp] at hkr;rw[hkr,HCR.out],hpm⟩
    have ES:=rSame_any _ _ p.1 c w5.drew ((hpw.kp HA.out.1.belT).chg.below (drew_of HBw5.out.1)) ((HA.out.2.2.kp HA.out.1.belT).chg.below (drew_of HBw5.out.1)) hpc HC0.out;rw[hpv,HVF.out] at ES;obtain⟨sb,hsb⟩:=gNz (decide (encC p.1=encC c):Bool);rw[hsb] at ES;have HSB:Hid (decide (encC p.1=encC c)=sb):=hsb;have g1:(k9:Int)<kn:=by have:=HLN.out.2;omega
    have g2:(0:Int)≤k9:=by omega
    clear hkq hkr hk9 hk8 hk7 e7 hIn h47 ha7 h57 h67 hp hpm hpw hpc hpv hpa hps hpt hpdn hpon hcell hsb k0 k1 zg hneg;subst hla;go_upto_region 12 with fail
    refine rNh (fun W=>W.cell? ⟨cb,co+k9*5,none⟩=some (.int .i64 pa)∧W.cell? ⟨cb,co+k9*5+1,none⟩=some (.int .i64 ps)∧W.cell? ⟨cb,co+k9*5+2,none⟩=some (.int .i64 pt)∧W.cell? ⟨cb,co+k9*5+3,none⟩=some (.slice pda pdn pdc)∧W.cell? ⟨cb,co+k9*5+4,none⟩=some (.slice poa pon poc)∧W.cell? ⟨w.heap.size,0,none⟩=some (.int .i64 ca)∧W.cell? ⟨w.heap.size,1,none⟩=some (.int .i64 cs)∧W.cell? ⟨w.heap.size,2,none⟩=some (.int .i64 ct)∧W.cell? ⟨w.heap.size,3,none⟩=some (.slice da dn dc)∧W.cell? ⟨w.heap.size,4,none⟩=some (.slice oa on oc)) (⟨x0,x1,x2,x3,x4,z0,z1,z2,z3,z4⟩) (fun hHeld=>?_);refine tk 0 rfl ?_;refine tk 1 rfl ?_;refine tk 2 rfl ?_;refine tk 3 rfl ?_;refine tk 4 rfl ?_;refine wpAnyH_ready (rs:=[5]) (by kernel_rfl) (by simp) (AllReadyH.cons (o:={dst:=some 45,op:=Op.call {callee:=Callee.value (Operand.func 65),args:=#[Operand.tmp 43,Operand.tmp 44],argTypes:=#[33,33]},type:=4,pos := "book.go:214",after:=#[aD 3,aD 4],guard:=none}) rfl (fun K hK=>?_) AllReadyH.nil);go_simp;go_at_call 65;refine Calls.mono ES ?_;rintro e w5 ⟨rfl,b5⟩;go_wp2_with fail;refine hK.out _ _ (keep10 (by assumption) b5) (fun hHeld5=>?_);clear hK K;try simp only[Act.put,nm]
    refine tk 6 rfl ?_;refine wDn ?_;have HB5:Hid (Below w.heap.size w w5):=(drew_of HBw5.out.1).trans (b5.mono HBw5.out.1.size);clear hHeld hHeld5 ES b5 x0 x1 x2 x3 x4 z0 z1 z2 z3 z4 g1 g2;have HIO:Hid (c.ref∈refsOf (chgsOf EL)∨c.ref∈refsOf (chgsOf EW)):=by
     obtain⟨h1,h2⟩:=HOLD.out;exact Or.inr (mem_refs.2 ⟨p.1,mem_chgs.2 ⟨p,h2,rfl⟩,h1⟩)
    cases sb with
    | false=>
     have HE:Hid (RTakeP S T w0 w g EL EW c 8 w5):=HST.out HB5.out (rtake_old HC0.out HIO.out (Or.inr rfl) (fun hm=>by
      exfalso;have hq:p.1=c:=old_same HA.out.2.1 HOLD.out.1 (Or.inr (mem_chgs.2 ⟨p,HOLD.out.2,rfl⟩)) hm;have:=of_decide_eq_false HSB.out;rw[hq] at this;exact this rfl))
     clear HSB HOLD;go_wp2;go_ret;exact⟨_,rfl,HE.out⟩
    | true=>
     have HE:Hid (RTakeP S T w0 w g EL EW c 0 w5):=HST.out HB5.out (rtake_old HC0.out HIO.out (Or.inl rfl) (fun _=>rfl));clear HSB HOLD;go_wp2;go_ret;exact⟨_,rfl,HE.out⟩
  ·obtain⟨k9,rfl,hk9,hkr,hkq⟩:∃k:Nat,x9=k∧∃h:k<(chgsOf EL).length,(chgsOf EL)[k].ref=(ca,cs)∧∀j (_:j<k),(chgsOf EL)[j].ref≠(ca,cs):=by
    rcases HF1.out with⟨e,_⟩ | h
    ·exact absurd hneg (by rw[e];omega)
    ·exact h
   have hk8:k9<EL.length:=by unfold chgsOf at hk9;rw[List.length_map] at hk9;exact hk9
   have hk7:k9<(EL.map toCX).length:=by rw[List.length_map];exact hk8
   obtain⟨a7,c7,e7,_,_,hIn,h47⟩:=HA.out.1.isL HFEW.out;obtain⟨cb,co,ha7,h57,h67⟩:=h47 (fun e=>by rw[e] at hk7;simp at hk7);have hla:la=some ⟨cb,co,none⟩:=(Value.slice.inj e7).1.trans ha7;obtain⟨p,hp⟩:=gNz (EL[k9]:CE);have hpm:p∈EL:=by rw[←hp];exact List.getElem_mem hk8
   have hpw:=HA.out.1.chgs p (List.mem_append_left _ hpm);have hpc:=HCH.out p (List.mem_append_left _ hpm);obtain⟨pud,puo,plo,hpv,_,⟨pda,pdc,rfl,_⟩,⟨poa,poc,rfl,_⟩,_⟩:=(hpw.kp HA.out.1.belT).chgW;obtain⟨pa,hpa⟩:=gNz (p.1.actor:Int);obtain⟨ps,hps⟩:=gNz (p.1.seq:Int);obtain⟨pt,hpt⟩:=gNz (p.1.start:Int);obtain⟨pdn,hpdn⟩:=gNz (p.1.deps.length:Nat);obtain⟨pon,hpon⟩:=gNz (plo.length:Nat);rw[hpa,hps,hpt,hpdn,hpon] at hpv;have hcell:∀j,j<5→w3.cell? ⟨cb,co+k9*5+j,none⟩=(vcells p.2)[j]?:=fun j hj=>by
    rw[HBw3.out.1.cell (p:=⟨cb,co+k9*5+j,none⟩) h57,h67 k9 hk7 j hj];rw[List.getElem_map,hp,(toCX_val hpw.chg).2.2.2]
   rw[hpv] at hcell;have x0:w3.cell? ⟨cb,co+k9*5,none⟩=some (.int .i64 pa):=hcell 0 (by omega);have x1:w3.cell? ⟨cb,co+k9*5+1,none⟩=some (.int .i64 ps):=hcell 1 (by omega);have x2:w3.cell? ⟨cb,co+k9*5+2,none⟩=some (.int .i64 pt):=hcell 2 (by omega);have x3:w3.cell? ⟨cb,co+k9*5+3,none⟩=some (.slice pda pdn pdc):=hcell 3 (by omega);have x4:w3.cell? ⟨cb,co+k9*5+4,none⟩=some (.slice poa pon poc):=hcell 4 (by omega);have HOLD:Hid (p.1.ref=c.ref∧p∈EL):=⟨by
    rw[chgs_at,hp] at hkr;rw[hkr,HCR.out],hpm⟩
   have ES:=rSame_any _ _ p.1 c w3.drew ((hpw.kp HA.out.1.belT).chg.below (drew_of HBw3.out.1)) ((HA.out.2.2.kp HA.out.1.belT).chg.below (drew_of HBw3.out.1)) hpc HC0.out;rw[hpv,HVF.out] at ES;obtain⟨sb,hsb⟩:=gNz (decide (encC p.1=encC c):Bool);rw[hsb] at ES;have HSB:Hid (decide (encC p.1=encC c)=sb):=hsb;have g1:(k9:Int)<ln:=by have:=HLN.out.1;omega
   have g2:(0:Int)≤k9:=by omega
   clear hkq hkr hk9 hk8 hk7 e7 hIn h47 ha7 h57 h67 hp hpm hpw hpc hpv hpa hps hpt hpdn hpon hcell hsb k0 k1 zg hneg;subst hla;go_upto_region 12 with fail
   refine rNh (fun W=>W.cell? ⟨cb,co+k9*5,none⟩=some (.int .i64 pa)∧W.cell? ⟨cb,co+k9*5+1,none⟩=some (.int .i64 ps)∧W.cell? ⟨cb,co+k9*5+2,none⟩=some (.int .i64 pt)∧W.cell? ⟨cb,co+k9*5+3,none⟩=some (.slice pda pdn pdc)∧W.cell? ⟨cb,co+k9*5+4,none⟩=some (.slice poa pon poc)∧W.cell? ⟨w.heap.size,0,none⟩=some (.int .i64 ca)∧W.cell? ⟨w.heap.size,1,none⟩=some (.int .i64 cs)∧W.cell? ⟨w.heap.size,2,none⟩=some (.int .i64 ct)∧W.cell? ⟨w.heap.size,3,none⟩=some (.slice da dn dc)∧W.cell? ⟨w.heap.size,4,none⟩=some (.slice oa on oc)) (⟨x0,x1,x2,x3,x4,z0,z1,z2,z3,z4⟩) (fun hHeld=>?_);refine tk 0 rfl ?_;refine tk 1 rfl ?_;refine tk 2 rfl ?_;refine tk 3 rfl ?_;refine tk 4 rfl ?_;refine wpAnyH_ready (rs:=[5]) (by kernel_rfl) (by simp) (AllReadyH.cons (o:={dst:=some 45,op:=Op.call {callee:=Callee.value (Operand.func 65),args:=#[Operand.tmp 43,Operand.tmp 44],argTypes:=#[33,33]},type:=4,pos := "book.go:214",after:=#[aD 3,aD 4],guard:=none}) rfl (fun K hK=>?_) AllReadyH.nil);go_simp;go_at_call 65;refine Calls.mono ES ?_;rintro e w5 ⟨rfl,b5⟩;go_wp2_with fail;refine hK.out _ _ (keep10 (by assumption) b5) (fun hHeld5=>?_);clear hK K;try simp only[Act.put,nm]
   refine tk 6 rfl ?_;refine wDn ?_;have HB5:Hid (Below w.heap.size w w5):=(drew_of HBw3.out.1).trans (b5.mono HBw3.out.1.size);clear hHeld hHeld5 ES b5 x0 x1 x2 x3 x4 z0 z1 z2 z3 z4 g1 g2;have HIO:Hid (c.ref∈refsOf (chgsOf EL)∨c.ref∈refsOf (chgsOf EW)):=by
    obtain⟨h1,h2⟩:=HOLD.out;exact Or.inl (mem_refs.2 ⟨p.1,mem_chgs.2 ⟨p,h2,rfl⟩,h1⟩)
   cases sb with
   | false=>
    have HE:Hid (RTakeP S T w0 w g EL EW c 8 w5):=HST.out HB5.out (rtake_old HC0.out HIO.out (Or.inr rfl) (fun hm=>by
     exfalso;have hq:p.1=c:=old_same HA.out.2.1 HOLD.out.1 (Or.inl (mem_chgs.2 ⟨p,HOLD.out.2,rfl⟩)) hm;have:=of_decide_eq_false HSB.out;rw[hq] at this;exact this rfl))
    clear HSB HOLD;go_wp2;go_ret;exact⟨_,rfl,HE.out⟩
   | true=>
    have HE:Hid (RTakeP S T w0 w g EL EW c 0 w5):=HST.out HB5.out (rtake_old HC0.out HIO.out (Or.inl rfl) (fun _=>rfl));clear HSB HOLD;go_wp2;go_ret;exact⟨_,rfl,HE.out⟩
 ·have hx0:¬x=0:=fun e=>h0 (hx.1 e);have jx:(x !=0)=true:=by simpa using hx0
  have HE:Hid (RTakeP S T w0 w g EL EW c x w1):=HST.out HBw1.out.1 (rtake_bad h0 hx0);clear hx h0 hx0;go_wp2;go_ret;exact⟨_,rfl,HE.out⟩
end Go.Proofs.YtamhlgflbacjgaaGreat
