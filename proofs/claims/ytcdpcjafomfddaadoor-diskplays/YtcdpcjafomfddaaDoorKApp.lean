/-
  What is proved: what a disk's Append and Sync do.
  Conditions: as each theorem says.
-/
import Derived.Test.YtcdpcjafomfddaaDoorKMake
namespace Go.Proofs.YtcdpcjafomfddaaDoor
open Go.RowKit Go.Maps

theorem row_form {v : Value} {l : Tx} {w : World} (h : Row 0 v l w) : ∃ a c, v = .slice a l.length c := by
  rcases h.2 with ⟨rfl, h0⟩ | ⟨g, cap, cur, rfl, _⟩
  · exact ⟨none, 0, by rw [h0]⟩
  · exact ⟨_, _, rfl⟩

theorem opG_of {F : List (Tx × Nat)} {st n : Int} {s : Tx} (h : opE F st n s = 0) : ∃ g, opG F st n s = some g ∧ fk F s = some g := by
  unfold opE at h
  unfold opG
  by_cases hr : rdy st n [s] = 0
  · rw [if_pos hr] at h
    cases hg : fk F s with
    | none => rw [hg] at h; simp at h
    | some g => exact ⟨g, by rw [if_pos hr], rfl⟩
  · rw [if_neg hr] at h; exact absurd h hr

theorem opG_no {F : List (Tx × Nat)} {st n : Int} {s : Tx} (h : opE F st n s ≠ 0) : opG F st n s = none := by
  unfold opE at h
  unfold opG
  by_cases hr : rdy st n [s] = 0
  · rw [if_pos hr] at h ⊢
    cases hg : fk F s with
    | none => rfl
    | some g => rw [hg] at h; simp at h
  · rw [if_neg hr]

/-- An append whose run is known. -/
theorem app_known {w w' : World} {ops : Array Oper} {rest : List Oper} {o : Oper} {a : Act} {Q : Exit → Act → World → Prop} (hgd : o.guard = none) (s x : Operand) (t : TypeId) (ho : o.op = .call { callee := .builtin .append, args := #[s, x], argTypes := #[t, t] })
    (v u r : Value) (hs : a.eval s = v) (hx : a.eval x = u) (hrun : (Builtin.append_ #[t, t] o.type #[v, u]).run Tryd.prog w = .ok r w') (h : wpList Tryd.prog ops Q rest (a.put o.dst r) w') : wpList Tryd.prog ops Q (o :: rest) a w := by
  refine wpList_plain hgd fun K hK => ?_
  unfold Oper.wp
  simp [execOp, ho, resolve, invoke, builtin, hs, hx, hrun, Result.andThen]
  exact hK _ _ h

/-- Bytes as an argument. -/
def ArgB (w : World) (v : Value) (l : Tx) : Prop := IsBytes w v l ∧ (v = .slice none 0 0 ∨ ∃ ad n c, v = .slice (some ad) n c)

theorem ArgB.form {w : World} {v : Value} {l : Tx} (h : ArgB w v l) : ∃ a c, v = .slice a l.length c := by
  obtain ⟨a, c, e, _⟩ := h.1
  exact ⟨a, c, e⟩

set_option maxRecDepth 100000 in
set_option maxHeartbeats 2000000 in
theorem append_no {S : Nat → Prop} {p fb sb : Nat} {F Z : List (Tx × Nat)} {n st : Int} {G : List Fi} (s : Tx) (v : Value) (w : World) (hd : Dk S w p fb sb F Z n st G) (hs : T64 s) (hE : opE F st n s ≠ 0) :
    Calls Tryd.prog 15 #[ptrV p, txV s, v] w fun e w' => e = .returned (errV (opE F st n s)) ∧ Below w.heap.size w w' := by
  have O := open_any s w hd hs
  have he : errV (opE F st n s) = .iface 66 (.int .i64 (opE F st n s)) := by unfold errV; rw [if_neg hE]
  rw [opG_no hE, he] at O
  rw [he]
  unfold pN ptrV txV at *
  generalize opE F st n s = r at *
  clear hd he hE
  go_enter Tryd.func15, Tryd.ntmps15
  go_wp2_with (go_at_call 32; refine O.mono ?_; rintro e w1 ⟨rfl, hb1⟩; have HB1 : Hid (Below w.heap.size w w1) := hb1; clear hb1)
  go_ret
  exact ⟨rfl, HB1.out⟩

set_option maxRecDepth 100000 in
set_option maxHeartbeats 2000000 in
theorem append_full {S : Nat → Prop} {p fb sb : Nat} {F Z : List (Tx × Nat)} {n st : Int} {G : List Fi} (s : Tx) (v : Value) (l : Tx) (w : World) (hd : Dk S w p fb sb F Z n st G) (hs : T64 s) (hE : opE F st n s = 0) (hv : ArgB w v l) (x : Fi) (hx : x ∈ G) (hg : fk F s = some x.g) (hl : 60000 < x.bs.length + l.length) :
    Calls Tryd.prog 15 #[ptrV p, txV s, v] w fun e w' => e = .returned (errV 4) ∧ Below w.heap.size w w' := by
  have O := open_any s w hd hs
  obtain ⟨g, h1, h2⟩ := opG_of hE
  rw [hg] at h2
  obtain rfl := Option.some.inj h2
  rw [h1, hE] at O
  obtain ⟨a, c, rfl⟩ := hv.form
  have fx := hd.fi x hx
  obtain ⟨a2, c2, e2⟩ := row_form fx.row
  have HC : Hid (∀ w', Below w.heap.size w w' → w'.cell? ⟨x.g, 0, none⟩ = some (.slice a2 x.bs.length c2)) := fun w' hb => by
    have := ((hd.below hb).fi x hx).box
    rw [e2] at this
    exact Lib.cell_of_heap this 0
  have g1 : (60000 : Int) - (x.bs.length : Int) < (l.length : Int) := by omega
  have g2 : (0 : Int) ≤ (x.bs.length : Int) := by omega
  have g3 : (x.bs.length : Int) ≤ 60000 := by have := fx.max; omega
  simp only [errV, if_true] at O
  unfold pN ptrV txV at *
  generalize x.bs.length = k at *
  generalize l.length = m at *
  generalize x.g = g at *
  clear hd hE hv fx hl hx hg e2 h1 h2
  go_enter Tryd.func15, Tryd.ntmps15
  go_wp2_with (go_at_call 32; refine O.mono ?_; rintro e w1 ⟨rfl, hb1⟩; have C1 := HC.out w1 hb1; have HB1 : Hid (Below w.heap.size w w1) := hb1; clear hb1)
  go_ret
  exact ⟨rfl, HB1.out⟩

def AppP (S : Nat → Prop) (w : World) (p fb sb : Nat) (F Z : List (Tx × Nat)) (n st : Int) (G : List Fi) (x : Fi) (l : Tx) (e : Ending) (w' : World) : Prop :=
  e = .returned .nilIface ∧ Kp S w w' ∧ ∃ v', Dk S w' p fb sb F Z (n + 1) st (upd G ⟨x.g, v', x.bs ++ l, x.sf⟩)

theorem app_file {S : Nat → Prop} {p fb sb : Nat} {F Z : List (Tx × Nat)} {n st : Int} {G : List Fi} (v : Value) (l : Tx) (w : World) (hS : ∀ k, w.heap.size ≤ k → S k) (hd : Dk S w p fb sb F Z n st G) (hv : ArgB w v l) (x : Fi) (hx : x ∈ G) (hl : x.bs.length + l.length ≤ 60000) :
    ∃ v' w2, (Builtin.append_ #[23, 23] 23 #[x.v, v]).run Tryd.prog w = .ok v' w2 ∧ w2.heap[x.g]? = some (.cells #[x.v, .int .i64 x.sf] 71) ∧ (∃ a c, v' = .slice a (x.bs.length + l.length) c) ∧
      Dk S (w2.setCell ⟨x.g, 0, none⟩ v') p fb sb F Z n st (upd G ⟨x.g, v', x.bs ++ l, x.sf⟩) ∧ Kp S w (w2.setCell ⟨x.g, 0, none⟩ v') := by
  have fx := hd.fi x hx
  obtain ⟨v', w2, q1, q2, q3, q4⟩ := run_appB 23 w x.v v x.bs l fx.row hv.1 hv.2 (by omega)
  have hne : some x.g ≠ x.v.ownBlock := fun e => by
    obtain ⟨_, e2⟩ := own_block fx.row e.symm
    exact cells_ne fx.box e2 (by decide) rfl
  have hb : w2.heap[x.g]? = some (.cells #[x.v, .int .i64 x.sf] 71) := (q3.block _ fx.lt hne).trans fx.box
  have hvn : v'.ownBlock ≠ some x.g := fun e => by
    obtain ⟨_, e2⟩ := own_block q2 e
    exact cells_ne hb e2 (by decide) rfl
  have hsv : ∀ b, v'.ownBlock = some b → S b := fun b e => by
    rcases q4 with h | h
    · exact fx.sv b (h.symm.trans e)
    · rw [e] at h; exact hS b (by rw [Option.some.inj h]; exact Nat.le_refl _)
  refine ⟨v', w2, q1, hb, ?_, ?_, ?_⟩
  · obtain ⟨a, c, e⟩ := row_form q2
    exact ⟨a, c, by rw [e, List.length_append]⟩
  · refine hd.refile (x := x) hx rfl (fun k hk h1 h2 => ?_) ⟨?_, ?_, ?_, ?_, fx.sg, hsv⟩ (fun b e => ?_)
    · rw [Below.heap_setCell _ _ _ _ h1, q3.block k hk (fun e => h2 e.symm)]
    · rw [heap_setCell_same w2 x.g 0 _ _ _ hb]; rfl
    · exact own_at q2 (fun b e => Below.heap_setCell _ _ _ _ (fun e1 => hvn (by rw [e, e1])))
    · have := fx.le; rw [List.length_append]; show x.sf ≤ _; omega
    · rw [List.length_append]; exact hl
    · rcases q4 with h | h
      · exact Or.inl (h.symm.trans e)
      · refine Or.inr ?_; have e' : v'.ownBlock = some b := e; rw [e'] at h; rw [Option.some.inj h]; exact Nat.le_refl _
  · exact ((Kp.refl S w).grown q3 (fun k e => fx.sv k e)).set 0 _ fx.sg

set_option maxRecDepth 100000 in
set_option maxHeartbeats 2000000 in
theorem append_yes {S : Nat → Prop} {p fb sb : Nat} {F Z : List (Tx × Nat)} {n st : Int} {G : List Fi} (s : Tx) (v : Value) (l : Tx) (w : World) (hS : ∀ k, w.heap.size ≤ k → S k) (hd : Dk S w p fb sb F Z n st G) (hs : T64 s) (hn : 0 ≤ n ∧ n < 1000000) (hE : opE F st n s = 0) (hv : ArgB w v l) (x : Fi) (hx : x ∈ G) (hg : fk F s = some x.g) (hl : x.bs.length + l.length ≤ 60000) :
    Calls Tryd.prog 15 #[ptrV p, txV s, v] w fun e w' => AppP S w p fb sb F Z n st G x l e w' := by
  have O := open_any s w hd hs
  obtain ⟨g, h1, h2⟩ := opG_of hE
  rw [hg] at h2
  obtain rfl := Option.some.inj h2
  rw [h1, hE] at O
  obtain ⟨a, c, rfl⟩ := hv.form
  have fx := hd.fi x hx
  obtain ⟨a2, c2, e2⟩ := row_form fx.row
  have HC : Hid (∀ w', Below w.heap.size w w' → ∃ a3 c3 w2, w'.cell? ⟨x.g, 0, none⟩ = some (.slice a2 x.bs.length c2) ∧ (Builtin.append_ #[23, 23] 23 #[.slice a2 x.bs.length c2, .slice a l.length c]).run Tryd.prog w' = .ok (.slice a3 (x.bs.length + l.length) c3) w2 ∧
      w2.cell? ⟨x.g, 0, none⟩ = some (.slice a2 x.bs.length c2) ∧ w2.frozen? ⟨x.g, 0, none⟩ = false ∧ Dk S (w2.setCell ⟨x.g, 0, none⟩ (.slice a3 (x.bs.length + l.length) c3)) p fb sb F Z n st (upd G ⟨x.g, .slice a3 (x.bs.length + l.length) c3, x.bs ++ l, x.sf⟩) ∧ Kp S w (w2.setCell ⟨x.g, 0, none⟩ (.slice a3 (x.bs.length + l.length) c3))) := fun w' hb => by
    have d1 := hd.below hb
    obtain ⟨v', w2, q1, q2, ⟨a3, c3, rfl⟩, q4, q5⟩ := app_file (.slice a l.length c) l w' (fun k hk => hS k (Nat.le_trans hb.size hk)) d1 ⟨hv.1.below hb, hv.2⟩ x hx hl
    have f1 := (d1.fi x hx).box
    rw [e2] at f1 q1 q2
    exact ⟨a3, c3, w2, Lib.cell_of_heap f1 0, q1, Lib.cell_of_heap q2 0, Lib.frozen_of_heap q2 0, q4, (Kp.of hb).trans q5⟩
  have g1 : ¬ (60000 : Int) - (x.bs.length : Int) < (l.length : Int) := by omega
  have g2 : (0 : Int) ≤ (x.bs.length : Int) := by omega
  have g3 : (x.bs.length : Int) ≤ 60000 := by have := fx.max; omega
  obtain ⟨n0, n1⟩ := hn
  simp only [errV, if_true] at O
  unfold pN ptrV txV at *
  obtain ⟨post, hpost⟩ : ∃ post, post = fun e w' => AppP S w p fb sb F Z n st G x l e w' := ⟨_, rfl⟩
  rw [← hpost]
  have HPO : Hid (post = _) := hpost
  clear hpost
  clear hd hE hv fx hl hx hg e2 h1 h2
  generalize hk : x.bs.length = k at *
  generalize hm : l.length = m at *
  generalize hgg : x.g = g at *
  clear hk hm
  go_enter Tryd.func15, Tryd.ntmps15
  go_wp2_with (first
    | (at_builtin; refine app_known rfl _ _ 23 rfl _ _ _ rfl rfl A1 ?_)
    | (go_at_call 32; refine O.mono ?_; rintro e w1 ⟨rfl, hb1⟩
       obtain ⟨a3, c3, w2, C1, A1, C2, F2, D2, K2⟩ := HC.out w1 hb1
       have N2 : (w2.setCell ⟨g, 0, none⟩ (.slice a3 (k + m) c3)).cell? ⟨p, 2, none⟩ = some (.int .i64 n) := Lib.cell_of_heap D2.box 2
       have N3 : (w2.setCell ⟨g, 0, none⟩ (.slice a3 (k + m) c3)).frozen? ⟨p, 2, none⟩ = false := Lib.frozen_of_heap D2.box 2
       have HEND : Hid (post (.returned .nilIface) ((w2.setCell ⟨g, 0, none⟩ (.slice a3 (k + m) c3)).setCell ⟨p, 2, none⟩ (.int .i64 (n + 1)))) := by
         rw [HPO.out]
         exact ⟨rfl, K2.set 2 _ D2.sp, _, by rw [hgg]; exact D2.setN _⟩
       clear hb1 D2 K2 HC))
  exact HEND.out

def SyncP (S : Nat → Prop) (w : World) (p fb sb : Nat) (F Z : List (Tx × Nat)) (n st : Int) (G : List Fi) (x : Fi) (e : Ending) (w' : World) : Prop :=
  e = .returned .nilIface ∧ Kp S w w' ∧ Dk S w' p fb sb F Z (n + 1) st (upd G ⟨x.g, x.v, x.bs, x.bs.length⟩)

theorem sync_file {S : Nat → Prop} {p fb sb : Nat} {F Z : List (Tx × Nat)} {n st : Int} {G : List Fi} (w : World) (hd : Dk S w p fb sb F Z n st G) (x : Fi) (hx : x ∈ G) :
    Dk S (w.setCell ⟨x.g, 1, none⟩ (.int .i64 x.bs.length)) p fb sb F Z n st (upd G ⟨x.g, x.v, x.bs, x.bs.length⟩) ∧ Kp S w (w.setCell ⟨x.g, 1, none⟩ (.int .i64 x.bs.length)) := by
  have fx := hd.fi x hx
  refine ⟨hd.refile (x := x) hx rfl (fun k _ h1 _ => Below.heap_setCell _ _ _ _ h1) ⟨?_, ?_, Nat.le_refl _, fx.max, fx.sg, fx.sv⟩ (fun b e => Or.inl e), (Kp.refl S w).set 1 _ fx.sg⟩
  · rw [heap_setCell_same w x.g 1 _ _ _ fx.box]; rfl
  · exact own_at fx.row (fun b e => Below.heap_setCell _ _ _ _ (fun e1 => by
      obtain ⟨_, e2⟩ := own_block fx.row e
      exact cells_ne fx.box e2 (by decide) e1.symm))

set_option maxRecDepth 100000 in
set_option maxHeartbeats 2000000 in
theorem sync_no {S : Nat → Prop} {p fb sb : Nat} {F Z : List (Tx × Nat)} {n st : Int} {G : List Fi} (s : Tx) (w : World) (hd : Dk S w p fb sb F Z n st G) (hs : T64 s) (hE : opE F st n s ≠ 0) :
    Calls Tryd.prog 16 #[ptrV p, txV s] w fun e w' => e = .returned (errV (opE F st n s)) ∧ Below w.heap.size w w' := by
  have O := open_any s w hd hs
  have he : errV (opE F st n s) = .iface 66 (.int .i64 (opE F st n s)) := by unfold errV; rw [if_neg hE]
  rw [opG_no hE, he] at O
  rw [he]
  unfold pN ptrV txV at *
  generalize opE F st n s = r at *
  clear hd he hE
  go_enter Tryd.func16, Tryd.ntmps16
  go_wp2_with (go_at_call 32; refine O.mono ?_; rintro e w1 ⟨rfl, hb1⟩; have HB1 : Hid (Below w.heap.size w w1) := hb1; clear hb1)
  go_ret
  exact ⟨rfl, HB1.out⟩

set_option maxRecDepth 100000 in
set_option maxHeartbeats 2000000 in
theorem sync_yes {S : Nat → Prop} {p fb sb : Nat} {F Z : List (Tx × Nat)} {n st : Int} {G : List Fi} (s : Tx) (w : World) (hd : Dk S w p fb sb F Z n st G) (hs : T64 s) (hn : 0 ≤ n ∧ n < 1000000) (hE : opE F st n s = 0) (x : Fi) (hx : x ∈ G) (hg : fk F s = some x.g) :
    Calls Tryd.prog 16 #[ptrV p, txV s] w fun e w' => SyncP S w p fb sb F Z n st G x e w' := by
  have O := open_any s w hd hs
  obtain ⟨g, h1, h2⟩ := opG_of hE
  rw [hg] at h2
  obtain rfl := Option.some.inj h2
  rw [h1, hE] at O
  have fx := hd.fi x hx
  obtain ⟨a2, c2, e2⟩ := row_form fx.row
  have HC : Hid (∀ w', Below w.heap.size w w' → w'.cell? ⟨x.g, 0, none⟩ = some (.slice a2 x.bs.length c2) ∧ w'.cell? ⟨x.g, 1, none⟩ = some (.int .i64 x.sf) ∧ w'.frozen? ⟨x.g, 1, none⟩ = false ∧
      Dk S (w'.setCell ⟨x.g, 1, none⟩ (.int .i64 x.bs.length)) p fb sb F Z n st (upd G ⟨x.g, x.v, x.bs, x.bs.length⟩) ∧ Kp S w (w'.setCell ⟨x.g, 1, none⟩ (.int .i64 x.bs.length))) := fun w' hb => by
    have d1 := hd.below hb
    obtain ⟨q4, q5⟩ := sync_file w' d1 x hx
    have f1 := (d1.fi x hx).box
    rw [e2] at f1
    exact ⟨Lib.cell_of_heap f1 0, Lib.cell_of_heap f1 1, Lib.frozen_of_heap f1 1, q4, (Kp.of hb).trans q5⟩
  obtain ⟨n0, n1⟩ := hn
  simp only [errV, if_true] at O
  unfold pN ptrV txV at *
  obtain ⟨post, hpost⟩ : ∃ post, post = fun e w' => SyncP S w p fb sb F Z n st G x e w' := ⟨_, rfl⟩
  rw [← hpost]
  have HPO : Hid (post = _) := hpost
  clear hpost
  clear hd hE fx hx hg e2 h1 h2
  generalize hk : x.bs.length = k at *
  generalize hgg : x.g = g at *
  generalize hff : x.sf = f at *
  go_enter Tryd.func16, Tryd.ntmps16
  have HK : Hid (x.bs.length = k ∧ x.g = g) := ⟨hk, hgg⟩
  clear hk hgg hff
  go_wp2_with (go_at_call 32; refine O.mono ?_; rintro e w1 ⟨rfl, hb1⟩
               obtain ⟨C1, C2, F2, D2, K2⟩ := HC.out w1 hb1
               have N2 : (w1.setCell ⟨g, 1, none⟩ (.int .i64 k)).cell? ⟨p, 2, none⟩ = some (.int .i64 n) := Lib.cell_of_heap D2.box 2
               have N3 : (w1.setCell ⟨g, 1, none⟩ (.int .i64 k)).frozen? ⟨p, 2, none⟩ = false := Lib.frozen_of_heap D2.box 2
               have HEND : Hid (post (.returned .nilIface) ((w1.setCell ⟨g, 1, none⟩ (.int .i64 k)).setCell ⟨p, 2, none⟩ (.int .i64 (n + 1)))) := by
                 rw [HPO.out]
                 refine ⟨rfl, K2.set 2 _ D2.sp, ?_⟩
                 rw [HK.out.1, HK.out.2]
                 exact D2.setN _
               clear hb1 D2 K2 HC)
  exact HEND.out
end Go.Proofs.YtcdpcjafomfddaaDoor
