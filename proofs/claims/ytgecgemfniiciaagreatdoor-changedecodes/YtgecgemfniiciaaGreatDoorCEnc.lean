/-
  What is proved: numbers and texts, written one behind the other by package change's put and by package bookref1's nums.
  Conditions: what is written lies in memory, and is not too long.
-/
import Derived.Test.YtgecgemfniiciaaGreatDoorCIs
import Derived.Test.YtgecgemfniiciaaGreatDoorRPutWalk
import Derived.Lib.AppendStr
namespace Go.Proofs.YtgecgemfniiciaaGreatDoor
open Go.RowKit

/-- What is below is as it was, and so are all blocks but those of bytes. -/
structure Gr (B : Nat) (w w' : World) : Prop where
  bel : Below B w w'
  keep : ∀ (g : Nat) (cs : Array Value) (T : TypeId), T ≠ 5 → w.heap[g]? = some (.cells cs T) → w'.heap[g]? = some (.cells cs T)

theorem Gr.refl (B : Nat) (w : World) : Gr B w w := ⟨Below.refl _ _, fun _ _ _ _ h => h⟩
theorem Gr.trans {B : Nat} {w w1 w2 : World} (h : Gr B w w1) (k : Gr B w1 w2) : Gr B w w2 := ⟨h.bel.trans k.bel, fun g cs T hT hg => k.keep g cs T hT (h.keep g cs T hT hg)⟩
theorem Gr.of {B : Nat} {w w' : World} (h : Below w.heap.size w w') (hB : B ≤ w.heap.size) : Gr B w w' := ⟨h.mono hB, fun _ _ _ _ hg => heap_below hg h (Nat.le_refl _)⟩
theorem Gr.alloc (B : Nat) (w : World) (o : Obj) (hB : B ≤ w.heap.size) : Gr B w (w.alloc o) := Gr.of ((Below.refl _ w).alloc (Nat.le_refl _) o) hB

/-- Bytes of a row, appended to a row. -/
theorem app_row {w : World} {ops : Array Oper} {rest : List Oper} {o : Oper} {a : Act} {Q : Exit → Act → World → Prop} (hgd : o.guard = none) (s x : Operand)
    (ho : o.op = .call { callee := .builtin .append, args := #[s, x], argTypes := #[22, 22] }) (B : Nat) (v : Value) (L : List UInt8) (hs : a.eval s = v) (hown : Row B v L w)
    (C : Nat) (vx : Value) (M : List UInt8) (hx : a.eval x = vx) (hM : Row C vx M w) (h0 : M ≠ []) (hsz : L.length + M.length ≤ 1000000) (hB : B ≤ w.heap.size)
    (h : ∀ v' w', Row B v' (L ++ M) w' → Gr B w w' → wpList Tryz.prog ops Q rest (a.put o.dst v') w') : wpList Tryz.prog ops Q (o :: rest) a w := by
  obtain ⟨i0, hi, hz0, hz1, hz2⟩ := info_parts infoB
  obtain ⟨g, c, rfl, t⟩ := row_text hM h0
  refine wpList_append_own w hgd s x 22 ho B 5 i0 (.int .u8 0) 1 1 Tryz.underlying22 hi hz0 hz1 hz2 rfl (by decide) v L.length (Lib.byteCells L) hs hown ⟨g, 0, none⟩ M.length c (Lib.byteCells M) hx (cells_len _) t (one_cell _) (by unfold maxLen; omega) (by omega) hB ?_
  intro v' w' hown' hg _
  obtain ⟨R, b⟩ := row_grown0 (m := M) hown (Below.refl B w) hB hg hown'
  exact h v' w' R ⟨b, fun g cs T hT hh => box_grown0 hown hh hT hg⟩

/-- A text, appended to a row. -/
theorem app_text {w : World} {ops : Array Oper} {rest : List Oper} {o : Oper} {a : Act} {Q : Exit → Act → World → Prop} (hgd : o.guard = none) (s x : Operand)
    (ho : o.op = .call { callee := .builtin .append, args := #[s, x], argTypes := #[22, 9] }) (B : Nat) (v : Value) (L : List UInt8) (hs : a.eval s = v) (hown : Row B v L w)
    (t : ByteArray) (hx : a.eval x = .string t) (hsz : L.length + t.size ≤ 1000000) (hB : B ≤ w.heap.size)
    (h : ∀ v' w', Row B v' (L ++ t.data.toList) w' → Gr B w w' → wpList Tryz.prog ops Q rest (a.put o.dst v') w') : wpList Tryz.prog ops Q (o :: rest) a w := by
  obtain ⟨i0, hi, hz0, hz1, hz2⟩ := info_parts infoB
  refine Lib.wpList_append_own_string w hgd s x 22 9 ho B 5 i0 Tryz.underlying22 Tryz.underlying9 hi hz0 hz1 hz2 v L.length (Lib.byteCells L) hs hown t hx (by unfold maxLen; omega) (by omega) hB ?_
  intro v' w' hown' hg _
  have e : t.size = t.data.toList.length := by rw [Array.length_toList]; rfl
  have hc : Lib.strCells t = Lib.byteCells t.data.toList := by
    simp [Lib.strCells, Lib.byteCells]
  rw [e, hc] at hown'
  obtain ⟨R, b⟩ := row_grown0 (m := t.data.toList) hown (Below.refl B w) hB hg hown'
  exact h v' w' R ⟨b, fun g cs T hT hh => box_grown0 hown hh hT hg⟩

/-- The bytes of numbers. -/
def encN (l : List Int) : List UInt8 := l.flatMap fun n => put n.toNat

theorem encN_append (l m : List Int) : encN (l ++ m) = encN l ++ encN m := by simp [encN]

theorem encN_len (l : List Int) (h : ∀ n ∈ l, 0 ≤ n ∧ n < 9223372036854775808) : (encN l).length ≤ 10 * l.length := by
  induction l with
  | nil => simp [encN]
  | cons n r ih =>
    have e : encN (n :: r) = put n.toNat ++ encN r := by simp [encN]
    have h1 := h n (by simp)
    have h2 := ih (fun x hx => h x (by simp [hx]))
    have h3 := put_len10 (n := n.toNat) (by omega)
    rw [e, List.length_append, List.length_cons]
    omega

set_option maxRecDepth 100000 in
set_option maxHeartbeats 4000000 in
theorem nums_any (B : Nat) (v : Value) (L : List UInt8) (g : Nat) (ns : List Int) (w : World) (hrow : Row B v L w) (hB : B ≤ w.heap.size) (hg : w.heap[g]? = some (.cells (ns.map (Value.int .i64)).toArray 3))
    (hn : ∀ n ∈ ns, 0 ≤ n ∧ n < 9223372036854775808) (hL : L.length ≤ 900000) (hl : ns.length ≤ 10) :
    Calls Tryz.prog 26 #[v, .slice (some ⟨g, 0, none⟩) ns.length ns.length] w fun e w' => ∃ u, e = .returned u ∧ Row B u (L ++ encN ns) w' ∧ Gr B w w' := by
  go_enter Tryz.func26, Tryz.ntmps26
  go_wp2_with fail
  go_loopw [0, 5] (fun o i wr => ∃ k : Nat, k ≤ ns.length ∧ i = .int .i64 k ∧ Row B o (L ++ encN (ns.take k)) wr ∧ Gr B w wr) (fun _ i _ => ns.length - (RowKit.intOf i).toNat)
  case atStart => exact ⟨0, Nat.zero_le _, rfl, by simpa [encN] using hrow, Gr.refl _ _⟩
  case round =>
    clear hrow
    obtain ⟨k, hk, rfl, hh, hgr⟩ := hrel
    have hz := hgr.bel.size
    by_cases hlt : k < ns.length
    · have hg' := hgr.keep g _ 3 (by decide) hg
      have x0 : wr.cell? ⟨g, k, none⟩ = some (.int .i64 ns[k]) := by
        rw [Lib.cell_of_heap hg', List.getElem?_toArray, List.getElem?_map, List.getElem?_eq_getElem hlt]
        rfl
      have hnk := hn ns[k] (List.getElem_mem hlt)
      have hb := encN_len (ns.take k) (fun n h => hn n (List.mem_of_mem_take h))
      have hb2 : (ns.take k).length ≤ k := List.length_take_le _ _
      have hQ : (L ++ encN (ns.take k)).length ≤ 900100 := by rw [List.length_append]; omega
      have HT : Hid (L ++ encN (ns.take (k + 1)) = (L ++ encN (ns.take k)) ++ put ns[k].toNat) := by
        show _ = _
        rw [take_snoc ns k hlt, encN_append, List.append_assoc]
        simp [encN]
      obtain ⟨N, hN⟩ : ∃ N : Nat, ns[k] = N := ⟨ns[k].toNat, by omega⟩
      rw [hN] at x0 hnk
      rw [hN, Int.toNat_natCast] at HT
      have hpl := put_len10 (n := N) (by omega)
      have g1 : (k : Int) < ns.length := by omega
      have hl' := own_row_len hh
      generalize L ++ encN (ns.take k) = Q at *
      clear hb hb2 hN hn hg
      go_wp2_with fail
      refine (rPut_any N wr (by omega)).mono ?_
      rintro e w2 ⟨u2, rfl, R2, b2⟩
      have G2 := hgr.trans (Gr.of b2 (Nat.le_trans hB hz))
      have H2 : Row B _ Q w2 := own_below hh b2 (Nat.le_refl _)
      have hz2 := G2.bel.size
      go_wp2_with (first | (at_builtin; refine app_row rfl _ _ rfl B _ Q rfl H2 _ _ (put N) rfl R2 (put_ne _) (by omega) (Nat.le_trans hB hz2) ?_))
      intro u3 w3 R3 G3
      have G4 := G2.trans G3
      clear hh R2 H2 G2 G3 b2
      go_wp2
      go_roundw
      case rel => exact ⟨k + 1, hlt, by go_num, by rw [HT.out]; exact R3, G4⟩
      case measure => simp [RowKit.intOf]; omega
    · obtain rfl : k = ns.length := by omega
      rw [List.take_of_length_le (Nat.le_refl _)] at hh
      have g1 : ¬ (ns.length : Int) < ns.length := by omega
      clear hn hg
      go_wp2
      go_ret
      exact ⟨_, rfl, hh, hgr⟩

theorem nums_new (B : Nat) (v : Value) (L : List UInt8) (ns : List Int) (w : World) (hrow : Row B v L w) (hB : B ≤ w.heap.size)
    (hn : ∀ n ∈ ns, 0 ≤ n ∧ n < 9223372036854775808) (hL : L.length ≤ 900000) (hl : ns.length ≤ 10) :
    Calls Tryz.prog 26 #[v, .slice (some ⟨w.heap.size, 0, none⟩) ns.length ns.length] (w.alloc (.cells (ns.map (Value.int .i64)).toArray 3)) fun e w' => ∃ u, e = .returned u ∧ Row B u (L ++ encN ns) w' ∧ Gr B w w' := by
  refine (nums_any B v L w.heap.size ns _ (hrow.alloc _) (by simp; omega) (MapKept.heap_alloc w _).1 hn hL hl).mono ?_
  rintro e w' ⟨u, h1, h2, h3⟩
  exact ⟨u, h1, h2, (Gr.alloc B w _ hB).trans h3⟩
end Go.Proofs.YtgecgemfniiciaaGreatDoor
