/-
  What is proved: what the names and the files of two disks that are alike read as; booklaw3.done at any kind of step.
  Conditions: as each theorem says.
-/
import Derived.Test.YtcdpcjafomfddaaDoorPDone
import Derived.Test.YtcdpcjafomfddaaDoorQFile
import Derived.Test.YtcdpcjafomfddaaDoorKSt
namespace Go.Proofs.YtcdpcjafomfddaaDoor
open Go.RowKit Go.Maps Go.Sort Go.Shelf

theorem done_all {lo p k m : Nat} {wo w : World} (z : Int) (hz : 1 ≤ z ∧ z ≤ 8) (s t : Tx) (a : Option Addr) (c : Nat) (l : Tx) (kk : Int) (hk : I64 kk) (hs : T64 s) (ht : T64 t) (hm : m ≤ 90) (hb : Bt lo wo p k m) (hw : Below wo.heap.size wo w) (hv : ArgB w (.slice a l.length c) l) (ha : l ≠ [] → ∀ b o, a = some ⟨b, o, none⟩ → b < lo) (he : Et w) (h0 : 0 < lo) :
    Calls Tryd.prog 5 #[.pointer (some ⟨p, 0, none⟩), .pointer (some ⟨k, 0, none⟩), .agg #[.int .i64 z, .string ⟨s.toArray⟩, .string ⟨t.toArray⟩, .slice a l.length c, .int .i64 kk]] w fun e w' => DoneP lo wo w p k m e w' := by
  obtain ⟨n, st2, D, N, Y, T, hb⟩ := hb
  have : z = 1 ∨ z = 2 ∨ z = 3 ∨ z = 4 ∨ z = 5 ∨ z = 6 ∨ z = 7 ∨ z = 8 := by omega
  rcases this with rfl | rfl | rfl | rfl | rfl | rfl | rfl | rfl
  · exact done_1 s t a c l kk hk hs ht hm hb hw hv ha he h0
  · exact done_2 s t a c l kk hk hs ht hm hb hw hv ha he h0
  · exact done_3 s t a c l kk hk hs ht hm hb hw hv ha he h0
  · exact done_4 s t a c l kk hk hs ht hm hb hw hv ha he h0
  · exact done_5 s t a c l kk hk hs ht hm hb hw hv ha he h0
  · exact done_6 s t a c l kk hk hs ht hm hb hw hv ha he h0
  · exact done_7 s t a c l kk hk hs ht hm hb hw hv ha he h0
  · exact done_8 s t a c l kk hk hs ht hm hb hw hv ha he h0

theorem txs_row {w : World} {B n : Nat} {v : Value} {l : List Tx} (h : w.ownsRow B 9 1 v n (l.map encStr)) (hn : n = l.length) : ∃ a c, v = .slice a l.length c ∧ IsTxs w (.slice a l.length c) l := by
  subst hn
  have h' : RowT v l w := own_mono h (Nat.zero_le _)
  obtain ⟨a, c, rfl⟩ := rowT_form h'
  exact ⟨a, c, rfl, a, c, rfl, fun i t hi => rowT_get h' hi⟩
theorem IsTxs.below {w w' : World} {v : Value} {l : List Tx} (h : IsTxs w v l) (hb : Below w.heap.size w w') : IsTxs w' v l := by
  obtain ⟨a, c, rfl, h1⟩ := h
  refine ⟨a, c, rfl, fun i t hi => ?_⟩
  obtain ⟨b, e, hc⟩ := h1 i t hi
  exact ⟨b, e, (hb.cell (p := ⟨b, i, none⟩) (cell_lt hc)).trans hc⟩

def TxP (L : List Tx) (w : World) (e : Ending) (w' : World) : Prop := ∃ a c, e = .returned (.slice a L.length c) ∧ Hid (IsTxs w' (.slice a L.length c) L ∧ Below w.heap.size w w')

theorem sortT_len (l : List Tx) : (sortT l).length = l.length := by unfold sortT; exact (List.mergeSort_perm l _).length_eq

theorem bt_names {lo p k m : Nat} {w : World} (h : Bt lo w p k m) (hm : m ≤ 90) : ∃ (L : List Tx) (n : Int), L.length ≤ 1000 ∧ (∀ w1, Below w.heap.size w w1 →
    Calls Tryd.prog 7 #[.pointer (some ⟨p, 0, none⟩)] w1 (TxP L w1) ∧
    Calls Tryd.prog 8 #[.pointer (some ⟨k, 0, none⟩)] w1 (TxP L w1) ∧
    Calls Tryd.prog 10 #[.pointer (some ⟨p, 0, none⟩)] w1 (fun e w' => e = .returned (.int .i64 n) ∧ w' = w1) ∧
    w1.cell? ⟨k, 3, none⟩ = some (.int .i64 n)) := by
  obtain ⟨n, st2, D, N, Y, T, ⟨fb, sb, F, Z, st, G, i, d1, d2, d3⟩, ⟨fs, r1, r2⟩, _, _, hz⟩ := h
  have hN := hz.N
  have hlN : (sortT (N.map (·.1))).length = N.length := by rw [sortT_len, List.length_map]
  refine ⟨sortT (N.map (·.1)), n, by omega, fun w1 hb => ⟨?_, ?_, ?_, ?_⟩⟩
  · refine (names_any w1 (d1.below hb) (by rw [d2.lenN]; omega)).mono ?_
    rintro e w' ⟨v, rfl, hr, _, hb'⟩
    rw [← d2.names] at hr
    obtain ⟨a, c, rfl, hi⟩ := txs_row hr (by rw [hlN, d2.lenN])
    exact ⟨a, c, rfl, hi, hb'⟩
  · refine (rList_any w1 (r2.below hb) (by omega)).mono ?_
    rintro e w' ⟨v, rfl, hr, hb'⟩
    obtain ⟨a, c, rfl, hi⟩ := txs_row hr rfl
    exact ⟨a, c, rfl, hi, hb'⟩
  · exact steps_any w1 (d1.below hb)
  · obtain ⟨vf, vn, vy, hbx, _⟩ := (r2.below hb).box
    exact Lib.cell_of_heap hbx 3

def RdP (B : Tx) (E : Value) (w : World) (e : Ending) (w' : World) : Prop := ∃ a c, e = .returned (.tuple #[.slice a B.length c, E]) ∧ Hid (ArgB w' (.slice a B.length c) B ∧ Below w.heap.size w w')

theorem bt_read {lo p k m : Nat} {w : World} (h : Bt lo w p k m) (hm : m ≤ 90) (s : Tx) (hs : T64 s) : ∃ (B : Tx) (E : Int), B.length ≤ 60000 ∧ (∀ w1, Below w.heap.size w w1 →
    Calls Tryd.prog 11 #[.pointer (some ⟨p, 0, none⟩), .string ⟨s.toArray⟩] w1 (RdP B (errV E) w1) ∧
    Calls Tryd.prog 12 #[.pointer (some ⟨k, 0, none⟩), .string ⟨s.toArray⟩] w1 (RdP B (.int .i64 E) w1)) := by
  obtain ⟨n, st2, D, N, Y, T, ⟨fb, sb, F, Z, st, G, i, d1, d2, d3⟩, ⟨fs, r1, r2⟩, _, _, hz⟩ := h
  have hN := hz.N
  have hD := hz.D
  by_cases hE : rdE N s ≠ 0
  · refine ⟨[], rdE N s, by simp, fun w1 hb => ⟨?_, ?_⟩⟩
    · refine (read_no s w1 (d1.below hb) hs (by rw [d2.rdE]; exact hE)).mono ?_
      rintro e w' ⟨rfl, hb'⟩
      rw [d2.rdE]
      exact ⟨none, 0, rfl, ⟨isBytes_nil _ _ _, Or.inl rfl⟩, hb'⟩
    · refine (rRead_no s w1 (r2.below hb) (by omega) hE).mono ?_
      rintro e w' ⟨rfl, rfl⟩
      exact ⟨none, 0, rfl, ⟨isBytes_nil _ _ _, Or.inl rfl⟩, Below.refl _ _⟩
  · have hE0 : rdE N s = 0 := Decidable.not_not.1 hE
    have hx : nameB s = true ∧ ∃ j, fk N s = some j := by
      unfold rdE at hE0
      cases hn : nameB s with
      | false => rw [hn] at hE0; simp at hE0
      | true =>
        rw [hn, if_pos rfl] at hE0
        cases hf : fk N s with
        | none => rw [hf] at hE0; simp at hE0
        | some j => exact ⟨rfl, j, rfl⟩
    obtain ⟨hn, j, hj⟩ := hx
    obtain ⟨x, hx, hg, hij, hDj⟩ := sm_file d2 d1 hj
    obtain ⟨u, hu⟩ := file_at r1 hDj
    have hmax := (d1.fi x hx).max
    refine ⟨x.bs, 0, hmax, fun w1 hb => ⟨?_, ?_⟩⟩
    · refine (read_yes s w1 (d1.below hb) hs hn x hx hg).mono ?_
      rintro e w' ⟨v, rfl, hr, hb'⟩
      have hr0 : Row 0 v x.bs w' := own_mono hr (Nat.zero_le _)
      obtain ⟨a, c, rfl⟩ := row_form hr0
      exact ⟨a, c, rfl, row_arg2 hr0 hmax, hb'⟩
    · have r2' := r2.below hb
      refine (rRead_yes s w1 r2' (by omega) (by rw [files_len r1]; omega) hn hj hu).mono ?_
      rintro e w' ⟨rfl, rfl⟩
      have hr0 : Row 0 u x.bs _ := (r2'.fi _ (List.mem_of_getElem? hu)).1
      obtain ⟨a, c, rfl⟩ := row_form hr0
      exact ⟨a, c, rfl, row_arg2 hr0 hmax, Below.refl _ _⟩

/-- Two disks that nobody has used. -/
theorem bt_start {w w1 : World} {p fb sb : Nat} (hd : Dk (fun b => w.heap.size ≤ b) w1 p fb sb [] [] 0 (-1) []) (hb : Below w.heap.size w w1) :
    Bt w.heap.size (w1.alloc (.cells #[.slice none 0 0, .slice none 0 0, .slice none 0 0, .int .i64 0, .int .i64 (-1)] 30)) p w1.heap.size 0 := by
  have b2 : Below w1.heap.size w1 (w1.alloc (.cells #[.slice none 0 0, .slice none 0 0, .slice none 0 0, .int .i64 0, .int .i64 (-1)] 30)) := (Below.refl _ _).alloc (Nat.le_refl _) _
  have hx := (MapKept.heap_alloc w1 (.cells #[.slice none 0 0, .slice none 0 0, .slice none 0 0, .int .i64 0, .int .i64 (-1)] 30)).1
  have hsz := hb.size
  have hl := lt_of_heap hx
  refine ⟨0, -1, [], [], [], fun b => b = w1.heap.size, ⟨fb, sb, [], [], -1, [], id, (hd.mono (fun b hS hlt => ⟨hS, by omega⟩)).below b2, ⟨rfl, rfl, (fun x hx => by cases hx), (fun x hx => by cases hx), (fun x hx => by cases hx), (fun x hx => by cases hx)⟩, Or.inl rfl⟩, ⟨[], rfl, ⟨⟨_, _, _, hx, World.ownsRow_nil _ _ _ _, World.ownsRow_nil _ _ _ _, World.ownsRow_nil _ _ _ _, (fun b e => by cases e), (fun b e => by cases e), (fun b e => by cases e)⟩, (fun x hx => by cases hx), (fun x hx => by cases hx), (fun x hx => by cases hx), rfl⟩⟩, (fun b hb => ?_), Nat.le_trans hsz b2.size, ⟨by omega, by omega, by simp, by simp, by simp⟩⟩
  have hb : b = w1.heap.size := hb
  subst hb
  exact ⟨hsz, hl⟩

/-- What bytes read as, later. -/
theorem conv_at {w w' : World} {v : Value} {l : Tx} (h : ArgB w v l) (hb : Below w.heap.size w w') : (convert 23 9 v).run Tryd.prog w' = .ok (.string ⟨l.toArray⟩) w' := conv_any ⟨h.1.below hb, h.2⟩
end Go.Proofs.YtcdpcjafomfddaaDoor
