/-
  What is proved: what a file's left makes: another file with what a crash leaves of it.
  Conditions: as each theorem says.
-/
import Derived.Test.YtcdpcjafomfddaaDoorKClone
namespace Go.Proofs.YtcdpcjafomfddaaDoor
open Go.RowKit Go.Maps

/-- How many bytes a crash leaves. -/
def lft (k : Int) (x : Fi) : Nat := x.sf + min (max k 0).toNat (x.bs.length - x.sf)
theorem lft_le (k : Int) {x : Fi} (h : x.sf ≤ x.bs.length) : lft k x ≤ x.bs.length := by unfold lft; omega

def LeftP (S : Nat → Prop) (w : World) (x : Fi) (k : Int) (e : Ending) (w' : World) : Prop :=
  ∃ y : Fi, e = .returned (ptrV y.g) ∧ FileAt S w' y ∧ y.bs = x.bs.take (lft k x) ∧ y.sf = lft k x ∧ w.heap.size ≤ y.g ∧ (∀ b, y.v.ownBlock = some b → w.heap.size ≤ b) ∧ Below w.heap.size w w'

theorem take_arg {w : World} {v : Value} {l : Tx} (h : Row 0 v l w) (hl : l.length ≤ 60000) (n : Nat) (hn : n ≤ l.length) :
    (v = .slice none 0 0 ∧ l = []) ∨ ∃ b c, v = .slice (some ⟨b, 0, none⟩) l.length c ∧ l.length ≤ c ∧ ArgB w (.slice (some ⟨b, 0, none⟩) n c) (l.take n) := by
  rcases h.2 with ⟨rfl, h0⟩ | ⟨b, c, cur, rfl, _, hb, hc, _⟩
  · exact Or.inl ⟨rfl, List.length_eq_zero_iff.1 h0⟩
  · refine Or.inr ⟨b, c, rfl, hc, ?_, Or.inr ⟨_, _, _, rfl⟩⟩
    have e : (l.take n).length = n := by rw [List.length_take]; omega
    refine ⟨_, c, by rw [e], by omega, by omega, fun _ => ⟨b, 0, rfl, lt_of_heap hb, fun i hi => ?_⟩⟩
    rw [Nat.zero_add, h.cellAt i (by omega)]
    simp [Lib.byteCells, show i < l.length by omega]

theorem left_end {S : Nat → Prop} {w w3 : World} {x : Fi} {k : Int} {v : Value} (hS : ∀ k, w.heap.size ≤ k → S k) (hx : x.sf ≤ x.bs.length ∧ x.bs.length ≤ 60000) (r3 : Row w.heap.size v (x.bs.take (lft k x)) w3) (b3 : Below w.heap.size w w3) :
    LeftP S w x k (.returned (.pointer (some ⟨w3.heap.size, 0, none⟩))) (w3.alloc (.cells #[v, .int .i64 (lft k x)] 71)) := by
  have hle := lft_le k hx.1
  have e : (x.bs.take (lft k x)).length = lft k x := by rw [List.length_take]; omega
  have ba : Below w3.heap.size w3 (w3.alloc (.cells #[v, .int .i64 (lft k x)] 71)) := (Below.refl _ _).alloc (Nat.le_refl _) _
  refine ⟨⟨w3.heap.size, v, x.bs.take (lft k x), lft k x⟩, rfl, ⟨(MapKept.heap_alloc _ _).1, own_below (own_mono r3 (Nat.zero_le _)) ba (Nat.le_refl _), ?_, ?_, hS _ b3.size, fun b hb => hS b (r3.lt b hb).1⟩, rfl, rfl, b3.size, fun b hb => (r3.lt b hb).1, b3.trans (ba.mono b3.size)⟩
  · show lft k x ≤ (x.bs.take (lft k x)).length; omega
  · show (x.bs.take (lft k x)).length ≤ 60000; omega

set_option maxRecDepth 100000 in
set_option maxHeartbeats 4000000 in
theorem left_walk {w : World} {g L f N c : Nat} {k : Int} {a : Option Addr} {post : Ending → World → Prop} {K : Option Addr → Nat → Nat → World → Prop} (c0 : w.cell? ⟨g, 0, none⟩ = some (.slice a L c)) (c1 : w.cell? ⟨g, 1, none⟩ = some (.int .i64 f)) (hI : -9223372036854775808 ≤ k ∧ k < 9223372036854775808)
    (hf : f ≤ L) (hL : L ≤ 60000) (hc : L ≤ c) (ha : (a = none ∧ c = 0) ∨ ∃ b, a = some ⟨b, 0, none⟩) (key : (k < 0 ∧ N = f) ∨ (0 ≤ k ∧ k ≤ (L : Int) - f ∧ (N : Int) = f + k) ∨ (0 ≤ k ∧ (L : Int) - f < k ∧ N = L))
    (HC : Hid (∀ nq, Calls Tryd.prog 27 #[.slice a N c] (w.drewN nq) fun e w' => ∃ a3 n3 c3, e = .returned (.slice a3 n3 c3) ∧ K a3 n3 c3 w'))
    (HE : Hid (∀ a3 n3 c3 w3, K a3 n3 c3 w3 → post (.returned (.pointer (some ⟨w3.heap.size, 0, none⟩))) (w3.alloc (.cells #[.slice a3 n3 c3, .int .i64 N] 71)))) :
    Calls Tryd.prog 34 #[.pointer (some ⟨g, 0, none⟩), .int .i64 k] w post := by
  have g0 : (0 : Int) ≤ f := by omega
  have g1 : (f : Int) ≤ L := by omega
  have g2 : (L : Int) ≤ 60000 := by omega
  have g3 : (L : Int) ≤ c := by omega
  rcases ha with ⟨rfl, rfl⟩ | ⟨b, rfl⟩
  · obtain rfl : L = 0 := by omega
    obtain rfl : f = 0 := by omega
    obtain rfl : N = 0 := by omega
    clear hf hL hc g0 g1 g2 g3 key
    by_cases h0 : k < 0
    · skip
      go_enter Tryd.func34, Tryd.ntmps34
      go_wp2
      go_quiet (fail)
      have C1 := HC.out nq
      have d1 : (w.drewN nq).cell? ⟨g, 0, none⟩ = some (.slice none 0 0) := c0
      have d2 : (w.drewN nq).cell? ⟨g, 1, none⟩ = some (.int .i64 0) := c1
      clear c0 c1 HC
      generalize w.drewN nq = w1 at *
      go_wp2_with (go_at_call 27; refine C1.mono ?_; rintro e w3 ⟨a3, n3, c3, rfl, h3⟩; have HEND : Hid (_) := HE.out a3 n3 c3 w3 h3; clear h3)
      exact HEND.out
    · by_cases h1 : 0 < k
      · skip
        go_enter Tryd.func34, Tryd.ntmps34
        go_wp2
        go_quiet (fail)
        have C1 := HC.out nq
        have d1 : (w.drewN nq).cell? ⟨g, 0, none⟩ = some (.slice none 0 0) := c0
        have d2 : (w.drewN nq).cell? ⟨g, 1, none⟩ = some (.int .i64 0) := c1
        clear c0 c1 HC
        generalize w.drewN nq = w1 at *
        go_wp2_with (go_at_call 27; refine C1.mono ?_; rintro e w3 ⟨a3, n3, c3, rfl, h3⟩; have HEND : Hid (_) := HE.out a3 n3 c3 w3 h3; clear h3)
        exact HEND.out
      · obtain rfl : k = 0 := by omega
        clear h0 h1
        go_enter Tryd.func34, Tryd.ntmps34
        go_wp2
        go_quiet (fail)
        have C1 := HC.out nq
        have d1 : (w.drewN nq).cell? ⟨g, 0, none⟩ = some (.slice none 0 0) := c0
        have d2 : (w.drewN nq).cell? ⟨g, 1, none⟩ = some (.int .i64 0) := c1
        clear c0 c1 HC
        generalize w.drewN nq = w1 at *
        go_wp2_with (go_at_call 27; refine C1.mono ?_; rintro e w3 ⟨a3, n3, c3, rfl, h3⟩; have HEND : Hid (_) := HE.out a3 n3 c3 w3 h3; clear h3)
        exact HEND.out
  · rcases key with ⟨h0, rfl⟩ | ⟨h0, h1, h2⟩ | ⟨h0, h1, rfl⟩
    · have g4 : (N : Int) ≤ c := by omega
      have g5 : ¬ (L : Int) - N < 0 := by omega
      have g6 : ¬ (L : Int) - N ≤ 0 ∨ (L : Int) - N = 0 := by omega
      clear hf hL hc hI g6
      go_enter Tryd.func34, Tryd.ntmps34
      go_wp2
      go_quiet (fail)
      have C1 := HC.out nq
      have d1 : (w.drewN nq).cell? ⟨g, 0, none⟩ = some (.slice (some ⟨b, 0, none⟩) L c) := c0
      have d2 : (w.drewN nq).cell? ⟨g, 1, none⟩ = some (.int .i64 N) := c1
      clear c0 c1 HC
      generalize w.drewN nq = w1 at *
      go_wp2_with (go_at_call 27; refine C1.mono ?_; rintro e w3 ⟨a3, n3, c3, rfl, h3⟩; have HEND : Hid (_) := HE.out a3 n3 c3 w3 h3; clear h3)
      exact HEND.out
    · have e0 : ¬ k < 0 := by omega
      have e1 : ¬ (L : Int) - f < k := by omega
      have e2 : (f : Int) + k = N := h2.symm
      have e3 : (N : Int) ≤ c := by omega
      clear hf hL hc hI h0 h1 h2
      go_enter Tryd.func34, Tryd.ntmps34
      go_wp2
      go_quiet (fail)
      have C1 := HC.out nq
      have d1 : (w.drewN nq).cell? ⟨g, 0, none⟩ = some (.slice (some ⟨b, 0, none⟩) L c) := c0
      have d2 : (w.drewN nq).cell? ⟨g, 1, none⟩ = some (.int .i64 f) := c1
      clear c0 c1 HC
      generalize w.drewN nq = w1 at *
      go_wp2_with (go_at_call 27; refine C1.mono ?_; rintro e w3 ⟨a3, n3, c3, rfl, h3⟩; have HEND : Hid (_) := HE.out a3 n3 c3 w3 h3; clear h3)
      exact HEND.out
    · have e0 : ¬ k < 0 := by omega
      have e2 : (f : Int) + ((N : Int) - f) = N := by omega
      have e3 : (0 : Int) ≤ (N : Int) - f := by omega
      clear hf hL hc hI h0
      go_enter Tryd.func34, Tryd.ntmps34
      go_wp2
      go_quiet (fail)
      have C1 := HC.out nq
      have d1 : (w.drewN nq).cell? ⟨g, 0, none⟩ = some (.slice (some ⟨b, 0, none⟩) N c) := c0
      have d2 : (w.drewN nq).cell? ⟨g, 1, none⟩ = some (.int .i64 f) := c1
      clear c0 c1 HC
      generalize w.drewN nq = w1 at *
      go_wp2_with (go_at_call 27; refine C1.mono ?_; rintro e w3 ⟨a3, n3, c3, rfl, h3⟩; have HEND : Hid (_) := HE.out a3 n3 c3 w3 h3; clear h3)
      exact HEND.out

theorem left_any {S : Nat → Prop} (x : Fi) (k : Int) (w : World) (hS : ∀ k, w.heap.size ≤ k → S k) (hf : FileAt S w x) (hk : I64 k) :
    Calls Tryd.prog 34 #[ptrV x.g, .int .i64 k] w fun e w' => LeftP S w x k e w' := by
  have hm := hf.max
  have hle := hf.le
  have h2 := lft_le k hf.le
  have c0 : w.cell? ⟨x.g, 0, none⟩ = some x.v := Lib.cell_of_heap hf.box 0
  have c1 : w.cell? ⟨x.g, 1, none⟩ = some (.int .i64 x.sf) := Lib.cell_of_heap hf.box 1
  have T := take_arg hf.row hf.max (lft k x) h2
  have key : (k < 0 ∧ lft k x = x.sf) ∨ (0 ≤ k ∧ k ≤ (x.bs.length : Int) - x.sf ∧ (lft k x : Int) = x.sf + k) ∨ (0 ≤ k ∧ (x.bs.length : Int) - x.sf < k ∧ lft k x = x.bs.length) := by
    unfold lft; omega
  have HC : ∀ nq v, ArgB w v (x.bs.take (lft k x)) → Calls Tryd.prog 27 #[v] (w.drewN nq) fun e w' => ∃ a3 n3 c3, e = .returned (.slice a3 n3 c3) ∧ Row w.heap.size (.slice a3 n3 c3) (x.bs.take (lft k x)) w' ∧ Below w.heap.size w w' := fun nq v hv =>
    (clone_any v _ (w.drewN nq) ⟨hv.1.below (below_drew (Below.refl _ _) _), hv.2⟩ (by rw [List.length_take]; omega)).mono (by
      rintro e w' ⟨u, rfl, r, b⟩
      obtain ⟨a, c, rfl⟩ := row_form (own_mono r (Nat.zero_le _))
      exact ⟨_, _, _, rfl, r, (below_drew (Below.refl _ _) nq).trans b⟩)
  have HE : ∀ a3 n3 c3 w3, (Row w.heap.size (.slice a3 n3 c3) (x.bs.take (lft k x)) w3 ∧ Below w.heap.size w w3) → LeftP S w x k (.returned (.pointer (some ⟨w3.heap.size, 0, none⟩))) (w3.alloc (.cells #[.slice a3 n3 c3, .int .i64 (lft k x)] 71)) := fun a3 n3 c3 w3 h => left_end hS ⟨hle, hm⟩ h.1 h.2
  unfold ptrV
  rcases T with ⟨ev, el⟩ | ⟨b, c, ev, hc, hA⟩
  · rw [ev] at c0
    have hL0 : x.bs.length = 0 := by rw [el]; rfl
    have hN0 : lft k x = 0 := by omega
    have := HC
    exact left_walk (a := none) (L := 0) (c := 0) (N := lft k x) c0 c1 hk (by omega) (by omega) (by omega) (Or.inl ⟨rfl, rfl⟩) (by omega) (fun nq => by rw [hN0]; rw [hN0] at HC; exact HC nq _ (by rw [el]; exact ⟨isBytes_nil _ _ _, Or.inl rfl⟩)) (fun a3 n3 c3 w3 h => by rw [hN0]; rw [hN0] at HE; exact HE a3 n3 c3 w3 h)
  · rw [ev] at c0
    exact left_walk c0 c1 hk hle hm hc (Or.inr ⟨b, rfl⟩) key (fun nq => HC nq _ hA) HE
end Go.Proofs.YtcdpcjafomfddaaDoor
