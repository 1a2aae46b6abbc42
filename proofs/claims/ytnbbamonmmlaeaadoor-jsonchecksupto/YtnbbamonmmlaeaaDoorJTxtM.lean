/-
  What is proved: the text of a tree, as mathematics: its equations, and how long it is at most.
  Conditions: as each theorem says.
-/
import Derived.Test.YtnbbamonmmlaeaaDoorJCheck
import Derived.Test.YtnbbamonmmlaeaaDoorJGetH
import Derived.Test.YtnbbamonmmlaeaaDoorShownA
namespace Go.Proofs.YtnbbamonmmlaeaaDoor
open Go.RowKit Go.Sort

/-- What stands ahead of a kid but the first. -/
def sep (i : Nat) : List UInt8 := if i = 0 then [] else [44]
/-- A kid's key, if it has one. -/
def keyT (m : Bool) (ks : List ByteArray) (i : Nat) : List UInt8 := if m = true then quote (ks[i]?.getD ⟨#[]⟩).data.toList ++ [58] else []
/-- A tree's text, out of that of its kids. -/
def wrapT (x : V) (s : List UInt8) : List UInt8 := if x.k = 5 then 123 :: (s ++ [125]) else if x.k = 6 then 91 :: (s ++ [93]) else showV x
/-- The text of kids from one on. -/
def txtF : JF → Bool → List ByteArray → Nat → List UInt8
  | .nil, _, _, _ => []
  | .node _ _ a l r, m, ks, i => (sep i ++ (keyT m ks i ++ wrapT a.1 (txtF l (decide (a.1.k = 5)) a.2 0))) ++ txtF r m ks (i + 1)
/-- The text of a tree. -/
def txtT (T : JT) : List UInt8 := wrapT T.x (txtF T.kids (decide (T.x.k = 5)) T.ks 0)
/-- That of several, from a number on. -/
def txtL (m : Bool) (ks : List ByteArray) : List JT → Nat → List UInt8
  | [], _ => []
  | t :: r, i => (sep i ++ (keyT m ks i ++ txtT t)) ++ txtL m ks r (i + 1)
theorem txtL_nil (m : Bool) (ks : List ByteArray) (i : Nat) : txtL m ks [] i = [] := by rw [txtL]
theorem txtL_cons (m : Bool) (ks : List ByteArray) (t : JT) (r : List JT) (i : Nat) : txtL m ks (t :: r) i = (sep i ++ (keyT m ks i ++ txtT t)) ++ txtL m ks r (i + 1) := by rw [txtL]
theorem txtL_toL (m : Bool) (ks : List ByteArray) (f : JF) (i : Nat) : txtL m ks (toL f) i = txtF f m ks i := by
  induction f generalizing i with
  | nil => rw [toL, txtL_nil, txtF]
  | node b o a l r _ ihr => rw [toL, txtL_cons, ihr, txtF]; rfl
theorem txtT_eq (T : JT) : txtT T = wrapT T.x (txtL (decide (T.x.k = 5)) T.ks T.ts 0) := by rw [txtT, JT.ts, txtL_toL]
theorem txtT_node (x : V) (ks : List ByteArray) (ts : List JT) : txtT (.node x ks ts) = wrapT x (txtL (decide (x.k = 5)) ks ts 0) := by rw [txtT_eq, node_ts]; rfl
theorem txtL_take (m : Bool) (ks : List ByteArray) (l : List JT) (i j : Nat) (hj : j < l.length) : txtL m ks (l.take (j + 1)) i = txtL m ks (l.take j) i ++ (sep (i + j) ++ (keyT m ks (i + j) ++ txtT l[j])) := by
  induction l generalizing i j with
  | nil => simp at hj
  | cons t r ih =>
    cases j with
    | zero => simp [txtL_cons, txtL_nil]
    | succ j =>
      rw [List.take_succ_cons, List.take_succ_cons, txtL_cons, txtL_cons, ih (i + 1) j (by simpa using hj)]
      simp only [List.getElem_cons_succ]
      rw [show i + 1 + j = i + (j + 1) by omega]
      simp only [List.append_assoc]

/-- All its numbers are of 64 bits. -/
def rngF : JF → Prop
  | .nil => True
  | .node _ _ a l r => (-9223372036854775808 ≤ a.1.n ∧ a.1.n ≤ 9223372036854775807) ∧ rngF l ∧ rngF r
def rngT (T : JT) : Prop := (-9223372036854775808 ≤ T.x.n ∧ T.x.n ≤ 9223372036854775807) ∧ rngF T.kids
theorem rngF_toL (f : JF) : rngF f ↔ ∀ t ∈ toL f, rngT t := by
  induction f with
  | nil => simp [rngF, toL]
  | node b o a l r _ ihr =>
    rw [rngF, toL, List.forall_mem_cons, ← ihr]
    exact ⟨fun h => ⟨⟨h.1, h.2.1⟩, h.2.2⟩, fun h => ⟨h.1.1, h.1.2, h.2⟩⟩
theorem rngT_eq (T : JT) : rngT T ↔ (-9223372036854775808 ≤ T.x.n ∧ T.x.n ≤ 9223372036854775807) ∧ ∀ t ∈ T.ts, rngT t := by
  rw [rngT, rngF_toL]; rfl
theorem rngT_node (x : V) (ks : List ByteArray) (ts : List JT) : rngT (.node x ks ts) ↔ (-9223372036854775808 ≤ x.n ∧ x.n ≤ 9223372036854775807) ∧ ∀ t ∈ ts, rngT t := by
  rw [rngT_eq, node_ts]; rfl

theorem up_short : ∀ (ks : List ByteArray) (p : List UInt8), upB p ks = true → ∀ k ∈ ks, k.size ≤ 20
  | [], _, _, k, hk => by cases hk
  | x :: r, p, h, k, hk => by
    rw [upB_cons] at h
    have h1 := Bool.and_eq_true_iff.1 h
    have h2 := Bool.and_eq_true_iff.1 h1.2
    rcases List.mem_cons.1 hk with e | e
    · rw [e]; exact of_decide_eq_true h2.1
    · exact up_short r _ h2.2 k e
theorem quote_len (l : List UInt8) : (quote l).length ≤ 3 * l.length + 2 := by
  have := escs_len l
  unfold quote
  simp
  omega
theorem key_len (m : Bool) (ks : List ByteArray) (i : Nat) (h : ∀ k ∈ ks, k.size ≤ 20) : (keyT m ks i).length ≤ 63 := by
  unfold keyT
  split
  · have h1 := quote_len (ks[i]?.getD ⟨#[]⟩).data.toList
    have h2 : (ks[i]?.getD ⟨#[]⟩).data.toList.length ≤ 20 := by
      rcases Nat.lt_or_ge i ks.length with hi | hi
      · rw [List.getElem?_eq_getElem hi]
        exact h _ (List.getElem_mem hi)
      · rw [List.getElem?_eq_none hi]; simp
    simp only [List.length_append, List.length_cons, List.length_nil]
    omega
  · simp
theorem sep_len (i : Nat) : (sep i).length ≤ 1 := by unfold sep; split <;> simp
theorem show_len (v : V) (F : Fit v) : (showV v).length ≤ 200 := by
  unfold showV
  split
  · split <;> simp
  split
  · have := Lib.itoa_length_le v.n F.low F.high
    omega
  split
  · rename_i h3
    have h1 := quote_len v.t.data.toList
    have h2 : v.t.data.toList.length ≤ 60 := F.text h3
    omega
  · simp
theorem fit_val (v : V) (h : valB v = true) (hr : -9223372036854775808 ≤ v.n ∧ v.n ≤ 9223372036854775807) : Fit v := by
  have hok : okB v = true := by
    unfold valB at h
    exact (Bool.and_eq_true_iff.1 h).1
  exact fit_of' v hok hr.1 hr.2

theorem formed_val {T : JT} (h : formedB T = true) : valB T.x = true := by
  unfold formedB at h
  rw [eachM_eq] at h
  by_cases h1 : (nodeS T.x T.ks T.ts.length ()).1 = true
  · have h2 : nodeB T.x T.ks T.ts.length = true := h1
    unfold nodeB at h2
    exact (Bool.and_eq_true_iff.1 h2).1
  · rw [if_neg h1] at h; cases h
theorem formed_kids {T : JT} (h : formedB T = true) : (T.x.k = 5 → T.ks.length = T.ts.length ∧ upB [] T.ks = true) ∧ (∀ t ∈ T.ts, formedB t = true) ∧ (∀ k ∈ T.ks, k.size ≤ 20) := by
  obtain ⟨h1, h2⟩ := formed_node h
  refine ⟨h1, h2, ?_⟩
  by_cases h5 : T.x.k = 5
  · exact up_short _ _ (h1 h5).2
  · intro k hk
    unfold formedB at h
    rw [eachM_eq] at h
    by_cases hn : (nodeS T.x T.ks T.ts.length ()).1 = true
    · have h3 : nodeB T.x T.ks T.ts.length = true := hn
      unfold nodeB at h3
      rw [if_neg h5] at h3
      have h4 := (Bool.and_eq_true_iff.1 h3).2
      have : T.ks.isEmpty = true := by
        split at h4
        · exact h4
        · exact (Bool.and_eq_true_iff.1 h4).1
      rw [List.isEmpty_iff.1 this] at hk
      cases hk
    · rw [if_neg hn] at h; cases h

theorem txtL_len (m : Bool) (ks : List ByteArray) (hk : ∀ k ∈ ks, k.size ≤ 20) : ∀ (l : List JT) (i : Nat), (∀ t ∈ l, (txtT t).length + 100 ≤ 400 * t.size) → (txtL m ks l i).length ≤ 400 * sizes l
  | [], i, _ => by rw [txtL_nil]; simp
  | t :: r, i, h => by
    have h1 := txtL_len m ks hk r (i + 1) (fun t ht => h t (List.mem_cons_of_mem _ ht))
    have h2 := h t List.mem_cons_self
    have h3 := key_len m ks i hk
    have h4 := sep_len i
    rw [txtL_cons, sizes]
    simp only [List.length_append]
    omega
theorem txtT_len : ∀ (n : Nat) (T : JT), T.size ≤ n → formedB T = true → rngT T → (txtT T).length + 100 ≤ 400 * T.size
  | 0, T, h, _, _ => by have := size_pos T; omega
  | n + 1, T, h, hf, hr => by
    obtain ⟨r1, r2⟩ := (rngT_eq T).1 hr
    obtain ⟨f1, f2, f3⟩ := formed_kids hf
    have hs := size_eq T
    have hm : ∀ t ∈ T.ts, t.size ≤ sizes T.ts := fun t ht => by
      obtain ⟨i, hi, rfl⟩ := List.getElem_of_mem ht
      have e1 := sizes_take T.ts i hi
      have e2 := sizes_le T.ts (i + 1)
      omega
    have hl := txtL_len (decide (T.x.k = 5)) T.ks f3 T.ts 0 (fun t ht => txtT_len n t (by have := hm t ht; omega) (f2 t ht) (r2 t ht))
    rw [txtT_eq]
    unfold wrapT
    split
    · simp only [List.length_cons, List.length_append, List.length_nil]
      omega
    split
    · simp only [List.length_cons, List.length_append, List.length_nil]
      omega
    · have := show_len T.x (fit_val T.x (formed_val hf) r1)
      omega
end Go.Proofs.YtnbbamonmmlaeaaDoor
