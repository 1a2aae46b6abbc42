/-
  What is proved: bookref3's put, in its uses: another tree in the place of a kid, at a new key, between a list's kids; a kid taken out.
  Conditions: the tree is one, and not too great.
-/
import Derived.Test.YtegbjkjeoegfbaaDoorJPutH
namespace Go.Proofs.YtegbjkjeoegfbaaDoor
open Go.RowKit Go.Sort

theorem ba_loopJ (b : ByteArray) : ∀ (n i : Nat) (r : List UInt8), b.size - i = n → ByteArray.toList.loop b i r = r.reverse ++ b.data.toList.drop i := by
  intro n
  induction n with
  | zero =>
    intro i r h
    unfold ByteArray.toList.loop
    have hs : ¬ i < b.size := by omega
    rw [if_neg hs]
    have : b.data.toList.drop i = [] := List.drop_eq_nil_of_le (by rw [Array.length_toList]; exact Nat.le_of_not_lt hs)
    rw [this]; simp
  | succ n ih =>
    intro i r h
    unfold ByteArray.toList.loop
    have hs : i < b.size := by omega
    rw [if_pos hs, ih (i + 1) _ (by omega)]
    have hl : i < b.data.toList.length := by rw [Array.length_toList]; exact hs
    rw [List.drop_eq_getElem_cons hl]
    have e : b.get! i = b.data.toList[i] := by
      cases b with
      | mk d =>
        simp only [ByteArray.get!]
        have hd : i < d.size := hs
        simp [getElem!_pos, hd]
    rw [e]
    simp
theorem ba_listJ (b : ByteArray) : b.toList = b.data.toList := by
  unfold ByteArray.toList
  rw [ba_loopJ b _ 0 [] rfl]
  simp
theorem ba_inj {a b : ByteArray} (h : a.toList = b.toList) : a = b := by
  rw [ba_listJ, ba_listJ] at h
  apply ByteArray.ext
  exact Array.toList_inj.1 h
theorem set_mid {α : Type} (l : List α) (i : Nat) (a : α) (h : i < l.length) : (l.take i ++ [a]) ++ l.drop (i + 1) = l.set i a := by
  rw [List.set_eq_take_append_cons_drop, if_pos h, List.append_assoc]
  rfl
theorem put_mid {α : Type} (l : List α) (i : Nat) (a : α) : (l.take i ++ [a]) ++ l.drop i = putL l i a := by
  unfold putL
  rw [List.append_assoc]
  rfl
theorem few_put {T : JT} (hf : formedB T = true) (hs : T.size ≤ 400) : T.ks.length ≤ 1000 ∧ T.ts.length ≤ 1000 := by
  have := few_kids hf hs
  omega
theorem no_keys {T : JT} {s : Stp} {n : Nat} (hf : formedB T = true) (h : atStep T.x n s = true) : T.x.k ≠ 5 ∧ T.ks = [] := by
  have h6 := (atStep_parts h).1
  exact ⟨by omega, ((nodeB_list h6).1 ((formed_iff T).1 hf).1).2⟩
/-- Another tree in the place of a kid. -/
theorem putKid_any {P : Nat → Prop} {v vx : Value} {T X : JT} {s : Stp} {i : Nat} (w : World) (hT : IsTP P w v T) (hX : IsTP P w vx X) (hf : formedB T = true) (hsz : T.size ≤ 400) (hk : kidOf T.x T.ks T.ts.length s = some i) :
    Calls Tryd.prog 19 #[v, .int .i64 i, vx, .bool false, .bool false, .string s.1] w fun e w' => PutP P w T.x T.ks (T.ts.set i X) e w' := by
  have hfew := few_put hf hsz
  rcases kid_case hk with ⟨e, h1⟩ | ⟨e, h1, h2, h3⟩
  · have h5 := (keyStep_parts e).1
    have hn := ((nodeB_map h5).1 ((formed_iff T).1 hf).1).2.1
    obtain ⟨hil, hil2, _⟩ := lookK_some h1
    have hh := put_set5 i s.1 w hT hX h5 (by omega) hn hfew
    have e1 : (T.ks.take i ++ [s.1]) ++ T.ks.drop (i + 1) = T.ks := by
      rw [set_mid _ _ _ hil, ← ba_inj hil2]
      exact List.set_getElem_self hil
    rw [e1, set_mid T.ts i X (by omega)] at hh
    exact hh
  · have hn := no_keys hf h1
    have hh := put_set i s.1 w hT hX hn.1 (by omega) hfew
    rw [set_mid T.ts i X h3] at hh
    rw [hn.2]
    exact hh
/-- At a new key. -/
theorem putNew_any {P : Nat → Prop} {v vx : Value} {T X : JT} {i : Nat} (key : ByteArray) (w : World) (hT : IsTP P w v T) (hX : IsTP P w vx X) (hf : formedB T = true) (hsz : T.size ≤ 400) (h5 : T.x.k = 5) (hi : i ≤ T.ks.length) :
    Calls Tryd.prog 19 #[v, .int .i64 i, vx, .bool true, .bool false, .string key] w fun e w' => PutP P w T.x (putL T.ks i key) (putL T.ts i X) e w' := by
  have hn := ((nodeB_map h5).1 ((formed_iff T).1 hf).1).2.1
  have hh := put_ins5 i key w hT hX h5 (by omega) hn (few_put hf hsz)
  rw [put_mid, put_mid] at hh
  exact hh
/-- Between a list's kids. -/
theorem putIn_any {P : Nat → Prop} {v vx : Value} {T X : JT} {s : Stp} {i : Nat} (key : ByteArray) (w : World) (hT : IsTP P w v T) (hX : IsTP P w vx X) (hf : formedB T = true) (hsz : T.size ≤ 400) (ha : atStep T.x T.ts.length s = true) (hi : i ≤ T.ts.length) :
    Calls Tryd.prog 19 #[v, .int .i64 i, vx, .bool true, .bool false, .string key] w fun e w' => PutP P w T.x T.ks (putL T.ts i X) e w' := by
  have hn := no_keys hf ha
  have hh := put_ins i key w hT hX hn.1 hi (few_put hf hsz)
  rw [put_mid] at hh
  rw [hn.2]
  exact hh
/-- A kid taken out. -/
theorem putGone_any {P : Nat → Prop} {v vx : Value} {T X : JT} {s : Stp} {i : Nat} (key : ByteArray) (w : World) (hT : IsTP P w v T) (hX : IsTP P w vx X) (hf : formedB T = true) (hsz : T.size ≤ 400) (hk : kidOf T.x T.ks T.ts.length s = some i) :
    Calls Tryd.prog 19 #[v, .int .i64 i, vx, .bool false, .bool true, .string key] w fun e w' => PutP P w T.x (if keyStep T.x s = true then cutL T.ks i else T.ks) (cutL T.ts i) e w' := by
  have hfew := few_put hf hsz
  rcases kid_case hk with ⟨e, h1⟩ | ⟨e, h1, h2, h3⟩
  · have h5 := (keyStep_parts e).1
    have hn := ((nodeB_map h5).1 ((formed_iff T).1 hf).1).2.1
    obtain ⟨hil, _⟩ := lookK_some h1
    rw [if_pos e]
    exact put_gone5 i key w hT hX h5 (by omega) hn hfew
  · have hn := no_keys hf h1
    rw [if_neg (by rw [e]; decide), hn.2]
    exact put_gone i key w hT hX hn.1 (by omega) hfew

/-- What patched answers. -/
def PatP (P : Nat → Prop) (w : World) (k : Int) (T : JT) (l : List Stp) (y : V) (e : Ending) (w' : World) : Prop :=
  ∃ u X ok, e = .returned (.tuple #[tval u, .bool ok]) ∧ IsTP (fun b => P b ∨ w.heap.size + 4 ≤ b) w' (tval u) X ∧ (ok = true → UpdK k T l y X) ∧ (ok = false → ∀ T', ¬ UpdK k T l y T')
theorem four_boxes (w : World) (o1 o2 o3 o4 : Obj) : ((((w.alloc o1).alloc o2).alloc o3).alloc o4).heap[w.heap.size]? = some o1 ∧ ((((w.alloc o1).alloc o2).alloc o3).alloc o4).heap[w.heap.size + 1]? = some o2 ∧ ((((w.alloc o1).alloc o2).alloc o3).alloc o4).heap[w.heap.size + 2]? = some o3 ∧ ((((w.alloc o1).alloc o2).alloc o3).alloc o4).heap[w.heap.size + 3]? = some o4 ∧ Below w.heap.size w ((((w.alloc o1).alloc o2).alloc o3).alloc o4) ∧ Below w.heap.size w (((w.alloc o1).alloc o2).alloc o3) := by
  obtain ⟨h1, h2, h3⟩ := two_boxes w o1 o2
  have z2 : ((w.alloc o1).alloc o2).heap.size = w.heap.size + 2 := by simp
  have z3 : (((w.alloc o1).alloc o2).alloc o3).heap.size = w.heap.size + 3 := by simp
  have c3 := (Below.refl (w.heap.size + 2) ((w.alloc o1).alloc o2)).alloc (by omega) o3
  have c4 := (Below.refl (w.heap.size + 3) (((w.alloc o1).alloc o2).alloc o3)).alloc (by omega) o4
  have n3 := (MapKept.heap_alloc ((w.alloc o1).alloc o2) o3).1
  have n4 := (MapKept.heap_alloc (((w.alloc o1).alloc o2).alloc o3) o4).1
  rw [z2] at n3
  rw [z3] at n4
  have b3 : Below w.heap.size w (((w.alloc o1).alloc o2).alloc o3) := h3.trans (c3.mono (by omega))
  exact ⟨(c4.block _ (by omega)).trans ((c3.block _ (by omega)).trans h1), (c4.block _ (by omega)).trans ((c3.block _ (by omega)).trans h2), (c4.block _ (by omega)).trans n3, n4, b3.trans (c4.mono (by omega)), b3⟩
theorem IsSteps.tail {w : World} {pb po n c : Nat} {s : Stp} {r : List Stp} (h : IsSteps w (.slice (some ⟨pb, po, none⟩) n c) (s :: r)) : IsSteps w (.slice (some ⟨pb, po + 2, none⟩) r.length (c - 1)) r := by
  obtain ⟨a', c', e, h1, h2, h3⟩ := h
  obtain ⟨e1, e2, e3⟩ := Value.slice.inj e
  subst e1 e3
  simp only [List.length_cons] at h1 h2
  refine ⟨_, _, rfl, by omega, by omega, fun hr => ?_⟩
  obtain ⟨b, off, e4, h4, h5⟩ := h3 (by simp)
  have e6 := Option.some.inj e4
  injection e6 with e7 e8 _
  subst e7 e8
  refine ⟨_, _, rfl, h4, fun i hi => ?_⟩
  have h6 := h5 (i + 1) (by simpa using hi)
  have e9 : po + 2 + i * 2 = po + (i + 1) * 2 := by omega
  rw [e9]
  simpa using h6
/-- What was made lies neither in the result's box nor in the others. -/
theorem fresh_put {P P1 : Nat → Prop} {w w9 : World} {n : Nat} {u U : TV} {X : JT} (h : IsTP (fun b => P1 b ∨ n ≤ b) w9 (tval u) X) (hP1 : ∀ b, P1 b → P b ∨ w.heap.size + 4 ≤ b) (hn : w.heap.size + 4 ≤ n) (hP : ∀ b, P b → b < w.heap.size) : IsTP (fun b => P b ∨ w.heap.size + 4 ≤ b) (put7 w9 (w.heap.size + 2) 0 U) (tval u) X := by
  have key : ∀ b, (P1 b ∨ n ≤ b) → P b ∨ w.heap.size + 4 ≤ b := fun b hb => by
    rcases hb with h | h
    · exact hP1 b h
    · exact Or.inr (by omega)
  refine h.move (put7_below (Below.refl 0 w9) _ _ _ (Nat.zero_le _)).size (fun b hb _ => put7_other w9 _ _ _ b ?_) key
  rcases key b hb with h9 | h9
  · have := hP b h9
    omega
  · omega
theorem found_of {ks : List ByteArray} {x : List UInt8} {j : Nat} (hu : upB [] ks = true) (hj : j ≤ ks.length) (h1 : ∀ t (h : t < ks.length), t < j → ks[t].toList < x) (h2 : ∀ h : j < ks.length, ¬ ks[j].toList < x) (hn : lookK ks x = none) : Found ks x j false := by
  refine ⟨hj, h1, fun t ht hle => ?_, ⟨fun h => (by cases h), fun ⟨h, e⟩ => absurd e (lookK_none hn j h)⟩⟩
  rcases Nat.lt_or_ge j t with h | h
  · intro h9
    exact h2 (by omega) (List.lt_trans (up_pair hu j t h ht) h9)
  · obtain rfl : t = j := by omega
    exact h2 ht
theorem updk_cons {k : Int} {T T' : JT} {s : Stp} {r : List Stp} {y : V} (hr : r ≠ []) : UpdK k T (s :: r) y T' ↔ ∃ i t t', kidOf T.x T.ks T.ts.length s = some i ∧ T.ts[i]? = some t ∧ UpdK k t r y t' ∧ T' = .node T.x T.ks (T.ts.set i t') := by
  cases r with
  | nil => exact absurd rfl hr
  | cons q r => rw [UpdK]
end Go.Proofs.YtegbjkjeoegfbaaDoor
