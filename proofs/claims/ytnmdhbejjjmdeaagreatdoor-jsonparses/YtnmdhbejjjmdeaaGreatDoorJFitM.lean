/-
  What is proved: what it is that a text goes on with a tree, or with a key and a tree, and what things read one by one are together.
  Conditions: as each theorem says.
-/
import Derived.Test.YtnmdhbejjjmdeaaGreatDoorP09
import Derived.Test.YtnmdhbejjjmdeaaGreatDoorP11
namespace Go.Proofs.YtnmdhbejjjmdeaaGreatDoor
open Go.RowKit Go.Sort

/-- A tree that is one, has few trees, and numbers of 64 bits. -/
structure Gd (m : Nat) (T : JT) : Prop where
  formed : formedB T = true
  can : CanT T
  rng : rngT T
  few : m + T.size ≤ 400
/-- A thing's text. -/
def thT (mp : Bool) (key : ByteArray) (T : JT) : List UInt8 := (if mp = true then quote key.data.toList ++ [58] else []) ++ txtT T
/-- A text goes on with a thing, and then with something else. -/
structure Fits (mp : Bool) (ks : List ByteArray) (m : Nat) (l : List UInt8) (key : ByteArray) (T : JT) (r : List UInt8) : Prop where
  gd : Gd m T
  kok : mp = true → keyOk ks key.data.toList ∧ key.size ≤ 20
  text : l = thT mp key T ++ r
  bd : T.x.k = 2 → bnd r
theorem fits_uniq {mp : Bool} {ks ks' : List ByteArray} {m m' : Nat} {l r r' : List UInt8} {key key' : ByteArray} {T T' : JT} (h : Fits mp ks m l key T r) (h' : Fits mp ks' m' l key' T' r') : T = T' ∧ r = r' ∧ (mp = true → key = key') := by
  have e := h.text.symm.trans h'.text
  unfold thT at e
  cases mp with
  | false =>
    simp only [Bool.false_eq_true, if_false, List.nil_append] at e
    obtain ⟨e1, e2⟩ := txt_uniq (T.size + 1) T T' r r' (by omega) h.gd.formed h'.gd.formed h.gd.can h'.gd.can e h.bd h'.bd
    exact ⟨e1, e2, fun h => by cases h⟩
  | true =>
    simp only [if_true, List.append_assoc] at e
    obtain ⟨g1, g2⟩ := quote_uniq e
    obtain ⟨e1, e2⟩ := txt_uniq (T.size + 1) T T' r r' (by omega) h.gd.formed h'.gd.formed h.gd.can h'.gd.can (List.append_cancel_left g2) h.bd h'.bd
    exact ⟨e1, e2, fun _ => ba_eq g1⟩
theorem lt_nil (l : List UInt8) : ([] : List UInt8) < l ↔ l ≠ [] := by
  cases l with
  | nil => simp
  | cons a b => simp
theorem up_snoc (key : ByteArray) : ∀ (ks : List ByteArray) (p : List UInt8), upB p (ks ++ [key]) = true ↔ upB p ks = true ∧ (∀ x ∈ ks.getLast?, x.toList < key.toList) ∧ (ks = [] → p < key.toList) ∧ key.size ≤ 20
  | [], p => by
    rw [List.nil_append, upB_cons]
    simp [upB]
  | k :: r, p => by
    rw [List.cons_append, upB_cons, upB_cons]
    simp only [Bool.and_eq_true, decide_eq_true_eq]
    rw [up_snoc key r k.toList]
    cases r with
    | nil => simp; constructor <;> (intro h; simp_all)
    | cons a b =>
      simp only [List.getLast?_cons_cons]
      constructor
      · rintro ⟨h1, h2, h3, h4, h5, h6⟩
        exact ⟨⟨h1, h2, h3⟩, h4, (fun h => nomatch h), h6⟩
      · rintro ⟨⟨h1, h2, h3⟩, h4, _, h6⟩
        exact ⟨h1, h2, h3, h4, (fun h => nomatch h), h6⟩
theorem up_ok (ks : List ByteArray) (key : ByteArray) : upB [] (ks ++ [key]) = true ↔ upB [] ks = true ∧ keyOk ks key.data.toList ∧ key.size ≤ 20 := by
  rw [up_snoc, ba_listR]
  unfold keyOk
  constructor
  · rintro ⟨h1, h2, h3, h4⟩
    refine ⟨h1, ⟨?_, h2⟩, h4⟩
    cases ks with
    | nil => exact (lt_nil _).1 (h3 rfl)
    | cons a b =>
      intro e
      obtain ⟨x, hx⟩ : ∃ x, (a :: b).getLast? = some x := ⟨_, List.getLast?_eq_some_getLast (by simp)⟩
      have := h2 x (by rw [hx]; rfl)
      rw [e] at this
      simp at this
  · rintro ⟨h1, ⟨h2, h3⟩, h4⟩
    exact ⟨h1, h3, fun _ => (lt_nil _).2 h2, h4⟩
theorem up_take (ks : List ByteArray) : ∀ (p : List UInt8) (n : Nat), upB p ks = true → upB p (ks.take n) = true := by
  induction ks with
  | nil => intro p n h; simpa using h
  | cons k r ih =>
    intro p n h
    cases n with
    | zero => rfl
    | succ n =>
      rw [List.take_succ_cons]
      rw [upB_cons] at h ⊢
      simp only [Bool.and_eq_true, decide_eq_true_eq] at h ⊢
      exact ⟨h.1, h.2.1, ih _ n h.2.2⟩
theorem lft_step {s : ByteArray} {k : Nat} {c : UInt8} (h : preB s k ⟨#[c]⟩ = true) : lft s k = c :: lft s (k + 1) := by
  have hk := pre_room h rfl
  unfold preB at h
  unfold lft at h ⊢
  have hl : k < s.data.toList.length := by rw [Array.length_toList]; exact hk
  rw [List.drop_eq_getElem_cons hl] at h ⊢
  have : c = s.data.toList[k] := by simpa [Lib.hasPrefix] using h
  rw [← this]
theorem pre_of {s : ByteArray} {k : Nat} {c : UInt8} {r : List UInt8} (h : lft s k = c :: r) : preB s k ⟨#[c]⟩ = true := by
  unfold preB
  rw [h]
  simp [Lib.hasPrefix]
theorem txtL_keys (m : Bool) (ks ks' : List ByteArray) : ∀ (ts : List JT) (i : Nat), (m = true → ∀ j, i ≤ j → j < i + ts.length → ks[j]? = ks'[j]?) → txtL m ks ts i = txtL m ks' ts i
  | [], i, _ => by rw [txtL_nil, txtL_nil]
  | t :: r, i, h => by
    rw [txtL_cons, txtL_cons, txtL_keys m ks ks' r (i + 1) (fun hm j h1 h2 => h hm j (by omega) (by simp only [List.length_cons]; omega))]
    have e : keyT m ks i = keyT m ks' i := by
      unfold keyT
      by_cases hm : m = true
      · rw [if_pos hm, if_pos hm, h hm i (Nat.le_refl _) (by simp)]
      · rw [if_neg hm, if_neg hm]
    rw [e]
theorem txtL_snoc (m : Bool) (ks : List ByteArray) (ts : List JT) (T : JT) : txtL m ks (ts ++ [T]) 0 = txtL m ks ts 0 ++ (sep ts.length ++ (keyT m ks ts.length ++ txtT T)) := by
  have h := txtL_take m ks (ts ++ [T]) 0 ts.length (by simp)
  rw [List.take_of_length_le (by simp), List.take_left' rfl] at h
  rw [h]
  simp

/-- The keys and the trees read so far. -/
abbrev Sg := List ByteArray × List JT
/-- A thing was read. -/
def Nx (mp : Bool) (s : ByteArray) (x : Sg) (k m : Nat) (x' : Sg) (k' m' : Nat) : Prop :=
  ∃ key T, Fits mp x.1 m (lft s k) key T (lft s k') ∧ x' = (if mp = true then x.1 ++ [key] else x.1, x.2 ++ [T]) ∧ m' = m + T.size
/-- What is thrown is a fault. -/
def IsF (v : Value) : Prop := ∃ (k : Nat) (e : Int), v = faultV k e ∧ (e = 2 ∨ e = 4)
/-- No thing stands there. -/
def Bx (mp : Bool) (s : ByteArray) (x : Sg) (k m : Nat) (v : Value) : Prop := IsF v ∧ ∀ key T r, ¬ Fits mp x.1 m (lft s k) key T r

/-- What things read one by one are. -/
structure Got (mp : Bool) (s : ByteArray) (k0 m0 n : Nat) (x : Sg) (k m : Nat) : Prop where
  len : x.2.length = n
  keys : mp = true → x.1.length = n ∧ upB [] x.1 = true
  none : mp = false → x.1 = []
  text : lft s k0 = txtL mp x.1 x.2 0 ++ lft s k
  size : m = m0 + sizes x.2
  good : ∀ t ∈ x.2, formedB t = true ∧ CanT t ∧ rngT t
  few : m0 ≤ 400 → m ≤ 400
theorem Got.step {mp : Bool} {s : ByteArray} {k0 m0 n : Nat} {x x' : Sg} {k k1 m k' m' : Nat} (h : Got mp s k0 m0 n x k m) (hs : lft s k = sep n ++ lft s k1) (hx : Nx mp s x k1 m x' k' m') : Got mp s k0 m0 (n + 1) x' k' m' := by
  obtain ⟨key, T, hf, rfl, rfl⟩ := hx
  have hlen := h.len
  have htx : lft s k0 = txtL mp (if mp = true then x.1 ++ [key] else x.1) (x.2 ++ [T]) 0 ++ lft s k' := by
    rw [h.text, hs, hf.text, txtL_snoc]
    have e1 : txtL mp (if mp = true then x.1 ++ [key] else x.1) x.2 0 = txtL mp x.1 x.2 0 := by
      apply txtL_keys
      intro hm j _ hj
      rw [if_pos hm, List.getElem?_append_left (by have := (h.keys hm).1; omega)]
    have e2 : keyT mp (if mp = true then x.1 ++ [key] else x.1) x.2.length = (if mp = true then quote key.data.toList ++ [58] else []) := by
      unfold keyT
      by_cases hm : mp = true
      · rw [if_pos hm, if_pos hm, if_pos hm, List.getElem?_append_right (by have := (h.keys hm).1; omega)]
        have : x.2.length - x.1.length = 0 := by have := (h.keys hm).1; omega
        rw [this]
        rfl
      · rw [if_neg hm, if_neg hm]
    rw [e1, e2, hlen]
    unfold thT
    simp only [List.append_assoc]
  refine ⟨by simp [hlen], fun hm => ?_, fun hm => ?_, htx, ?_, fun t ht => ?_, fun _ => hf.gd.few⟩
  · rw [if_pos hm]
    exact ⟨by simp [(h.keys hm).1], (up_ok _ _).2 ⟨(h.keys hm).2, (hf.kok hm).1, (hf.kok hm).2⟩⟩
  · rw [if_neg (by rw [hm]; decide)]
    exact h.none hm
  · rw [sizes_append, h.size]
    simp [sizes]
    omega
  · rcases List.mem_append.1 ht with h1 | h1
    · exact h.good t h1
    · rw [List.mem_singleton.1 h1]
      exact ⟨hf.gd.formed, hf.gd.can, hf.gd.rng⟩
theorem ch_got {mp : Bool} {s en : ByteArray} {k0 m0 : Nat} : ∀ (n : Nat) (x : Sg) (k m : Nat), Ch s en (Nx mp s) ([], []) k0 m0 n x k m → Got mp s k0 m0 n x k m
  | 0, x, k, m, h => by
    obtain ⟨rfl, rfl, rfl⟩ := h
    exact ⟨rfl, fun _ => ⟨rfl, rfl⟩, fun _ => rfl, by rw [txtL_nil]; rfl, by simp [sizes], (fun t ht => nomatch ht), fun h => h⟩
  | n + 1, x, k, m, h => by
    obtain ⟨x1, k1, m1, h1, _, h3⟩ := h
    have g := ch_got n x1 k1 m1 h1
    rcases h3 with ⟨rfl, hN⟩ | ⟨hn, hc, hN⟩
    · exact g.step rfl hN
    · refine g.step ?_ hN
      rw [lft_step hc, sep, if_neg hn]
      rfl
/-- Things that stand there, whether they are read or not. -/
structure Hyp (mp : Bool) (s : ByteArray) (e : UInt8) (r : List UInt8) (k0 m0 : Nat) (KS : List ByteArray) (TS : List JT) : Prop where
  en : e = 93 ∨ e = 125
  keys : mp = true → KS.length = TS.length ∧ upB [] KS = true
  text : lft s k0 = txtL mp KS TS 0 ++ e :: r
  good : ∀ t ∈ TS, formedB t = true ∧ CanT t ∧ rngT t
  few : m0 + sizes TS ≤ 400
/-- So many of them were read. -/
structure Upto (mp : Bool) (s : ByteArray) (e : UInt8) (r : List UInt8) (k0 m0 : Nat) (KS : List ByteArray) (TS TS' : List JT) (n : Nat) (x : Sg) (k m : Nat) : Prop where
  list : TS = x.2 ++ TS'
  len : x.2.length = n
  keys : mp = true → x.1 = KS.take n
  text : lft s k = txtL mp KS TS' n ++ e :: r
  size : m = m0 + sizes x.2
theorem bnd_rest {m : Bool} {e : UInt8} (he : e = 93 ∨ e = 125) (ts : List JT) (ks : List ByteArray) (i : Nat) (r : List UInt8) : bnd (txtL m ks ts (i + 1) ++ e :: r) := by
  intro c hc
  cases ts with
  | nil =>
    rw [txtL_nil] at hc
    obtain rfl : e = c := by simpa using hc
    rcases he with h | h <;> rw [h] <;> decide
  | cons t a =>
    rw [txtL_cons] at hc
    unfold sep at hc
    rw [if_neg (by omega)] at hc
    obtain rfl : (44 : UInt8) = c := by simpa using hc
    decide
theorem Upto.next {mp : Bool} {s : ByteArray} {e : UInt8} {r : List UInt8} {k0 m0 : Nat} {KS : List ByteArray} {TS TS' : List JT} {n : Nat} {x : Sg} {k m : Nat} (H : Hyp mp s e r k0 m0 KS TS) (h : Upto mp s e r k0 m0 KS TS TS' n x k m) (hno : preB s k ⟨#[e]⟩ = false) :
    ∃ t a, TS' = t :: a ∧ (n ≠ 0 → preB s k com = true) ∧ Fits mp x.1 m (lft s (if n = 0 then k else k + 1)) (KS[n]?.getD ⟨#[]⟩) t (txtL mp KS a (n + 1) ++ e :: r) := by
  cases TS' with
  | nil =>
    have ht := h.text
    rw [txtL_nil] at ht
    rw [pre_of ht] at hno
    cases hno
  | cons t a =>
    have ht := h.text
    rw [txtL_cons] at ht
    have hcom : n ≠ 0 → preB s k com = true := fun hn => by
      unfold sep at ht
      rw [if_neg hn] at ht
      exact pre_of ht
    have htm : t ∈ TS := by rw [h.list]; simp
    have hsz : sizes TS = sizes x.2 + (t.size + sizes a) := by rw [h.list, sizes_append]; rfl
    refine ⟨t, a, rfl, hcom, ⟨⟨(H.good t htm).1, (H.good t htm).2.1, (H.good t htm).2.2, ?_⟩, fun hm => ?_, ?_, fun _ => bnd_rest H.en a KS n r⟩⟩
    · have := H.few
      have := h.size
      omega
    · have hk := H.keys hm
      have hn : n < KS.length := by
        have := h.len
        rw [hk.1, h.list, List.length_append, List.length_cons]
        omega
      have h1 := up_take KS [] (n + 1) hk.2
      rw [List.take_succ_eq_append_getElem hn] at h1
      have h2 := ((up_ok _ _).1 h1).2
      rw [List.getElem?_eq_getElem hn, h.keys hm]
      exact h2
    · have e1 : (if mp = true then quote (KS[n]?.getD ⟨#[]⟩).data.toList ++ [58] else []) = keyT mp KS n := rfl
      unfold thT
      rw [e1]
      by_cases hn : n = 0
      · rw [if_pos hn]
        rw [ht]
        unfold sep
        rw [if_pos hn]
        simp
      · rw [if_neg hn]
        have h2 := lft_step (hcom hn)
        rw [ht] at h2
        unfold sep at h2
        rw [if_neg hn] at h2
        have h3 := (List.cons.inj h2).2
        rw [← h3]
        simp
theorem ch_upto {mp : Bool} {s : ByteArray} {e : UInt8} {r : List UInt8} {k0 m0 : Nat} {KS : List ByteArray} {TS : List JT} (H : Hyp mp s e r k0 m0 KS TS) : ∀ (n : Nat) (x : Sg) (k m : Nat), Ch s ⟨#[e]⟩ (Nx mp s) ([], []) k0 m0 n x k m → ∃ TS', Upto mp s e r k0 m0 KS TS TS' n x k m
  | 0, x, k, m, h => by
    obtain ⟨rfl, rfl, rfl⟩ := h
    exact ⟨TS, rfl, rfl, fun _ => by simp, H.text, by simp [sizes]⟩
  | n + 1, x, k, m, h => by
    obtain ⟨x1, k1, m1, h1, hno, h3⟩ := h
    obtain ⟨TS1, g⟩ := ch_upto H n x1 k1 m1 h1
    obtain ⟨t, a, rfl, hcom, hf⟩ := g.next H hno
    have hN : Nx mp s x1 (if n = 0 then k1 else k1 + 1) m1 x k m := by
      rcases h3 with ⟨h0, hN⟩ | ⟨hn, _, hN⟩
      · rw [if_pos h0]; exact hN
      · rw [if_neg hn]; exact hN
    obtain ⟨key, T, hf2, rfl, rfl⟩ := hN
    obtain ⟨rfl, e2, e3⟩ := fits_uniq hf2 hf
    refine ⟨a, ?_, by simp [g.len], fun hm => ?_, e2, ?_⟩
    · rw [g.list]; simp
    · rw [if_pos hm, g.keys hm, e3 hm]
      have hk := H.keys hm
      have hn : n < KS.length := by
        have := g.len
        rw [hk.1, g.list, List.length_append, List.length_cons]
        omega
      rw [List.take_succ_eq_append_getElem hn, List.getElem?_eq_getElem hn]
      rfl
    · rw [sizes_append, g.size]
      simp [sizes]
      omega
/-- What row throws: no such things stand there. -/
theorem rows_no {mp : Bool} {s : ByteArray} {e : UInt8} {r : List UInt8} {k0 m0 : Nat} {KS : List ByteArray} {TS : List JT} (H : Hyp mp s e r k0 m0 KS TS) {n : Nat} {x : Sg} {k m : Nat} {v : Value} (h : Ch s ⟨#[e]⟩ (Nx mp s) ([], []) k0 m0 n x k m) (hno : preB s k ⟨#[e]⟩ = false)
    (hb : (n = 0 ∧ Bx mp s x k m v) ∨ (n ≠ 0 ∧ preB s k com = false ∧ v = faultV k 2) ∨ (n ≠ 0 ∧ preB s k com = true ∧ Bx mp s x (k + 1) m v)) : False := by
  obtain ⟨TS', g⟩ := ch_upto H n x k m h
  obtain ⟨t, a, _, hcom, hf⟩ := g.next H hno
  rcases hb with ⟨h0, hB⟩ | ⟨hn, hc, _⟩ | ⟨hn, hc, hB⟩
  · rw [if_pos h0] at hf
    exact hB.2 _ _ _ hf
  · rw [hcom hn] at hc; cases hc
  · rw [if_neg hn] at hf
    exact hB.2 _ _ _ hf
/-- A map's or a list's value, its sign at the front and at the end. -/
def cx (mp : Bool) : V := ⟨if mp = true then 5 else 6, 0, ⟨#[]⟩, 0, 0⟩
def c0 (mp : Bool) : UInt8 := if mp = true then 123 else 91
def c1 (mp : Bool) : UInt8 := if mp = true then 125 else 93
theorem cx_val (mp : Bool) : valB (cx mp) = true := by
  cases mp <;> simp [cx, valB, okB, usedB, onlyV, sameB, idOkB] <;> rfl
/-- What was read up to the end is a tree. -/
theorem got_fits {mp : Bool} {s : ByteArray} {k m n kk mm : Nat} {x : Sg} (hl : lft s k = c0 mp :: lft s (k + 1)) (h : Got mp s (k + 1) (m + 1) n x kk mm) (he : preB s kk ⟨#[c1 mp]⟩ = true) (hm : m + 1 ≤ 400) :
    Fits false [] m (lft s k) ⟨#[]⟩ (.node (cx mp) x.1 x.2) (lft s (kk + 1)) ∧ mm = m + (JT.node (cx mp) x.1 x.2).size := by
  have hs := size_node (cx mp) x.1 x.2
  have hsz := h.size
  have hfew := h.few hm
  refine ⟨⟨⟨?_, ?_, ?_, by omega⟩, fun h => (by cases h), ?_, fun h2 => ?_⟩, by omega⟩
  · rw [formed_iff, node_ts]
    refine ⟨?_, fun t ht => (h.good t ht).1⟩
    show nodeB (cx mp) x.1 x.2.length = true
    cases mp with
    | true => exact (nodeB_map rfl).2 ⟨cx_val _, by rw [(h.keys rfl).1, h.len], (h.keys rfl).2⟩
    | false => exact (nodeB_list' rfl).2 ⟨cx_val _, h.none rfl⟩
  · show CanF (ofL x.2)
    have hg := h.good
    generalize x.2 = l at hg ⊢
    clear hs hsz
    induction l with
    | nil => trivial
    | cons t r ih => exact ⟨⟨rfl, rfl⟩, (hg t List.mem_cons_self).2.1, ih (fun t ht => hg t (List.mem_cons_of_mem _ ht))⟩
  · exact (rngT_node _ _ _).2 ⟨by cases mp <;> decide, fun t ht => (h.good t ht).2.2⟩
  · rw [hl, h.text, lft_step he]
    unfold thT
    rw [txtT_node]
    unfold wrapT
    cases mp with
    | true => simp [cx, c0, c1]
    | false => simp [cx, c0, c1]
  · have h3 : (cx mp).k = 2 := h2
    cases mp <;> cases h3
/-- A tree whose text begins so is a map, or a list. -/
theorem fits_hyp {mp : Bool} {s : ByteArray} {k m : Nat} {key : ByteArray} {T : JT} {r : List UInt8} (hl : lft s k = c0 mp :: lft s (k + 1)) (h : Fits false [] m (lft s k) key T r) : Hyp mp s (c1 mp) r (k + 1) (m + 1) T.ks T.ts := by
  obtain ⟨c, t, e1, hc⟩ := txt_head h.gd.formed
  have ht : lft s k = txtT T ++ r := by rw [h.text]; rfl
  have ec : c = c0 mp := by
    rw [hl, e1] at ht
    exact (List.cons.inj ht).1.symm
  have hk : T.x.k = (if mp = true then 5 else 6) := by
    have h2 : headOf (cx mp) (c0 mp) := by
      cases mp
      · exact Or.inr (Or.inr (Or.inr (Or.inr (Or.inr ⟨rfl, rfl⟩))))
      · exact Or.inr (Or.inr (Or.inr (Or.inr (Or.inl ⟨rfl, rfl⟩))))
    rw [ec] at hc
    have := head_one hc h2
    rw [this]
    rfl
  have hf := (formed_iff T).1 h.gd.formed
  have hcan := can_to T.kids h.gd.can
  have hrng := (rngT_eq T).1 h.gd.rng
  have hsz := size_eq T
  have hfew := h.gd.few
  have hx : lft s (k + 1) = txtL mp T.ks T.ts 0 ++ c1 mp :: r := by
    rw [hl, txtT_eq] at ht
    unfold wrapT at ht
    cases mp with
    | true =>
      have hk5 : T.x.k = 5 := by simpa using hk
      rw [if_pos hk5] at ht
      have := (List.cons.inj ht).2
      rw [this]
      simp [hk5, c1]
    | false =>
      have hk6 : T.x.k = 6 := by simpa using hk
      rw [if_neg (by omega), if_pos hk6] at ht
      have := (List.cons.inj ht).2
      rw [this]
      simp [hk6, c1]
  refine ⟨by cases mp <;> simp [c1], fun hm => ?_, hx, fun t ht => ⟨hf.2 t ht, hcan.2 t ht, hrng.2 t ht⟩, by omega⟩
  have hk5 : T.x.k = 5 := by rw [hk, if_pos hm]
  exact ((nodeB_map hk5).1 hf.1).2
end Go.Proofs.YtnmdhbejjjmdeaaGreatDoor
