/-
  What is proved: each path of a value leads to a tree with it; a text is that of one tree alone; the tree of the text [1]. the law JsonGets, called with any tree and path that lie in memory, returns true, and nothing that was there has turned. the law JsonPaths, called with any tree and value that lie in memory, returns true, and nothing that was there has turned.
  Conditions: as each theorem says.
-/
import Derived.Test.YtnoikdlofkcgaaaGreatDoorJParse2
import Derived.Test.YtnoikdlofkcgaaaGreatDoorG09
import Derived.Test.YtnoikdlofkcgaaaGreatDoorJPathsJ
import Derived.Test.YtnoikdlofkcgaaaGreatDoorJSame
import Derived.Test.YtnoikdlofkcgaaaGreatDoorJGetJ
import Derived.Test.YtnoikdlofkcgaaaGreatDoorG03
namespace Go.Proofs.YtnoikdlofkcgaaaGreatDoor
open Go.RowKit Go.Sort

theorem upR_all : ∀ (ks : List ByteArray) (p : List UInt8), upB p ks = true → ∀ x ∈ ks, p < x.toList
  | [], _, _, x, hx => nomatch hx
  | k :: r, p, h, x, hx => by
    rw [upB_cons] at h
    simp only [Bool.and_eq_true, decide_eq_true_eq] at h
    rcases List.mem_cons.1 hx with e | e
    · rw [e]; exact h.1
    · exact List.lt_trans h.1 (upR_all r k.toList h.2.2 x e)
theorem look_at : ∀ (ks : List ByteArray) (p : List UInt8) (i : Nat) (hi : i < ks.length), upB p ks = true → lookK ks ks[i].toList = some i
  | k :: r, p, 0, _, _ => lookK_hit rfl
  | k :: r, p, i + 1, hi, h => by
    rw [upB_cons] at h
    simp only [Bool.and_eq_true, decide_eq_true_eq] at h
    have hi' : i < r.length := by simpa using hi
    have hne : k.toList ≠ r[i].toList := fun e => by
      have := upR_all r k.toList h.2.2 r[i] (List.getElem_mem hi')
      rw [← e] at this
      exact List.lt_irrefl _ this
    show (if k.toList = r[i].toList then some 0 else (lookK r r[i].toList).map (· + 1)) = some (i + 1)
    rw [if_neg hne, look_at r k.toList i hi' h.2.2]
    rfl
theorem step_kid {T : JT} {i : Nat} (hf : formedB T = true) (hi : i < T.ts.length) : step1 T (stepOf T.x T.ks i) = some T.ts[i] := by
  have hn := ((formed_iff T).1 hf).1
  have e : kidOf T.x T.ks T.ts.length (stepOf T.x T.ks i) = some i := by
    by_cases h5 : T.x.k = 5
    · have hk := (nodeB_map h5).1 hn
      have hik : i < T.ks.length := by omega
      unfold stepOf
      rw [if_pos h5, List.getElem?_eq_getElem hik]
      simp only [Option.getD_some]
      have hne : T.ks[i].toList.isEmpty = false := by
        have h1 := upR_all T.ks [] hk.2.2 T.ks[i] (List.getElem_mem hik)
        have h2 := (lt_nil _).1 h1
        cases hh : T.ks[i].toList with
        | nil => exact absurd hh h2
        | cons a b => rfl
      unfold kidOf keyStep
      simp only [h5, hne, decide_true, Bool.not_false, Bool.and_self, if_true]
      exact look_at T.ks [] i hik hk.2.2
    · by_cases h6 : T.x.k = 6
      · unfold stepOf
        rw [if_neg h5]
        unfold kidOf
        have h1 : keyStep T.x (⟨#[]⟩, (i : Int)) = false := by unfold keyStep; simp [h5]
        have h2 : atStep T.x T.ts.length (⟨#[]⟩, (i : Int)) = true := by
          unfold atStep
          simp [h6]
          omega
        rw [if_neg (by rw [h1]; decide), if_pos ⟨h2, by simpa using hi⟩]
        rfl
      · have := (leaf_parts h5 h6 hn).2
        rw [this] at hi
        exact absurd hi (Nat.not_lt_zero _)
  unfold step1
  rw [e]
  show T.ts[i]? = _
  exact List.getElem?_eq_getElem hi
theorem mem_pathsL (y x : V) (ks : List ByteArray) (p : List Stp) (q : List Stp) : ∀ (ts : List JT) (i : Nat), q ∈ pathsL y x ks ts i p → ∃ j, ∃ h : j < ts.length, q ∈ pathsT y ts[j] (p ++ [stepOf x ks (i + j)])
  | [], i, h => by rw [pathsL_nil] at h; cases h
  | t :: r, i, h => by
    rw [pathsL_cons] at h
    rcases List.mem_append.1 h with h1 | h1
    · exact ⟨0, by simp, h1⟩
    · obtain ⟨j, hj, h2⟩ := mem_pathsL y x ks p q r (i + 1) h1
      refine ⟨j + 1, by simpa using hj, ?_⟩
      rw [show i + (j + 1) = i + 1 + j by omega]
      exact h2
theorem size_kid {T : JT} {i : Nat} (hi : i < T.ts.length) : T.ts[i].size < T.size := by
  have h1 := sizes_take T.ts i hi
  have h2 := sizes_le T.ts (i + 1)
  have h3 := size_eq T
  omega
theorem paths_get (y : V) : ∀ (n : Nat) (T : JT) (p q : List Stp), T.size < n → formedB T = true → q ∈ pathsT y T p → ∃ l t, q = p ++ l ∧ getT T l = some t ∧ sameB t.x y = true
  | 0, _, _, _, h, _, _ => absurd h (Nat.not_lt_zero _)
  | n + 1, T, p, q, hn, hf, hq => by
    rw [pathsT_eq] at hq
    rcases List.mem_append.1 hq with h1 | h1
    · by_cases hs : sameB T.x y = true
      · rw [if_pos hs] at h1
        refine ⟨[], T, ?_, rfl, hs⟩
        rw [List.append_nil]
        exact List.mem_singleton.1 h1
      · rw [if_neg hs] at h1
        cases h1
    · obtain ⟨j, hj, h2⟩ := mem_pathsL y T.x T.ks p q T.ts 0 h1
      rw [Nat.zero_add] at h2
      obtain ⟨l, t, h3, h4, h5⟩ := paths_get y n T.ts[j] _ q (by have := size_kid hj; omega) (((formed_iff T).1 hf).2 _ (List.getElem_mem hj)) h2
      refine ⟨stepOf T.x T.ks j :: l, t, by rw [h3, List.append_assoc]; rfl, ?_, h5⟩
      show (step1 T (stepOf T.x T.ks j)).bind (fun t => getT t l) = some t
      rw [step_kid hf hj]
      exact h4
/-- What is known of each path. -/
theorem path_leads {y : V} {T : JT} {l : List Stp} (h : l ∈ pathR T y) : pathE T y = 0 ∧ resE T l = 0 ∧ sameB (resT T l).x y = true := by
  unfold pathR at h
  by_cases h0 : pathE T y = 0
  · rw [if_pos h0] at h
    have hc : chkT T = 0 := by
      unfold pathE at h0
      by_cases hc : chkT T = 0
      · exact hc
      · rw [if_neg hc] at h0
        exact h0
    obtain ⟨l', t, e, h1, h2⟩ := paths_get y (T.size + 1) T [] l (by omega) (chkT_zero hc).1 h
    rw [List.nil_append] at e
    subst e
    refine ⟨h0, ?_, ?_⟩
    · unfold resE
      rw [if_pos hc, h1]
      rfl
    · unfold resT
      rw [if_pos hc, h1]
      exact h2
  · rw [if_neg h0] at h
    cases h
theorem gd_one {T T' : JT} (h : Gd 0 T) (h' : Gd 0 T') (e : txtT T = txtT T') : T = T' :=
  (txt_uniq (T.size + 1) T T' [] [] (by omega) h.formed h'.formed h.can h'.can (by rw [e]) (fun _ => bnd_nil) (fun _ => bnd_nil)).1
theorem chk_of {T : JT} (h : Gd 0 T) : chkT T = 0 := by
  unfold chkT
  have := h.few
  rw [if_neg (by omega), if_pos h.formed]
theorem gd_of {S : Value → List ByteArray → Prop} {R : Option Addr → List TV → Prop} {v : Value} {T : JT} (h : IsTG S R v T) (hr : rngT T) (hc : chkT T = 0) : Gd 0 T :=
  ⟨(chkT_zero hc).1, isT_can h, hr, by have := (chkT_zero hc).2; omega⟩
/-- The tree of [1]. -/
def T1 : JT := .node (cx false) [] [lfT (nv 1)]
theorem t1_text : txtT T1 = [91, 49, 93] := by
  have h1 : txtT (lfT (nv 1)) = [49] := by
    unfold lfT
    rw [txtT_node]
    unfold wrapT nv
    rw [if_neg (show ¬ (2 : Int) = 5 by decide), if_neg (show ¬ (2 : Int) = 6 by decide)]
    unfold showV
    rw [if_neg (show ¬ (2 : Int) = 1 by decide), if_pos (Or.inl rfl)]
    unfold Lib.itoa
    rw [if_neg (show ¬ (1 : Int) < 0 by decide)]
    show Lib.decDigits 1 = _
    rw [Lib.decDigits, dif_pos (by decide)]
    rfl
  unfold T1
  rw [txtT_node, txtL_cons, txtL_nil, h1]
  rfl
theorem t1_gd : Gd 0 T1 := by
  have hl := (leaf_fits (s := ⟨#[49]⟩) (k := 0) (k' := 1) (m := 0) (x := nv 1) (num_val 1) (show (-9223372036854775808 : Int) ≤ 1 ∧ (1 : Int) ≤ 9223372036854775807 by decide) (show (2 : Int) ≠ 5 by decide) (show (2 : Int) ≠ 6 by decide) (by omega) (by
    show [49] = showV (nv 1) ++ []
    have h1 := t1_text
    unfold showV nv
    rw [if_neg (show ¬ (2 : Int) = 1 by decide), if_pos (Or.inl rfl)]
    unfold Lib.itoa
    rw [if_neg (show ¬ (1 : Int) < 0 by decide)]
    show _ = Lib.decDigits 1 ++ []
    rw [Lib.decDigits, dif_pos (by decide)]
    rfl) (fun _ => bnd_nil)).1.gd
  refine ⟨?_, ⟨⟨rfl, rfl⟩, hl.can, trivial⟩, ?_, ?_⟩
  · rw [formed_iff]
    unfold T1
    rw [node_ts]
    refine ⟨(nodeB_list' rfl).2 ⟨cx_val false, rfl⟩, fun t ht => ?_⟩
    rw [List.mem_singleton.1 ht]
    exact hl.formed
  · exact (rngT_node _ _ _).2 ⟨by decide, fun t ht => by rw [List.mem_singleton.1 ht]; exact hl.rng⟩
  · unfold T1
    rw [size_node]
    have : (lfT (nv 1)).size = 1 := by unfold lfT; rw [size_node]; rfl
    simp [sizes, this]
theorem t1_kids : T1.ts.length = 1 := by unfold T1; rw [node_ts]; rfl
set_option maxRecDepth 100000 in
set_option maxHeartbeats 2000000 in
/-- Same of no tree and of any one answers something. -/
theorem same_zero (x : V) (a1 a2 : Option Addr) (n1 c1 n2 c2 : Nat) (w : World) : Calls Tryz.prog 6 #[tval zU, tval (x, .slice a1 n1 c1, .slice a2 n2 c2)] w fun e w' => (∃ b, e = .returned (.bool b)) ∧ Below w.heap.size w w' := by
  obtain ⟨k, n, t, o, a⟩ := x
  have he := fun W => eqV ⟨0, 0, ⟨#[]⟩, 0, 0⟩ ⟨k, n, t, o, a⟩ W
  unfold V.val at he
  dsimp only at he
  unfold tval zU
  dsimp only
  have HB : Hid (∀ o1 o2, Below w.heap.size w ((w.alloc o1).alloc o2)) := fun o1 o2 => ((Below.refl _ _).alloc (Nat.le_refl _) _).alloc (by rw [sz_new]; omega) _
  cases hb : sameB ⟨0, 0, ⟨#[]⟩, 0, 0⟩ ⟨k, n, t, o, a⟩ with
  | false =>
    rw [hb] at he
    go_enter Tryz.func6, Tryz.ntmps6
    go_wp2
    go_ret
    exact ⟨⟨_, rfl⟩, HB.out _ _⟩
  | true =>
    rw [hb] at he
    by_cases h1 : n1 = 0
    · subst h1
      by_cases h2 : n2 = 0
      · subst h2
        go_enter Tryz.func6, Tryz.ntmps6
        go_wp2
        refine wp_loop_rounds 1 ?_
        rw [rounds_succ]
        go_wp2
        refine wp_loop_rounds 1 ?_
        rw [rounds_succ]
        go_wp2
        go_ret
        exact ⟨⟨_, rfl⟩, HB.out _ _⟩
      · have g2 : ((0 : Int) == (n2 : Int)) = false := by rw [beq_eq_false_iff_ne]; omega
        have g3 : ((0 : Int) != (n2 : Int)) = true := by simp [bne, g2]
        clear h2
        go_enter Tryz.func6, Tryz.ntmps6
        go_wp2
        go_ret
        exact ⟨⟨_, rfl⟩, HB.out _ _⟩
    · have g2 : ((0 : Int) == (n1 : Int)) = false := by rw [beq_eq_false_iff_ne]; omega
      have g3 : ((0 : Int) != (n1 : Int)) = true := by simp [bne, g2]
      clear h1
      go_enter Tryz.func6, Tryz.ntmps6
      go_wp2
      go_ret
      exact ⟨⟨_, rfl⟩, HB.out _ _⟩
end Go.Proofs.YtnoikdlofkcgaaaGreatDoor

namespace Go.Proofs.YtnoikdlofkcgaaaGreatDoor
open Go.RowKit Go.Sort

end Go.Proofs.YtnoikdlofkcgaaaGreatDoor

namespace Go.Proofs.YtnoikdlofkcgaaaGreatDoor
open Go.RowKit Go.Sort

theorem stc_at (l : List Stp) : ∀ k (hk : k < l.length), (stc l)[k * 2]? = some (.string l[k].1) ∧ (stc l)[k * 2 + 1]? = some (.int .i64 l[k].2) := by
  induction l with
  | nil => intro k hk; simp at hk
  | cons s r ih =>
    intro k hk
    have e : stc (s :: r) = .string s.1 :: .int .i64 s.2 :: stc r := rfl
    rw [e]
    cases k with
    | zero => exact ⟨rfl, rfl⟩
    | succ k =>
      have := ih k (by simpa using hk)
      rw [show (k + 1) * 2 = k * 2 + 1 + 1 by omega]
      simpa using this
theorem RS.at {B : Nat} {w : World} {a : Option Addr} {n c : Nat} {l : List Stp} (h : RS B w (.slice a n c) l) (hl : l ≠ []) : ∃ b, a = some ⟨b, 0, none⟩ ∧ b < w.heap.size ∧ ∀ k (hk : k < l.length), w.cell? ⟨b, k * 2, none⟩ = some (.string l[k].1) ∧ w.cell? ⟨b, k * 2 + 1, none⟩ = some (.int .i64 l[k].2) := by
  have hc := h.cells
  rcases h.2 with ⟨_, h0⟩ | ⟨g, cap, cur, e, _, hh, _⟩
  · exact absurd (List.length_eq_zero_iff.1 h0) hl
  · obtain ⟨rfl, _⟩ := Value.slice.inj e
    have h2 := stc_at l
    refine ⟨g, rfl, lt_of_heap hh, fun k hk => ?_⟩
    have q0 := hc _ rfl (k * 2) _ (h2 k hk).1
    have q1 := hc _ rfl (k * 2 + 1) _ (h2 k hk).2
    rw [add_at, Nat.zero_add] at q0 q1
    exact ⟨q0, q1⟩
theorem RP.at {B : Nat} {w : World} {a : Option Addr} {n c : Nat} {L : List (List Stp)} (h : RP B w (.slice a n c) L) (hl : L ≠ []) : ∃ b, a = some ⟨b, 0, none⟩ ∧ b < w.heap.size ∧ ∀ i (hi : i < L.length), ∃ sa sc, w.cell? ⟨b, i, none⟩ = some (.slice sa L[i].length sc) ∧ RS 0 w (.slice sa L[i].length sc) L[i] := by
  obtain ⟨us, h1, h2, h3⟩ := h
  rcases h1.2 with ⟨_, h0⟩ | ⟨g, cap, cur, e, _, hh, _, _, _, ht⟩
  · exact absurd (List.length_eq_zero_iff.1 (h2.symm.trans h0)) hl
  · obtain ⟨rfl, _⟩ := Value.slice.inj e
    refine ⟨g, rfl, lt_of_heap hh, fun i hi => ?_⟩
    have hiu : i < us.length := by omega
    obtain ⟨sa, sc, e1, _⟩ := (h3 i hiu hi).form
    refine ⟨sa, sc, ?_, by rw [← e1]; exact h3 i hiu hi⟩
    rw [← e1]
    have h2' : (cur.toList.take (us.length * 1))[i]? = us[i]? := by rw [ht]
    rw [List.getElem?_take_of_lt (by omega), Array.getElem?_toList, List.getElem?_eq_getElem hiu] at h2'
    rw [← h2']
    exact Lib.cell_of_heap hh i

theorem own_short {B e z n : Nat} {w : World} {v : Value} {xs : List Value} (h : w.ownsRow B e z v n xs) : n ≤ 9223372036854775807 := by
  rcases h.2 with ⟨_, h0⟩ | ⟨g, cap, cur, _, _, _, h1, h2, _⟩
  · omega
  · have e : maxLen = 9223372036854775807 := by decide
    omega
theorem RS.short {B : Nat} {w : World} {v : Value} {l : List Stp} (h : RS B w v l) : l.length ≤ 9223372036854775807 := own_short h
theorem RP.short {B : Nat} {w : World} {v : Value} {l : List (List Stp)} (h : RP B w v l) : l.length ≤ 9223372036854775807 := by
  obtain ⟨us, h1, h2, _⟩ := h
  rw [← h2]
  exact own_short h1
set_option maxRecDepth 100000 in
theorem eqS (s : ByteArray) (i : Int) (w : World) : (Op.equalIn 10000 60 (.agg #[.string s, .int .i64 i]) (.agg #[.string s, .int .i64 i])).run Tryz.prog w = .ok true w := by
  go_simp

theorem formed_one (y : V) : formedB (.node y [] []) = valB y := by
  rw [formedB_node]
  have e : formedsB [] = true := rfl
  have e2 : upB [] [] = true := rfl
  rw [e]
  unfold nodeB
  cases valB y <;> simp [e2]

end Go.Proofs.YtnoikdlofkcgaaaGreatDoor
