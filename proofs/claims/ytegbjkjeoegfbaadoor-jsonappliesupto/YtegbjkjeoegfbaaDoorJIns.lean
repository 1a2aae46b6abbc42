/-
  What is proved: slices.Insert at texts and at trees, called with a row of one's own and one element in a row of its own, answers the row with that element between; all blocks but that row's are as they were.
  Conditions: as each theorem says.
-/
import Derived.Test.YtegbjkjeoegfbaaDoorJInsM
import Derived.Test.YtegbjkjeoegfbaaDoorJCopy
import Derived.Maps.AppendAt
namespace Go.Proofs.YtegbjkjeoegfbaaDoor
open Go.RowKit Go.Sort

/-- A copy whose end is known. -/
theorem wp_copyI {w : World} {ops : Array Oper} {rest : List Oper} {o : Oper} {a : Act} {Q : Exit → Act → World → Prop} (hgd : o.guard = none) (d s : Operand) (t t' : TypeId)
    (ho : o.op = .call { callee := .builtin .copy, args := #[d, s], argTypes := #[t, t'] }) (v u : Value) (hd : a.eval d = v) (hs : a.eval s = u) {r : Value} {w' : World}
    (hrun : (Builtin.copy_ #[t, t'] o.type #[v, u]).run Tryd.prog w = .ok r w') (h : wpList Tryd.prog ops Q rest (a.put o.dst r) w') : wpList Tryd.prog ops Q (o :: rest) a w := by
  refine wpList_plain hgd fun K hK => ?_
  unfold Oper.wp
  simp [execOp, ho, resolve, invoke, builtin, hd, hs, hrun, Result.andThen]
  exact hK _ _ h
/-- An append of noughts whose end is known. -/
theorem wp_append' {w : World} {ops : Array Oper} {rest : List Oper} {o : Oper} {a : Act} {Q : Exit → Act → World → Prop} (hgd : o.guard = none) (s x : Operand) (T T' : TypeId)
    (ho : o.op = .call { callee := .builtin .append, args := #[s, x], argTypes := #[T, T'] }) (v u r : Value) (w' : World) (hs : a.eval s = v) (hx : a.eval x = u)
    (hrun : (Builtin.append_ #[T, T'] o.type #[v, u]).run Tryd.prog w = .ok r w') (h : wpList Tryd.prog ops Q rest (a.put o.dst r) w') : wpList Tryd.prog ops Q (o :: rest) a w := by
  refine wpList_plain hgd fun K hK => ?_
  unfold Oper.wp
  simp [execOp, ho, resolve, invoke, builtin, hs, hx, hrun, Result.andThen]
  exact hK _ _ h
theorem step_copy_known {ops : Array Oper} {o : Oper} {a : Act} {w : World} {K : Act → World → Prop} {Q : Exit → Act → World → Prop} {E : Prop} (hgd : o.guard = none) (d s : Operand) (t t' : TypeId)
    (ho : o.op = .call { callee := .builtin .copy, args := #[d, s], argTypes := #[t, t'] }) (v u r : Value) (w' : World) (hd : a.eval d = v) (hs : a.eval s = u)
    (hrun : (Builtin.copy_ #[t, t'] o.type #[v, u]).run Tryd.prog w = .ok r w') (hK : K (a.put o.dst r) w') : if Region.wanted o (yielded ops a.tmps) = true then Oper.wp Tryd.prog o a w K Q else E := by
  have hw : Region.wanted o (yielded ops a.tmps) = true := by simp [Region.wanted, hgd]
  rw [if_pos hw]
  unfold Oper.wp
  simp [execOp, ho, resolve, invoke, builtin, hd, hs, hrun, Result.andThen]
  exact hK

set_option maxRecDepth 100000 in
set_option maxHeartbeats 8000000 in
theorem insS_end (B : Nat) (v : Value) (n vb : Nat) (xs ys : List Value) (w : World) (hv : w.ownsRow B 9 1 v n xs) (hn : n ≤ 1000) (hys : ys.length = 1) (hvb : w.heap[vb]? = some (.cells ys.toArray 9)) (h1y : ∀ u ∈ ys, u.oneCell' = true) (hB : B ≤ w.heap.size) :
    Calls Tryd.prog 42 #[v, .int .i64 n, .slice (some ⟨vb, 0, none⟩) 1 1] w fun e w' => (∃ v', e = .returned v' ∧ w'.ownsRow B 9 1 v' (n + 1) (put1 (n * 1) xs ys) ∧ (v'.ownBlock = v.ownBlock ∨ v'.ownBlock = some w.heap.size)) ∧ w.grownBy w' v.ownBlock := by
  obtain ⟨i0, hi0, hz0, hz1, hz2⟩ := info_parts infoS
  have hc : ∀ j u, ys[j]? = some u → w.cell? ((⟨vb, 0, none⟩ : Addr).add j) = some u := by
    intro j u hj
    rw [add_at, Nat.zero_add]
    rw [← hj, ← List.getElem?_toArray]
    exact Lib.cell_of_heap hvb j
  obtain ⟨v', W', q1, q2, q3, _, q5⟩ := run_append_own_at (P := Tryd.prog) w B 26 26 9 i0 _ 1 _ Tryd.underlying26 hi0 hz0 hz1 hz2 rfl (by decide) v n xs hv ⟨vb, 0, none⟩ 1 1 ys (by rw [hys]) hc h1y (by unfold maxLen; omega) (by omega) hB
  have HQ : Hid ((W'.ownsRow B 9 1 v' (n + 1) (put1 (n * 1) xs ys) ∧ (v'.ownBlock = v.ownBlock ∨ v'.ownBlock = some w.heap.size)) ∧ w.grownBy W' v.ownBlock) := by
    refine ⟨⟨?_, q5⟩, q3⟩
    have e : put1 (n * 1) xs ys = xs ++ ys := by
      unfold put1
      rw [← hv.1, List.take_length, List.drop_length, List.append_nil]
    rw [e]
    exact q2
  have hv' : ∃ a cap, v = .slice a n cap ∧ n ≤ cap := by
    rcases hv.2 with ⟨e, h0⟩ | ⟨g, cap, cur, e, _, _, h2, _⟩
    · exact ⟨none, 0, by rw [e, h0], by omega⟩
    · exact ⟨_, cap, e, h2⟩
  obtain ⟨ob, hob⟩ : ∃ ob, v.ownBlock = ob := ⟨_, rfl⟩
  obtain ⟨L, hL⟩ : ∃ L, put1 (n * 1) xs ys = L := ⟨_, rfl⟩
  obtain ⟨h0, hh0⟩ : ∃ h0, w.heap.size = h0 := ⟨_, rfl⟩
  rw [hob, hL, hh0] at HQ ⊢
  obtain ⟨a, cap, rfl, hnc⟩ := hv'
  have g1 : (n : Int) ≤ cap := by omega
  clear hv hvb h1y hc q2 q3 q5 hnc hys hob hL hB hh0
  go_enter Tryd.func42, Tryd.ntmps42
  go_wp2_with (first | (at_builtin; refine wp_append rfl _ _ 26 rfl _ _ _ _ rfl rfl q1 ?_))
  all_goals
    go_ret
    exact ⟨⟨_, rfl, HQ.out.1.1, HQ.out.1.2⟩, HQ.out.2⟩

set_option maxRecDepth 100000 in
set_option maxHeartbeats 8000000 in
theorem insS_room (B g cap n i vb : Nat) (cur : Array Value) (xs ys : List Value) (w : World) (hg : w.heap[g]? = some (.cells cur 9)) (hcap : n + 1 ≤ cap) (hc63 : cap ≤ maxLen) (hcs : cur.size = cap * 1) (hx : cur.toList.take (n * 1) = xs) (hxl : xs.length = n * 1) (hBg : B ≤ g)
    (hi : i < n) (hn : n ≤ 1000) (hys : ys.length = 1) (hvb : w.heap[vb]? = some (.cells ys.toArray 9)) (hne : vb ≠ g) (h1x : ∀ u ∈ xs, u.oneCell' = true) (h1y : ∀ u ∈ ys, u.oneCell' = true) :
    Calls Tryd.prog 42 #[.slice (some ⟨g, 0, none⟩) n cap, .int .i64 i, .slice (some ⟨vb, 0, none⟩) 1 1] w fun e w' => (∃ v', e = .returned v' ∧ w'.ownsRow B 9 1 v' (n + 1) (put1 (i * 1) xs ys) ∧ (v'.ownBlock = some g ∨ v'.ownBlock = some w.heap.size)) ∧ w.grownBy w' (some g) := by
  obtain ⟨i0, hi0, hz0, hz1, hz2⟩ := info_parts infoS
  have hdl : (xs.drop (i * 1)).length = (n - i) * 1 := by rw [List.length_drop, hxl]; omega
  have hcx : ∀ j u, xs[j]? = some u → w.cell? ⟨g, j, none⟩ = some u := by
    intro j u hj
    have hjl : j < n * 1 := by
      rcases Nat.lt_or_ge j (n * 1) with h | h
      · exact h
      · rw [List.getElem?_eq_none (by omega)] at hj; cases hj
    have h2 : (cur.toList.take (n * 1))[j]? = xs[j]? := by rw [hx]
    rw [List.getElem?_take_of_lt hjl, Array.getElem?_toList, hj] at h2
    rw [← h2]
    exact Lib.cell_of_heap hg j
  -- what stands from i on goes one further
  have cp1 : ∀ ty dc sc, (Builtin.copy_ #[26, 26] ty #[.slice (some ⟨g, (i + 1) * 1, none⟩) (n - i) dc, .slice (some ⟨g, i * 1, none⟩) (n + 1 - i) sc]).run Tryd.prog w.drew = .ok (goInt ((n - i : Nat) : Int)) (w.drew.setRow g (cur.toList.take ((i + 1) * 1) ++ xs.drop (i * 1) ++ cur.toList.drop ((i + 1) * 1 + (xs.drop (i * 1)).length)).toArray) := fun ty dc sc =>
    copy_rows (P := Tryd.prog) w.drew 26 26 ty 9 i0 1 g ((i + 1) * 1) (n - i) dc ⟨g, i * 1, none⟩ (n + 1 - i) sc cur 9 (xs.drop (i * 1)) Tryd.underlying26 hi0 hz1 hg (n - i) (by simp only [Nat.min_def]; split <;> omega) hdl
      (fun j u hj => by rw [add_at]; exact hcx _ u (by rwa [List.getElem?_drop] at hj)) (by rw [hdl, hcs]; omega) (fun u hu => h1x u (List.mem_of_mem_drop hu))
  obtain ⟨R1, hR1⟩ : ∃ R1, R1 = (cur.toList.take ((i + 1) * 1) ++ xs.drop (i * 1) ++ cur.toList.drop ((i + 1) * 1 + (xs.drop (i * 1)).length)) := ⟨_, rfl⟩
  rw [← hR1] at cp1
  have hR1l : R1.length = cap * 1 := by
    rw [hR1, List.length_append, List.length_append, hdl, List.length_take, List.length_drop, Array.length_toList, hcs]
    omega
  obtain ⟨W1, hW1⟩ : ∃ W1, W1 = w.drew.setRow g R1.toArray := ⟨_, rfl⟩
  rw [← hW1] at cp1
  have hg1 : W1.heap[g]? = some (.cells R1.toArray 9) := by rw [hW1]; exact setRow_heap w.drew g cur R1.toArray 9 (0, 0) hg
  have hvb1 : W1.heap[vb]? = some (.cells ys.toArray 9) := by rw [hW1, setRow_other w.drew g vb _ hne]; exact hvb
  have cp2 : ∀ (W : World), W.heap = W1.heap → ∀ ty dc, (Builtin.copy_ #[26, 26] ty #[.slice (some ⟨g, i * 1, none⟩) (n + 1 - i) dc, .slice (some ⟨vb, 0, none⟩) 1 1]).run Tryd.prog W = .ok (goInt 1) (W.setRow g (R1.take (i * 1) ++ ys ++ R1.drop (i * 1 + ys.length)).toArray) := fun W hW ty dc => by
    have := copy_rows (P := Tryd.prog) W 26 26 ty 9 i0 1 g (i * 1) (n + 1 - i) dc ⟨vb, 0, none⟩ 1 1 R1.toArray 9 ys Tryd.underlying26 hi0 hz1 (by rw [hW]; exact hg1) 1 (by simp only [Nat.min_def]; split <;> omega) (by rw [hys])
      (fun j u hj => by
        rw [add_at, Nat.zero_add, ← hj, ← List.getElem?_toArray]
        exact Lib.cell_of_heap (w := W) (by rw [hW]; exact hvb1) j) (by rw [hys, List.size_toArray, hR1l]; omega) h1y
    simpa using this
  have hov : ∀ lb cb, (callFunc 54 #[.slice (some ⟨vb, 0, none⟩) 1 1, .slice (some ⟨g, (i + 1) * 1, none⟩) lb cb]).run Tryd.prog w = .ok (.value (.bool false)) w := fun lb cb => by
    rw [run_callFunc_extern Tryd.func54 (by kernel_rfl) (by kernel_rfl) (by kernel_rfl) (e := Extern.SlicesOverlaps.overlaps #[26, 26] #[4]) (by kernel_rfl),
      Lib.run_overlaps_apart w 26 4 9 Tryd.underlying26 1 Tryd.sizeOf9 ⟨vb, 0, none⟩ ⟨g, (i + 1) * 1, none⟩ 1 1 lb cb hne 9 9 1 cur.size (by simp [World.shape?, hvb, hys]) (by simp [World.shape?, hg]) (by omega) (by simp [World.frozen?, hvb]) (by simp [World.frozen?, hvb])]
    rfl
  obtain ⟨rest, hput, hrl⟩ := put_in (c := cur.toList) (xs := xs) (ys := ys) (a := i * 1) (n := n * 1) (s := 1) hx hxl hys (by omega) (by rw [Array.length_toList, hcs]; omega)
  have e1 : i * 1 + 1 = (i + 1) * 1 := by omega
  rw [e1, ← hR1] at hput
  have HEND : Hid (∀ W : World, W.heap = W1.heap → ((W.setRow g (R1.take (i * 1) ++ ys ++ R1.drop (i * 1 + ys.length)).toArray).ownsRow B 9 1 (.slice (some ⟨g, 0, none⟩) (n + 1) cap) (n + 1) (put1 (i * 1) xs ys))) := by
    intro W hW
    have hgW : W.heap[g]? = some (.cells R1.toArray 9) := by rw [hW]; exact hg1
    refine ⟨by rw [put1_len, hxl, hys]; omega, Or.inr ⟨g, cap, _, rfl, hBg, setRow_heap W g R1.toArray _ 9 (0, 0) hgW, hcap, hc63, ?_, ?_⟩⟩
    · rw [hput, List.size_toArray, List.length_append, put1_len, hxl, hys, hrl, Array.length_toList, hcs]
      omega
    · rw [hput]
      have e2 : (n + 1) * 1 = (put1 (i * 1) xs ys).length := by rw [put1_len, hxl, hys]; omega
      rw [e2]
      simp
  have HGR : Hid (∀ W : World, W.heap = W1.heap → W.os = w.os → W.tape = w.tape → W.output = w.output → w.grownBy (W.setRow g (R1.take (i * 1) ++ ys ++ R1.drop (i * 1 + ys.length)).toArray) (some g)) := by
    intro W hW h1 h2 h3
    refine ⟨h1, h2, h3, ?_, fun k hk hkg => ?_⟩
    · rw [size_setRow, hW, hW1, size_setRow]; exact Nat.le_refl _
    · have hne' : k ≠ g := fun e => hkg (by rw [e])
      rw [setRow_other W g k _ hne', hW, hW1, setRow_other w.drew g k _ hne']
      rfl
  have HW1 : Hid (W1.heap = W1.heap ∧ W1.os = w.os ∧ W1.tape = w.tape ∧ W1.output = w.output) := ⟨rfl, by rw [hW1]; rfl, by rw [hW1]; rfl, by rw [hW1]; rfl⟩
  generalize put1 (i * 1) xs ys = L at *
  generalize (R1.take (i * 1) ++ ys ++ R1.drop (i * 1 + ys.length)).toArray = R2 at *
  have hw1 : IntKind.i64.wrap ((i : Int) + 1) = (i : Int) + 1 := by rw [IntKind.wrap_i64]; omega
  have q0 : (0 : Int) ≤ (i : Int) + 1 := by omega
  have q1 : ¬ ((i : Int) = (n : Int)) := by omega
  have q2 : ¬ ((cap : Int) < (n : Int) + 1) := by omega
  have q3 : (n : Int) + 1 ≤ cap := by omega
  have q4 : (i : Int) + 1 ≤ (n : Int) + 1 := by omega
  have q5 : (i : Int) ≤ (n : Int) + 1 := by omega
  have q6 : (i : Int) ≤ n := by omega
  have t1 : ((n : Int) + 1).toNat = n + 1 := by omega
  have t2 : ((i : Int) + 1).toNat = i + 1 := by omega
  have c1 : ¬ (cap = 0) := by omega
  have c2 : ¬ (cap = i + 1) := by omega
  have c3 : ¬ (cap = i) := by omega
  have k1 : n + 1 - (i + 1) = n - i := by omega
  clear hg hcap hc63 hcs hx hxl hBg hi hys hvb hne h1x h1y hdl hcx hR1 hR1l hW1 hg1 hvb1 hput hrl e1
  simp only [Nat.mul_one] at *
  go_enter Tryd.func42, Tryd.ntmps42
  go_upto_region 15 with (simp only [hov])
  refine wp_region_noPanic ?_
  refine wp_region_held_drew (S := fun W => True) (by kernel_rfl) (trivial) (fun hHeld => ?_)
  refine wpAnyH_take (i := 0) (oi := { dst := some 69, op := Op.move (Operand.tmp 0), type := 26, pos := "slices.go:178", after := #[], guard := none }) (v := ?_) rfl (by kernel_rfl) (by kernel_rfl) (by kernel_rfl) (fun _ _ _ h => h) (Or.inl ⟨by rfl, ?_⟩) (by assumption) ?_
  rotate_left
  · intro wz hSw
    try dsimp only at hSw
    go_simp
    try with_reducible rfl
  try simp only [Act.put, List.setIfInBounds_toArray, List.set_cons_zero, List.set_cons_succ]
  refine wpAnyH_take (i := 1) (oi := { dst := some 70, op := Op.move (Operand.tmp 1), type := 3, pos := "slices.go:178", after := #[], guard := none }) (v := ?_) rfl (by kernel_rfl) (by kernel_rfl) (by kernel_rfl) (fun _ _ _ h => h) (Or.inl ⟨by rfl, ?_⟩) (by assumption) ?_
  rotate_left
  · intro wz hSw
    try dsimp only at hSw
    go_simp
    try with_reducible rfl
  try simp only [Act.put, List.setIfInBounds_toArray, List.set_cons_zero, List.set_cons_succ]
  refine wpAnyH_take (i := 2) (oi := { dst := some 71, op := Op.move (Operand.tmp 7), type := 3, pos := "slices.go:178", after := #[], guard := none }) (v := ?_) rfl (by kernel_rfl) (by kernel_rfl) (by kernel_rfl) (fun _ _ _ h => h) (Or.inl ⟨by rfl, ?_⟩) (by assumption) ?_
  rotate_left
  · intro wz hSw
    try dsimp only at hSw
    go_simp
    try with_reducible rfl
  try simp only [Act.put, List.setIfInBounds_toArray, List.set_cons_zero, List.set_cons_succ]
  refine wpAnyH_take (i := 3) (oi := { dst := some 72, op := Op.binOp BinOp.add 3 (Operand.tmp 70) (Operand.tmp 71) 3, type := 3, pos := "slices.go:178", after := #[{ on := 1, ground := Ground.data }, { on := 2, ground := Ground.data }], guard := none }) (v := .int .i64 ((i : Int) + 1)) rfl (by kernel_rfl) (by kernel_rfl) (by kernel_rfl) (fun _ _ _ h => h) (Or.inl ⟨by rfl, ?_⟩) (by assumption) ?_
  · intro wz hSw
    go_simp
    try simp [hw1]
  try simp only [Act.put, List.setIfInBounds_toArray, List.set_cons_zero, List.set_cons_succ]
  refine wpAnyH_take (i := 4) (oi := { dst := some 73, op := Op.slice 26 (Operand.tmp 69) (some (Operand.tmp 72)) none none, type := 26, pos := "slices.go:178", after := #[{ on := 0, ground := Ground.data }, { on := 3, ground := Ground.data }], guard := none }) (v := .slice (some ⟨g, i + 1, none⟩) (n - i) (cap - (i + 1))) rfl (by kernel_rfl) (by kernel_rfl) (by kernel_rfl) (fun _ _ _ h => h) (Or.inl ⟨by rfl, ?_⟩) (by assumption) ?_
  · intro wz hSw
    go_simp
    try simp [q0, q4, t2, c2, k1]
  try simp only [Act.put, List.setIfInBounds_toArray, List.set_cons_zero, List.set_cons_succ]
  refine wpAnyH_take (i := 5) (oi := { dst := some 74, op := Op.move (Operand.tmp 0), type := 26, pos := "slices.go:178", after := #[], guard := none }) (v := ?_) rfl (by kernel_rfl) (by kernel_rfl) (by kernel_rfl) (fun _ _ _ h => h) (Or.inl ⟨by rfl, ?_⟩) (by assumption) ?_
  rotate_left
  · intro wz hSw
    try dsimp only at hSw
    go_simp
    try with_reducible rfl
  try simp only [Act.put, List.setIfInBounds_toArray, List.set_cons_zero, List.set_cons_succ]
  refine wpAnyH_take (i := 6) (oi := { dst := some 75, op := Op.move (Operand.tmp 1), type := 3, pos := "slices.go:178", after := #[], guard := none }) (v := ?_) rfl (by kernel_rfl) (by kernel_rfl) (by kernel_rfl) (fun _ _ _ h => h) (Or.inl ⟨by rfl, ?_⟩) (by assumption) ?_
  rotate_left
  · intro wz hSw
    try dsimp only at hSw
    go_simp
    try with_reducible rfl
  try simp only [Act.put, List.setIfInBounds_toArray, List.set_cons_zero, List.set_cons_succ]
  refine wpAnyH_take (i := 7) (oi := { dst := some 76, op := Op.slice 26 (Operand.tmp 74) (some (Operand.tmp 75)) none none, type := 26, pos := "slices.go:178", after := #[{ on := 5, ground := Ground.data }, { on := 6, ground := Ground.data }], guard := none }) (v := .slice (some ⟨g, i, none⟩) (n + 1 - i) (cap - i)) rfl (by kernel_rfl) (by kernel_rfl) (by kernel_rfl) (fun _ _ _ h => h) (Or.inl ⟨by rfl, ?_⟩) (by assumption) ?_
  · intro wz hSw
    go_simp
    try simp [q5, c3]
  try simp only [Act.put, List.setIfInBounds_toArray, List.set_cons_zero, List.set_cons_succ]
  refine wpAnyH_ready (rs := [8]) (by kernel_rfl) (by simp) (AllReadyH.cons (o := { dst := some 77, op := Op.call { callee := Callee.builtin Builtin.copy, args := #[Operand.tmp 73, Operand.tmp 76], argTypes := #[26, 26] }, type := 3, pos := "slices.go:178", after := #[{ on := 4, ground := Ground.data }, { on := 7, ground := Ground.data }], guard := none }) rfl (fun K hK => ?_) AllReadyH.nil)
  refine step_copy_known rfl (.tmp 73) (.tmp 76) 26 26 rfl (.slice (some ⟨g, i + 1, none⟩) (n - i) (cap - (i + 1))) (.slice (some ⟨g, i, none⟩) (n + 1 - i) (cap - i)) _ _ (by simp [Act.eval]) (by simp [Act.eval]) (cp1 _ _ _) ?_
  refine hK.out _ _ (trivial) (fun hHeld8 => ?_)
  clear hK K
  try simp only [Act.put, List.setIfInBounds_toArray, List.set_cons_zero, List.set_cons_succ]
  refine wpAnyH_done (by kernel_rfl) ?_ _
  refine NoPanic.normal ?_
  have HW2 := HW1.out
  clear hHeld hHeld8 cp1 hov
  go_wp2_with (first | (at_builtin; refine wp_copyI rfl _ _ 26 26 rfl _ _ rfl rfl (cp2 _ rfl _ _) ?_))
  go_ret
  exact ⟨⟨_, rfl, HEND.out _ rfl, Or.inl rfl⟩, HGR.out _ rfl HW2.2.1 HW2.2.2.1 HW2.2.2.2⟩

set_option maxRecDepth 100000 in
set_option maxHeartbeats 8000000 in
theorem insS_grow (B g cap n i vb : Nat) (cur : Array Value) (xs ys : List Value) (w : World) (hg : w.heap[g]? = some (.cells cur 9)) (hnc : n ≤ cap) (hcap : cap < n + 1) (hx : cur.toList.take (n * 1) = xs) (hxl : xs.length = n * 1) (hB : B ≤ w.heap.size)
    (hi : i < n) (hn : n ≤ 1000) (hys : ys.length = 1) (hvb : w.heap[vb]? = some (.cells ys.toArray 9)) (h1x : ∀ u ∈ xs, u.oneCell' = true) (h1y : ∀ u ∈ ys, u.oneCell' = true) :
    Calls Tryd.prog 42 #[.slice (some ⟨g, 0, none⟩) n cap, .int .i64 i, .slice (some ⟨vb, 0, none⟩) 1 1] w fun e w' => (∃ v', e = .returned v' ∧ w'.ownsRow B 9 1 v' (n + 1) (put1 (i * 1) xs ys) ∧ (v'.ownBlock = some g ∨ v'.ownBlock = some w.heap.size)) ∧ w.grownBy w' (some g) := by
  obtain ⟨i0, hi0, hz0, hz1, hz2⟩ := info_parts infoS
  have hdl : (xs.drop (i * 1)).length = (n - i) * 1 := by rw [List.length_drop, hxl]; omega
  have htl : (xs.take (i * 1)).length = i * 1 := by rw [List.length_take, hxl]; omega
  have hcx : ∀ j u, xs[j]? = some u → w.cell? ⟨g, j, none⟩ = some u := by
    intro j u hj
    have hjl : j < n * 1 := by
      rcases Nat.lt_or_ge j (n * 1) with h | h
      · exact h
      · rw [List.getElem?_eq_none (by omega)] at hj; cases hj
    have h2 : (cur.toList.take (n * 1))[j]? = xs[j]? := by rw [hx]
    rw [List.getElem?_take_of_lt hjl, Array.getElem?_toList, hj] at h2
    rw [← h2]
    exact Lib.cell_of_heap hg j
  have hgl := lt_of_heap hg
  have hvl := lt_of_heap hvb
  have hold : (Builtin.firstCells i0.size i (.slice (some ⟨g, 0, none⟩) i cap)).run Tryd.prog w.drew = .ok (xs.take (i * 1)).toArray w.drew := by
    rw [hz1]
    exact run_firstCells_some w.drew 1 i ⟨g, 0, none⟩ i cap (xs.take (i * 1)) htl (fun j u hj => by
      rw [add_at, Nat.zero_add]
      rw [List.getElem?_take] at hj
      split at hj
      · exact hcx j u hj
      · cases hj)
  obtain ⟨G, hG⟩ : ∃ G, G = grownCap w (n + 1) cap 9 := ⟨_, rfl⟩
  have hGn : n + 1 ≤ G := by rw [hG]; exact grownCap_ge w _ _ _
  have hG63 : G ≤ maxLen := by rw [hG]; exact grownCap_le_maxLen w (n + 1) cap 9 (by unfold maxLen; omega)
  have hik : i + (n + 1 - i) = n + 1 := by omega
  obtain ⟨ROW, hROW⟩ : ∃ ROW : Array Value, ROW = (xs.take (i * 1)).toArray ++ Builtin.zeroCells (Value.cells (.string ⟨#[]⟩)) (n + 1 - i) ++ Builtin.zeroCells (Value.cells (.string ⟨#[]⟩)) (G - (n + 1)) := ⟨_, rfl⟩
  have hRz : ROW.size = G * 1 := by
    have e1 : (Value.cells (.string ⟨#[]⟩)).size = 1 := rfl
    rw [hROW]
    simp only [Array.size_append, List.size_toArray, size_zeroCells, e1, htl]
    omega
  have rz : ∀ ty, (Builtin.append_ #[26, 3] ty #[.slice (some ⟨g, 0, none⟩) i cap, .int .i64 ((n : Int) + 1 - (i : Int))]).run Tryd.prog w = .ok (.slice (some ⟨w.heap.size, 0, none⟩) (n + 1) G) (w.drew.alloc (.cells ROW 9)) := fun ty => by
    have h := Lib.run_append_grow_zeros (P := Tryd.prog) w 26 3 ty 9 i0 _ .i64 .i64 Tryd.underlying26 Tryd.underlying3 hi0 hz0 (some ⟨g, 0, none⟩) i cap (xs.take (i * 1)) hold (n + 1 - i) (by omega) (by rw [hz1]; decide) (by omega) (by omega) (by rw [hz2]; omega) (by rw [hz2, hik]; exact growslice_fits hcap (by omega))
    rw [hik, ← hG, ← hROW] at h
    rw [show (n : Int) + 1 - (i : Int) = ((n + 1 - i : Nat) : Int) by omega]
    exact h
  obtain ⟨W1, hW1⟩ : ∃ W1, W1 = w.drew.alloc (.cells ROW 9) := ⟨_, rfl⟩
  rw [← hW1] at rz
  have hg1 : W1.heap[w.heap.size]? = some (.cells ROW 9) := by rw [hW1]; exact (MapKept.heap_alloc w.drew _).1
  have b1 : Below w.heap.size w W1 := by rw [hW1]; exact ((Below.refl w.heap.size w).drew).alloc (Nat.le_refl _) _
  have hvb1 : W1.heap[vb]? = some (.cells ys.toArray 9) := (b1.block _ hvl).trans hvb
  obtain ⟨R1, hR1⟩ : ∃ R1, R1 = ROW.toList.take (i * 1) ++ ys ++ ROW.toList.drop (i * 1 + ys.length) := ⟨_, rfl⟩
  have cpA : ∀ (W : World), W.heap = W1.heap → ∀ ty dc, (Builtin.copy_ #[26, 26] ty #[.slice (some ⟨w.heap.size, i * 1, none⟩) (n + 1 - i) dc, .slice (some ⟨vb, 0, none⟩) 1 1]).run Tryd.prog W = .ok (goInt 1) (W.setRow w.heap.size R1.toArray) := fun W hW ty dc => by
    have := copy_rows (P := Tryd.prog) W 26 26 ty 9 i0 1 w.heap.size (i * 1) (n + 1 - i) dc ⟨vb, 0, none⟩ 1 1 ROW 9 ys Tryd.underlying26 hi0 hz1 (by rw [hW]; exact hg1) 1 (by simp only [Nat.min_def]; split <;> omega) (by rw [hys])
      (fun j u hj => by
        rw [add_at, Nat.zero_add, ← hj, ← List.getElem?_toArray]
        exact Lib.cell_of_heap (w := W) (by rw [hW]; exact hvb1) j) (by rw [hys, hRz]; omega) h1y
    rw [← hR1] at this
    simpa using this
  have hR1l : R1.length = G * 1 := by
    rw [hR1, List.length_append, List.length_append, hys, List.length_take, List.length_drop, Array.length_toList, hRz]
    omega
  have cpB : ∀ (W : World), W.heap = (W1.setRow w.heap.size R1.toArray).heap → ∀ ty dc sc, (Builtin.copy_ #[26, 26] ty #[.slice (some ⟨w.heap.size, (i + 1) * 1, none⟩) (n - i) dc, .slice (some ⟨g, i * 1, none⟩) (n - i) sc]).run Tryd.prog W = .ok (goInt ((n - i : Nat) : Int)) (W.setRow w.heap.size (R1.take ((i + 1) * 1) ++ xs.drop (i * 1) ++ R1.drop ((i + 1) * 1 + (xs.drop (i * 1)).length)).toArray) := fun W hW ty dc sc => by
    have := copy_rows (P := Tryd.prog) W 26 26 ty 9 i0 1 w.heap.size ((i + 1) * 1) (n - i) dc ⟨g, i * 1, none⟩ (n - i) sc R1.toArray 9 (xs.drop (i * 1)) Tryd.underlying26 hi0 hz1 (by rw [hW]; exact setRow_heap W1 w.heap.size ROW R1.toArray 9 (0, 0) hg1) (n - i) (by simp only [Nat.min_def]; split <;> omega) hdl
      (fun j u hj => by
        have e1 : W.heap[g]? = some (.cells cur 9) := by rw [hW, setRow_other W1 w.heap.size g _ (by omega)]; exact (b1.block _ hgl).trans hg
        have e2 := hcx _ u (by rwa [List.getElem?_drop] at hj)
        rw [add_at, World.cell?_of_block (w := w) (w' := W) (show W.heap[g]? = w.heap[g]? by rw [e1, hg])]
        exact e2) (by rw [hdl, List.size_toArray, hR1l]; omega) (fun u hu => h1x u (List.mem_of_mem_drop hu))
    simpa using this
  obtain ⟨rest, hput, hrl⟩ := put_new (c := ROW.toList) (xs := xs) (ys := ys) (a := i * 1) (n := n * 1) (s := 1) (by
    rw [hROW]
    simp only [Array.toList_append, List.append_assoc]
    exact List.take_left' htl) hxl hys (by omega) (by rw [Array.length_toList, hRz]; omega)
  have e1 : i * 1 + 1 = (i + 1) * 1 := by omega
  rw [e1, ← hR1] at hput
  have HEND : Hid (∀ W : World, W.heap = (W1.setRow w.heap.size R1.toArray).heap → ((W.setRow w.heap.size (R1.take ((i + 1) * 1) ++ xs.drop (i * 1) ++ R1.drop ((i + 1) * 1 + (xs.drop (i * 1)).length)).toArray).ownsRow B 9 1 (.slice (some ⟨w.heap.size, 0, none⟩) (n + 1) G) (n + 1) (put1 (i * 1) xs ys))) := by
    intro W hW
    have hgW : W.heap[w.heap.size]? = some (.cells R1.toArray 9) := by rw [hW]; exact setRow_heap W1 w.heap.size ROW R1.toArray 9 (0, 0) hg1
    refine ⟨by rw [put1_len, hxl, hys]; omega, Or.inr ⟨w.heap.size, G, _, rfl, hB, setRow_heap W w.heap.size R1.toArray _ 9 (0, 0) hgW, hGn, hG63, ?_, ?_⟩⟩
    · rw [hput, List.size_toArray, List.length_append, put1_len, hxl, hys, hrl, Array.length_toList, hRz]
      omega
    · rw [hput]
      have e2 : (n + 1) * 1 = (put1 (i * 1) xs ys).length := by rw [put1_len, hxl, hys]; omega
      rw [e2]
      simp
  have HGR : Hid (∀ (W : World) (r : Array Value), W.heap = (W1.setRow w.heap.size R1.toArray).heap → W.os = w.os → W.tape = w.tape → W.output = w.output → w.grownBy (W.setRow w.heap.size r) (some g)) := by
    intro W r hW h1 h2 h3
    refine ⟨h1, h2, h3, ?_, fun k hk _ => ?_⟩
    · rw [size_setRow, hW, size_setRow]; exact b1.size
    · rw [setRow_other W w.heap.size k _ (by omega), hW, setRow_other W1 w.heap.size k _ (by omega)]
      exact b1.block k hk
  have HOS : Hid (W1.os = w.os ∧ W1.tape = w.tape ∧ W1.output = w.output) := ⟨b1.os, b1.tape, b1.output⟩
  generalize put1 (i * 1) xs ys = L at *
  generalize (R1.take ((i + 1) * 1) ++ xs.drop (i * 1) ++ R1.drop ((i + 1) * 1 + (xs.drop (i * 1)).length)).toArray = R2 at *
  have hG63' : G ≤ 9223372036854775807 := hG63
  have hw1 : IntKind.i64.wrap ((i : Int) + 1) = (i : Int) + 1 := by rw [IntKind.wrap_i64]; omega
  have q0 : (0 : Int) ≤ (i : Int) + 1 := by omega
  have q1 : ¬ ((i : Int) = (n : Int)) := by omega
  have q2 : (cap : Int) < (n : Int) + 1 := by omega
  have q4 : (i : Int) + 1 ≤ (n : Int) + 1 := by omega
  have q5 : (i : Int) ≤ (n : Int) + 1 := by omega
  have q6 : (i : Int) ≤ n := by omega
  have q7 : (i : Int) ≤ cap := by omega
  have t2 : ((i : Int) + 1).toNat = i + 1 := by omega
  have c0 : ¬ (cap = 0) := by omega
  have c1 : ¬ (G = i) := by omega
  have c2 : ¬ (G = i + 1) := by omega
  have c3 : ¬ (cap = i) := by omega
  have k1 : n + 1 - (i + 1) = n - i := by omega
  obtain ⟨h0, hh0⟩ : ∃ h0, w.heap.size = h0 := ⟨_, rfl⟩
  rw [hh0] at rz cpA cpB HEND HGR ⊢
  clear hg hcap hx hxl hB hi hys hvb h1x h1y hdl htl hcx hgl hvl hold hG hGn hG63 hG63' hik hROW hRz hW1 hg1 b1 hvb1 hR1 hR1l hput hrl e1 hnc hh0
  simp only [Nat.mul_one] at *
  go_enter Tryd.func42, Tryd.ntmps42
  go_upto_region 11 with (first | (at_builtin; refine wp_append' rfl _ _ 26 3 rfl _ _ _ _ rfl rfl (rz _) ?_) | (at_builtin; refine wp_copyI rfl _ _ 26 26 rfl _ _ rfl rfl (cpA _ rfl _ _) ?_))
  refine wp_region_noPanic ?_
  refine wp_region_held_drew (S := fun W => True) (by kernel_rfl) (trivial) (fun hHeld => ?_)
  refine wpAnyH_take (i := 0) (oi := { dst := some 46, op := Op.move (Operand.tmp 9), type := 26, pos := "slices.go:154", after := #[], guard := none }) (v := ?_) rfl (by kernel_rfl) (by kernel_rfl) (by kernel_rfl) (fun _ _ _ h => h) (Or.inl ⟨by rfl, ?_⟩) (by assumption) ?_
  rotate_left
  · intro wz hSw
    try dsimp only at hSw
    go_simp
    try with_reducible rfl
  try simp only [Act.put, List.setIfInBounds_toArray, List.set_cons_zero, List.set_cons_succ]
  refine wpAnyH_take (i := 1) (oi := { dst := some 47, op := Op.move (Operand.tmp 1), type := 3, pos := "slices.go:154", after := #[], guard := none }) (v := ?_) rfl (by kernel_rfl) (by kernel_rfl) (by kernel_rfl) (fun _ _ _ h => h) (Or.inl ⟨by rfl, ?_⟩) (by assumption) ?_
  rotate_left
  · intro wz hSw
    try dsimp only at hSw
    go_simp
    try with_reducible rfl
  try simp only [Act.put, List.setIfInBounds_toArray, List.set_cons_zero, List.set_cons_succ]
  refine wpAnyH_take (i := 2) (oi := { dst := some 48, op := Op.move (Operand.tmp 7), type := 3, pos := "slices.go:154", after := #[], guard := none }) (v := ?_) rfl (by kernel_rfl) (by kernel_rfl) (by kernel_rfl) (fun _ _ _ h => h) (Or.inl ⟨by rfl, ?_⟩) (by assumption) ?_
  rotate_left
  · intro wz hSw
    try dsimp only at hSw
    go_simp
    try with_reducible rfl
  try simp only [Act.put, List.setIfInBounds_toArray, List.set_cons_zero, List.set_cons_succ]
  refine wpAnyH_take (i := 3) (oi := { dst := some 49, op := Op.binOp BinOp.add 3 (Operand.tmp 47) (Operand.tmp 48) 3, type := 3, pos := "slices.go:154", after := #[{ on := 1, ground := Ground.data }, { on := 2, ground := Ground.data }], guard := none }) (v := .int .i64 ((i : Int) + 1)) rfl (by kernel_rfl) (by kernel_rfl) (by kernel_rfl) (fun _ _ _ h => h) (Or.inl ⟨by rfl, ?_⟩) (by assumption) ?_
  · intro wz hSw
    go_simp
    try simp [hw1]
  try simp only [Act.put, List.setIfInBounds_toArray, List.set_cons_zero, List.set_cons_succ]
  refine wpAnyH_take (i := 4) (oi := { dst := some 50, op := Op.slice 26 (Operand.tmp 46) (some (Operand.tmp 49)) none none, type := 26, pos := "slices.go:154", after := #[{ on := 0, ground := Ground.data }, { on := 3, ground := Ground.data }], guard := none }) (v := .slice (some ⟨h0, i + 1, none⟩) (n - i) (G - (i + 1))) rfl (by kernel_rfl) (by kernel_rfl) (by kernel_rfl) (fun _ _ _ h => h) (Or.inl ⟨by rfl, ?_⟩) (by assumption) ?_
  · intro wz hSw
    go_simp
    try simp [q0, q4, t2, c2, k1]
  try simp only [Act.put, List.setIfInBounds_toArray, List.set_cons_zero, List.set_cons_succ]
  refine wpAnyH_take (i := 5) (oi := { dst := some 51, op := Op.move (Operand.tmp 0), type := 26, pos := "slices.go:154", after := #[], guard := none }) (v := ?_) rfl (by kernel_rfl) (by kernel_rfl) (by kernel_rfl) (fun _ _ _ h => h) (Or.inl ⟨by rfl, ?_⟩) (by assumption) ?_
  rotate_left
  · intro wz hSw
    try dsimp only at hSw
    go_simp
    try with_reducible rfl
  try simp only [Act.put, List.setIfInBounds_toArray, List.set_cons_zero, List.set_cons_succ]
  refine wpAnyH_take (i := 6) (oi := { dst := some 52, op := Op.move (Operand.tmp 1), type := 3, pos := "slices.go:154", after := #[], guard := none }) (v := ?_) rfl (by kernel_rfl) (by kernel_rfl) (by kernel_rfl) (fun _ _ _ h => h) (Or.inl ⟨by rfl, ?_⟩) (by assumption) ?_
  rotate_left
  · intro wz hSw
    try dsimp only at hSw
    go_simp
    try with_reducible rfl
  try simp only [Act.put, List.setIfInBounds_toArray, List.set_cons_zero, List.set_cons_succ]
  refine wpAnyH_take (i := 7) (oi := { dst := some 53, op := Op.slice 26 (Operand.tmp 51) (some (Operand.tmp 52)) none none, type := 26, pos := "slices.go:154", after := #[{ on := 5, ground := Ground.data }, { on := 6, ground := Ground.data }], guard := none }) (v := .slice (some ⟨g, i, none⟩) (n - i) (cap - i)) rfl (by kernel_rfl) (by kernel_rfl) (by kernel_rfl) (fun _ _ _ h => h) (Or.inl ⟨by rfl, ?_⟩) (by assumption) ?_
  · intro wz hSw
    go_simp
    try simp [q6, c3]
  try simp only [Act.put, List.setIfInBounds_toArray, List.set_cons_zero, List.set_cons_succ]
  refine wpAnyH_ready (rs := [8]) (by kernel_rfl) (by simp) (AllReadyH.cons (o := { dst := some 54, op := Op.call { callee := Callee.builtin Builtin.copy, args := #[Operand.tmp 50, Operand.tmp 53], argTypes := #[26, 26] }, type := 3, pos := "slices.go:154", after := #[{ on := 4, ground := Ground.data }, { on := 7, ground := Ground.data }], guard := none }) rfl (fun K hK => ?_) AllReadyH.nil)
  refine step_copy_known rfl (.tmp 50) (.tmp 53) 26 26 rfl (.slice (some ⟨h0, i + 1, none⟩) (n - i) (G - (i + 1))) (.slice (some ⟨g, i, none⟩) (n - i) (cap - i)) _ _ (by simp [Act.eval]) (by simp [Act.eval]) (cpB (W1.setRow h0 R1.toArray).drew rfl _ _ _) ?_
  refine hK.out _ _ (trivial) (fun hHeld8 => ?_)
  clear hK K
  try simp only [Act.put, List.setIfInBounds_toArray, List.set_cons_zero, List.set_cons_succ]
  refine wpAnyH_done (by kernel_rfl) ?_ _
  refine NoPanic.normal ?_
  clear hHeld hHeld8 cpA cpB rz
  go_wp2
  go_ret
  exact ⟨⟨_, rfl, HEND.out (W1.setRow h0 R1.toArray).drew rfl, Or.inr rfl⟩, HGR.out (W1.setRow h0 R1.toArray).drew _ rfl HOS.out.1 HOS.out.2.1 HOS.out.2.2⟩

/-- One element put between, whatever room there is. -/
theorem insS_any (B : Nat) (v : Value) (n i vb : Nat) (xs ys : List Value) (w : World) (hv : w.ownsRow B 9 1 v n xs) (hi : i ≤ n) (hn : n ≤ 1000) (hys : ys.length = 1) (hvb : w.heap[vb]? = some (.cells ys.toArray 9)) (hne : v.ownBlock ≠ some vb) (h1x : ∀ u ∈ xs, u.oneCell' = true) (h1y : ∀ u ∈ ys, u.oneCell' = true) (hB : B ≤ w.heap.size) :
    Calls Tryd.prog 42 #[v, .int .i64 i, .slice (some ⟨vb, 0, none⟩) 1 1] w fun e w' => (∃ v', e = .returned v' ∧ w'.ownsRow B 9 1 v' (n + 1) (put1 (i * 1) xs ys) ∧ (v'.ownBlock = v.ownBlock ∨ v'.ownBlock = some w.heap.size)) ∧ w.grownBy w' v.ownBlock := by
  by_cases hin : i = n
  · subst hin
    exact insS_end B v i vb xs ys w hv hn hys hvb h1y hB
  · rcases hv.2 with ⟨_, h0⟩ | ⟨g, cap, cur, rfl, h2, h3, h4, h5, h6, h7⟩
    · omega
    · have hg : vb ≠ g := fun e => hne (by rw [e]; rfl)
      by_cases hr : n + 1 ≤ cap
      · exact insS_room B g cap n i vb cur xs ys w h3 hr h5 h6 h7 hv.1 h2 (by omega) hn hys hvb hg h1x h1y
      · exact insS_grow B g cap n i vb cur xs ys w h3 h4 (by omega) h7 hv.1 hB (by omega) hn hys hvb h1x h1y

set_option maxRecDepth 100000 in
set_option maxHeartbeats 8000000 in
theorem insT_end (B : Nat) (v : Value) (n vb : Nat) (xs ys : List Value) (w : World) (hv : w.ownsRow B 29 7 v n xs) (hn : n ≤ 1000) (hys : ys.length = 7) (hvb : w.heap[vb]? = some (.cells ys.toArray 29)) (h1y : ∀ u ∈ ys, u.oneCell' = true) (hB : B ≤ w.heap.size) :
    Calls Tryd.prog 43 #[v, .int .i64 n, .slice (some ⟨vb, 0, none⟩) 1 1] w fun e w' => (∃ v', e = .returned v' ∧ w'.ownsRow B 29 7 v' (n + 1) (put1 (n * 7) xs ys) ∧ (v'.ownBlock = v.ownBlock ∨ v'.ownBlock = some w.heap.size)) ∧ w.grownBy w' v.ownBlock := by
  obtain ⟨i0, hi0, hz0, hz1, hz2⟩ := info_parts infoT
  have hc : ∀ j u, ys[j]? = some u → w.cell? ((⟨vb, 0, none⟩ : Addr).add j) = some u := by
    intro j u hj
    rw [add_at, Nat.zero_add]
    rw [← hj, ← List.getElem?_toArray]
    exact Lib.cell_of_heap hvb j
  obtain ⟨v', W', q1, q2, q3, _, q5⟩ := run_append_own_at (P := Tryd.prog) w B 27 27 29 i0 _ 7 _ Tryd.underlying27 hi0 hz0 hz1 hz2 rfl (by decide) v n xs hv ⟨vb, 0, none⟩ 1 1 ys (by rw [hys]) hc h1y (by unfold maxLen; omega) (by omega) hB
  have HQ : Hid ((W'.ownsRow B 29 7 v' (n + 1) (put1 (n * 7) xs ys) ∧ (v'.ownBlock = v.ownBlock ∨ v'.ownBlock = some w.heap.size)) ∧ w.grownBy W' v.ownBlock) := by
    refine ⟨⟨?_, q5⟩, q3⟩
    have e : put1 (n * 7) xs ys = xs ++ ys := by
      unfold put1
      rw [← hv.1, List.take_length, List.drop_length, List.append_nil]
    rw [e]
    exact q2
  have hv' : ∃ a cap, v = .slice a n cap ∧ n ≤ cap := by
    rcases hv.2 with ⟨e, h0⟩ | ⟨g, cap, cur, e, _, _, h2, _⟩
    · exact ⟨none, 0, by rw [e, h0], by omega⟩
    · exact ⟨_, cap, e, h2⟩
  obtain ⟨ob, hob⟩ : ∃ ob, v.ownBlock = ob := ⟨_, rfl⟩
  obtain ⟨L, hL⟩ : ∃ L, put1 (n * 7) xs ys = L := ⟨_, rfl⟩
  obtain ⟨h0, hh0⟩ : ∃ h0, w.heap.size = h0 := ⟨_, rfl⟩
  rw [hob, hL, hh0] at HQ ⊢
  obtain ⟨a, cap, rfl, hnc⟩ := hv'
  have g1 : (n : Int) ≤ cap := by omega
  clear hv hvb h1y hc q2 q3 q5 hnc hys hob hL hB hh0
  go_enter Tryd.func43, Tryd.ntmps43
  go_wp2_with (first | (at_builtin; refine wp_append rfl _ _ 27 rfl _ _ _ _ rfl rfl q1 ?_))
  all_goals
    go_ret
    exact ⟨⟨_, rfl, HQ.out.1.1, HQ.out.1.2⟩, HQ.out.2⟩

set_option maxRecDepth 100000 in
set_option maxHeartbeats 8000000 in
theorem insT_room (B g cap n i vb : Nat) (cur : Array Value) (xs ys : List Value) (w : World) (hg : w.heap[g]? = some (.cells cur 29)) (hcap : n + 1 ≤ cap) (hc63 : cap ≤ maxLen) (hcs : cur.size = cap * 7) (hx : cur.toList.take (n * 7) = xs) (hxl : xs.length = n * 7) (hBg : B ≤ g)
    (hi : i < n) (hn : n ≤ 1000) (hys : ys.length = 7) (hvb : w.heap[vb]? = some (.cells ys.toArray 29)) (hne : vb ≠ g) (h1x : ∀ u ∈ xs, u.oneCell' = true) (h1y : ∀ u ∈ ys, u.oneCell' = true) :
    Calls Tryd.prog 43 #[.slice (some ⟨g, 0, none⟩) n cap, .int .i64 i, .slice (some ⟨vb, 0, none⟩) 1 1] w fun e w' => (∃ v', e = .returned v' ∧ w'.ownsRow B 29 7 v' (n + 1) (put1 (i * 7) xs ys) ∧ (v'.ownBlock = some g ∨ v'.ownBlock = some w.heap.size)) ∧ w.grownBy w' (some g) := by
  obtain ⟨i0, hi0, hz0, hz1, hz2⟩ := info_parts infoT
  have hdl : (xs.drop (i * 7)).length = (n - i) * 7 := by rw [List.length_drop, hxl]; omega
  have hcx : ∀ j u, xs[j]? = some u → w.cell? ⟨g, j, none⟩ = some u := by
    intro j u hj
    have hjl : j < n * 7 := by
      rcases Nat.lt_or_ge j (n * 7) with h | h
      · exact h
      · rw [List.getElem?_eq_none (by omega)] at hj; cases hj
    have h2 : (cur.toList.take (n * 7))[j]? = xs[j]? := by rw [hx]
    rw [List.getElem?_take_of_lt hjl, Array.getElem?_toList, hj] at h2
    rw [← h2]
    exact Lib.cell_of_heap hg j
  -- what stands from i on goes one further
  have cp1 : ∀ ty dc sc, (Builtin.copy_ #[27, 27] ty #[.slice (some ⟨g, (i + 1) * 7, none⟩) (n - i) dc, .slice (some ⟨g, i * 7, none⟩) (n + 1 - i) sc]).run Tryd.prog w.drew = .ok (goInt ((n - i : Nat) : Int)) (w.drew.setRow g (cur.toList.take ((i + 1) * 7) ++ xs.drop (i * 7) ++ cur.toList.drop ((i + 1) * 7 + (xs.drop (i * 7)).length)).toArray) := fun ty dc sc =>
    copy_rows (P := Tryd.prog) w.drew 27 27 ty 29 i0 7 g ((i + 1) * 7) (n - i) dc ⟨g, i * 7, none⟩ (n + 1 - i) sc cur 29 (xs.drop (i * 7)) Tryd.underlying27 hi0 hz1 hg (n - i) (by simp only [Nat.min_def]; split <;> omega) hdl
      (fun j u hj => by rw [add_at]; exact hcx _ u (by rwa [List.getElem?_drop] at hj)) (by rw [hdl, hcs]; omega) (fun u hu => h1x u (List.mem_of_mem_drop hu))
  obtain ⟨R1, hR1⟩ : ∃ R1, R1 = (cur.toList.take ((i + 1) * 7) ++ xs.drop (i * 7) ++ cur.toList.drop ((i + 1) * 7 + (xs.drop (i * 7)).length)) := ⟨_, rfl⟩
  rw [← hR1] at cp1
  have hR1l : R1.length = cap * 7 := by
    rw [hR1, List.length_append, List.length_append, hdl, List.length_take, List.length_drop, Array.length_toList, hcs]
    omega
  obtain ⟨W1, hW1⟩ : ∃ W1, W1 = w.drew.setRow g R1.toArray := ⟨_, rfl⟩
  rw [← hW1] at cp1
  have hg1 : W1.heap[g]? = some (.cells R1.toArray 29) := by rw [hW1]; exact setRow_heap w.drew g cur R1.toArray 29 (0, 0) hg
  have hvb1 : W1.heap[vb]? = some (.cells ys.toArray 29) := by rw [hW1, setRow_other w.drew g vb _ hne]; exact hvb
  have cp2 : ∀ (W : World), W.heap = W1.heap → ∀ ty dc, (Builtin.copy_ #[27, 27] ty #[.slice (some ⟨g, i * 7, none⟩) (n + 1 - i) dc, .slice (some ⟨vb, 0, none⟩) 1 1]).run Tryd.prog W = .ok (goInt 1) (W.setRow g (R1.take (i * 7) ++ ys ++ R1.drop (i * 7 + ys.length)).toArray) := fun W hW ty dc => by
    have := copy_rows (P := Tryd.prog) W 27 27 ty 29 i0 7 g (i * 7) (n + 1 - i) dc ⟨vb, 0, none⟩ 1 1 R1.toArray 29 ys Tryd.underlying27 hi0 hz1 (by rw [hW]; exact hg1) 1 (by simp only [Nat.min_def]; split <;> omega) (by rw [hys])
      (fun j u hj => by
        rw [add_at, Nat.zero_add, ← hj, ← List.getElem?_toArray]
        exact Lib.cell_of_heap (w := W) (by rw [hW]; exact hvb1) j) (by rw [hys, List.size_toArray, hR1l]; omega) h1y
    simpa using this
  have hov : ∀ lb cb, (callFunc 56 #[.slice (some ⟨vb, 0, none⟩) 1 1, .slice (some ⟨g, (i + 1) * 7, none⟩) lb cb]).run Tryd.prog w = .ok (.value (.bool false)) w := fun lb cb => by
    rw [run_callFunc_extern Tryd.func56 (by kernel_rfl) (by kernel_rfl) (by kernel_rfl) (e := Extern.SlicesOverlaps.overlaps #[27, 27] #[4]) (by kernel_rfl),
      Lib.run_overlaps_apart w 27 4 29 Tryd.underlying27 7 Tryd.sizeOf29 ⟨vb, 0, none⟩ ⟨g, (i + 1) * 7, none⟩ 1 1 lb cb hne 29 29 7 cur.size (by simp [World.shape?, hvb, hys]) (by simp [World.shape?, hg]) (by omega) (by simp [World.frozen?, hvb]) (by simp [World.frozen?, hvb])]
    rfl
  obtain ⟨rest, hput, hrl⟩ := put_in (c := cur.toList) (xs := xs) (ys := ys) (a := i * 7) (n := n * 7) (s := 7) hx hxl hys (by omega) (by rw [Array.length_toList, hcs]; omega)
  have e1 : i * 7 + 7 = (i + 1) * 7 := by omega
  rw [e1, ← hR1] at hput
  have HEND : Hid (∀ W : World, W.heap = W1.heap → ((W.setRow g (R1.take (i * 7) ++ ys ++ R1.drop (i * 7 + ys.length)).toArray).ownsRow B 29 7 (.slice (some ⟨g, 0, none⟩) (n + 1) cap) (n + 1) (put1 (i * 7) xs ys))) := by
    intro W hW
    have hgW : W.heap[g]? = some (.cells R1.toArray 29) := by rw [hW]; exact hg1
    refine ⟨by rw [put1_len, hxl, hys]; omega, Or.inr ⟨g, cap, _, rfl, hBg, setRow_heap W g R1.toArray _ 29 (0, 0) hgW, hcap, hc63, ?_, ?_⟩⟩
    · rw [hput, List.size_toArray, List.length_append, put1_len, hxl, hys, hrl, Array.length_toList, hcs]
      omega
    · rw [hput]
      have e2 : (n + 1) * 7 = (put1 (i * 7) xs ys).length := by rw [put1_len, hxl, hys]; omega
      rw [e2]
      simp
  have HGR : Hid (∀ W : World, W.heap = W1.heap → W.os = w.os → W.tape = w.tape → W.output = w.output → w.grownBy (W.setRow g (R1.take (i * 7) ++ ys ++ R1.drop (i * 7 + ys.length)).toArray) (some g)) := by
    intro W hW h1 h2 h3
    refine ⟨h1, h2, h3, ?_, fun k hk hkg => ?_⟩
    · rw [size_setRow, hW, hW1, size_setRow]; exact Nat.le_refl _
    · have hne' : k ≠ g := fun e => hkg (by rw [e])
      rw [setRow_other W g k _ hne', hW, hW1, setRow_other w.drew g k _ hne']
      rfl
  have HW1 : Hid (W1.heap = W1.heap ∧ W1.os = w.os ∧ W1.tape = w.tape ∧ W1.output = w.output) := ⟨rfl, by rw [hW1]; rfl, by rw [hW1]; rfl, by rw [hW1]; rfl⟩
  generalize put1 (i * 7) xs ys = L at *
  generalize (R1.take (i * 7) ++ ys ++ R1.drop (i * 7 + ys.length)).toArray = R2 at *
  have hw1 : IntKind.i64.wrap ((i : Int) + 1) = (i : Int) + 1 := by rw [IntKind.wrap_i64]; omega
  have q0 : (0 : Int) ≤ (i : Int) + 1 := by omega
  have q1 : ¬ ((i : Int) = (n : Int)) := by omega
  have q2 : ¬ ((cap : Int) < (n : Int) + 1) := by omega
  have q3 : (n : Int) + 1 ≤ cap := by omega
  have q4 : (i : Int) + 1 ≤ (n : Int) + 1 := by omega
  have q5 : (i : Int) ≤ (n : Int) + 1 := by omega
  have q6 : (i : Int) ≤ n := by omega
  have t1 : ((n : Int) + 1).toNat = n + 1 := by omega
  have t2 : ((i : Int) + 1).toNat = i + 1 := by omega
  have c1 : ¬ (cap = 0) := by omega
  have c2 : ¬ (cap = i + 1) := by omega
  have c3 : ¬ (cap = i) := by omega
  have k1 : n + 1 - (i + 1) = n - i := by omega
  clear hg hcap hc63 hcs hx hxl hBg hi hys hvb hne h1x h1y hdl hcx hR1 hR1l hW1 hg1 hvb1 hput hrl e1
  go_enter Tryd.func43, Tryd.ntmps43
  go_upto_region 15 with (simp only [hov])
  refine wp_region_noPanic ?_
  refine wp_region_held_drew (S := fun W => True) (by kernel_rfl) (trivial) (fun hHeld => ?_)
  refine wpAnyH_take (i := 0) (oi := { dst := some 69, op := Op.move (Operand.tmp 0), type := 27, pos := "slices.go:178", after := #[], guard := none }) (v := ?_) rfl (by kernel_rfl) (by kernel_rfl) (by kernel_rfl) (fun _ _ _ h => h) (Or.inl ⟨by rfl, ?_⟩) (by assumption) ?_
  rotate_left
  · intro wz hSw
    try dsimp only at hSw
    go_simp
    try with_reducible rfl
  try simp only [Act.put, List.setIfInBounds_toArray, List.set_cons_zero, List.set_cons_succ]
  refine wpAnyH_take (i := 1) (oi := { dst := some 70, op := Op.move (Operand.tmp 1), type := 3, pos := "slices.go:178", after := #[], guard := none }) (v := ?_) rfl (by kernel_rfl) (by kernel_rfl) (by kernel_rfl) (fun _ _ _ h => h) (Or.inl ⟨by rfl, ?_⟩) (by assumption) ?_
  rotate_left
  · intro wz hSw
    try dsimp only at hSw
    go_simp
    try with_reducible rfl
  try simp only [Act.put, List.setIfInBounds_toArray, List.set_cons_zero, List.set_cons_succ]
  refine wpAnyH_take (i := 2) (oi := { dst := some 71, op := Op.move (Operand.tmp 7), type := 3, pos := "slices.go:178", after := #[], guard := none }) (v := ?_) rfl (by kernel_rfl) (by kernel_rfl) (by kernel_rfl) (fun _ _ _ h => h) (Or.inl ⟨by rfl, ?_⟩) (by assumption) ?_
  rotate_left
  · intro wz hSw
    try dsimp only at hSw
    go_simp
    try with_reducible rfl
  try simp only [Act.put, List.setIfInBounds_toArray, List.set_cons_zero, List.set_cons_succ]
  refine wpAnyH_take (i := 3) (oi := { dst := some 72, op := Op.binOp BinOp.add 3 (Operand.tmp 70) (Operand.tmp 71) 3, type := 3, pos := "slices.go:178", after := #[{ on := 1, ground := Ground.data }, { on := 2, ground := Ground.data }], guard := none }) (v := .int .i64 ((i : Int) + 1)) rfl (by kernel_rfl) (by kernel_rfl) (by kernel_rfl) (fun _ _ _ h => h) (Or.inl ⟨by rfl, ?_⟩) (by assumption) ?_
  · intro wz hSw
    go_simp
    try simp [hw1]
  try simp only [Act.put, List.setIfInBounds_toArray, List.set_cons_zero, List.set_cons_succ]
  refine wpAnyH_take (i := 4) (oi := { dst := some 73, op := Op.slice 27 (Operand.tmp 69) (some (Operand.tmp 72)) none none, type := 27, pos := "slices.go:178", after := #[{ on := 0, ground := Ground.data }, { on := 3, ground := Ground.data }], guard := none }) (v := .slice (some ⟨g, (i + 1) * 7, none⟩) (n - i) (cap - (i + 1))) rfl (by kernel_rfl) (by kernel_rfl) (by kernel_rfl) (fun _ _ _ h => h) (Or.inl ⟨by rfl, ?_⟩) (by assumption) ?_
  · intro wz hSw
    go_simp
    try simp [q0, q4, t2, c2, k1]
  try simp only [Act.put, List.setIfInBounds_toArray, List.set_cons_zero, List.set_cons_succ]
  refine wpAnyH_take (i := 5) (oi := { dst := some 74, op := Op.move (Operand.tmp 0), type := 27, pos := "slices.go:178", after := #[], guard := none }) (v := ?_) rfl (by kernel_rfl) (by kernel_rfl) (by kernel_rfl) (fun _ _ _ h => h) (Or.inl ⟨by rfl, ?_⟩) (by assumption) ?_
  rotate_left
  · intro wz hSw
    try dsimp only at hSw
    go_simp
    try with_reducible rfl
  try simp only [Act.put, List.setIfInBounds_toArray, List.set_cons_zero, List.set_cons_succ]
  refine wpAnyH_take (i := 6) (oi := { dst := some 75, op := Op.move (Operand.tmp 1), type := 3, pos := "slices.go:178", after := #[], guard := none }) (v := ?_) rfl (by kernel_rfl) (by kernel_rfl) (by kernel_rfl) (fun _ _ _ h => h) (Or.inl ⟨by rfl, ?_⟩) (by assumption) ?_
  rotate_left
  · intro wz hSw
    try dsimp only at hSw
    go_simp
    try with_reducible rfl
  try simp only [Act.put, List.setIfInBounds_toArray, List.set_cons_zero, List.set_cons_succ]
  refine wpAnyH_take (i := 7) (oi := { dst := some 76, op := Op.slice 27 (Operand.tmp 74) (some (Operand.tmp 75)) none none, type := 27, pos := "slices.go:178", after := #[{ on := 5, ground := Ground.data }, { on := 6, ground := Ground.data }], guard := none }) (v := .slice (some ⟨g, i * 7, none⟩) (n + 1 - i) (cap - i)) rfl (by kernel_rfl) (by kernel_rfl) (by kernel_rfl) (fun _ _ _ h => h) (Or.inl ⟨by rfl, ?_⟩) (by assumption) ?_
  · intro wz hSw
    go_simp
    try simp [q5, c3]
  try simp only [Act.put, List.setIfInBounds_toArray, List.set_cons_zero, List.set_cons_succ]
  refine wpAnyH_ready (rs := [8]) (by kernel_rfl) (by simp) (AllReadyH.cons (o := { dst := some 77, op := Op.call { callee := Callee.builtin Builtin.copy, args := #[Operand.tmp 73, Operand.tmp 76], argTypes := #[27, 27] }, type := 3, pos := "slices.go:178", after := #[{ on := 4, ground := Ground.data }, { on := 7, ground := Ground.data }], guard := none }) rfl (fun K hK => ?_) AllReadyH.nil)
  refine step_copy_known rfl (.tmp 73) (.tmp 76) 27 27 rfl (.slice (some ⟨g, (i + 1) * 7, none⟩) (n - i) (cap - (i + 1))) (.slice (some ⟨g, i * 7, none⟩) (n + 1 - i) (cap - i)) _ _ (by simp [Act.eval]) (by simp [Act.eval]) (cp1 _ _ _) ?_
  refine hK.out _ _ (trivial) (fun hHeld8 => ?_)
  clear hK K
  try simp only [Act.put, List.setIfInBounds_toArray, List.set_cons_zero, List.set_cons_succ]
  refine wpAnyH_done (by kernel_rfl) ?_ _
  refine NoPanic.normal ?_
  have HW2 := HW1.out
  clear hHeld hHeld8 cp1 hov
  go_wp2_with (first | (at_builtin; refine wp_copyI rfl _ _ 27 27 rfl _ _ rfl rfl (cp2 _ rfl _ _) ?_))
  go_ret
  exact ⟨⟨_, rfl, HEND.out _ rfl, Or.inl rfl⟩, HGR.out _ rfl HW2.2.1 HW2.2.2.1 HW2.2.2.2⟩

set_option maxRecDepth 100000 in
set_option maxHeartbeats 8000000 in
theorem insT_grow (B g cap n i vb : Nat) (cur : Array Value) (xs ys : List Value) (w : World) (hg : w.heap[g]? = some (.cells cur 29)) (hnc : n ≤ cap) (hcap : cap < n + 1) (hx : cur.toList.take (n * 7) = xs) (hxl : xs.length = n * 7) (hB : B ≤ w.heap.size)
    (hi : i < n) (hn : n ≤ 1000) (hys : ys.length = 7) (hvb : w.heap[vb]? = some (.cells ys.toArray 29)) (h1x : ∀ u ∈ xs, u.oneCell' = true) (h1y : ∀ u ∈ ys, u.oneCell' = true) :
    Calls Tryd.prog 43 #[.slice (some ⟨g, 0, none⟩) n cap, .int .i64 i, .slice (some ⟨vb, 0, none⟩) 1 1] w fun e w' => (∃ v', e = .returned v' ∧ w'.ownsRow B 29 7 v' (n + 1) (put1 (i * 7) xs ys) ∧ (v'.ownBlock = some g ∨ v'.ownBlock = some w.heap.size)) ∧ w.grownBy w' (some g) := by
  obtain ⟨i0, hi0, hz0, hz1, hz2⟩ := info_parts infoT
  have hdl : (xs.drop (i * 7)).length = (n - i) * 7 := by rw [List.length_drop, hxl]; omega
  have htl : (xs.take (i * 7)).length = i * 7 := by rw [List.length_take, hxl]; omega
  have hcx : ∀ j u, xs[j]? = some u → w.cell? ⟨g, j, none⟩ = some u := by
    intro j u hj
    have hjl : j < n * 7 := by
      rcases Nat.lt_or_ge j (n * 7) with h | h
      · exact h
      · rw [List.getElem?_eq_none (by omega)] at hj; cases hj
    have h2 : (cur.toList.take (n * 7))[j]? = xs[j]? := by rw [hx]
    rw [List.getElem?_take_of_lt hjl, Array.getElem?_toList, hj] at h2
    rw [← h2]
    exact Lib.cell_of_heap hg j
  have hgl := lt_of_heap hg
  have hvl := lt_of_heap hvb
  have hold : (Builtin.firstCells i0.size i (.slice (some ⟨g, 0, none⟩) i cap)).run Tryd.prog w.drew = .ok (xs.take (i * 7)).toArray w.drew := by
    rw [hz1]
    exact run_firstCells_some w.drew 7 i ⟨g, 0, none⟩ i cap (xs.take (i * 7)) htl (fun j u hj => by
      rw [add_at, Nat.zero_add]
      rw [List.getElem?_take] at hj
      split at hj
      · exact hcx j u hj
      · cases hj)
  obtain ⟨G, hG⟩ : ∃ G, G = grownCap w (n + 1) cap 29 := ⟨_, rfl⟩
  have hGn : n + 1 ≤ G := by rw [hG]; exact grownCap_ge w _ _ _
  have hG63 : G ≤ maxLen := by rw [hG]; exact grownCap_le_maxLen w (n + 1) cap 29 (by unfold maxLen; omega)
  have hik : i + (n + 1 - i) = n + 1 := by omega
  obtain ⟨ROW, hROW⟩ : ∃ ROW : Array Value, ROW = (xs.take (i * 7)).toArray ++ Builtin.zeroCells (Value.cells zT) (n + 1 - i) ++ Builtin.zeroCells (Value.cells zT) (G - (n + 1)) := ⟨_, rfl⟩
  have hRz : ROW.size = G * 7 := by
    have e1 : (Value.cells zT).size = 7 := rfl
    rw [hROW]
    simp only [Array.size_append, List.size_toArray, size_zeroCells, e1, htl]
    omega
  have rz : ∀ ty, (Builtin.append_ #[27, 3] ty #[.slice (some ⟨g, 0, none⟩) i cap, .int .i64 ((n : Int) + 1 - (i : Int))]).run Tryd.prog w = .ok (.slice (some ⟨w.heap.size, 0, none⟩) (n + 1) G) (w.drew.alloc (.cells ROW 29)) := fun ty => by
    have h := Lib.run_append_grow_zeros (P := Tryd.prog) w 27 3 ty 29 i0 _ .i64 .i64 Tryd.underlying27 Tryd.underlying3 hi0 hz0 (some ⟨g, 0, none⟩) i cap (xs.take (i * 7)) hold (n + 1 - i) (by omega) (by rw [hz1]; decide) (by omega) (by omega) (by rw [hz2]; omega) (by rw [hz2, hik]; exact growslice_fits hcap (by omega))
    rw [hik, ← hG, ← hROW] at h
    rw [show (n : Int) + 1 - (i : Int) = ((n + 1 - i : Nat) : Int) by omega]
    exact h
  obtain ⟨W1, hW1⟩ : ∃ W1, W1 = w.drew.alloc (.cells ROW 29) := ⟨_, rfl⟩
  rw [← hW1] at rz
  have hg1 : W1.heap[w.heap.size]? = some (.cells ROW 29) := by rw [hW1]; exact (MapKept.heap_alloc w.drew _).1
  have b1 : Below w.heap.size w W1 := by rw [hW1]; exact ((Below.refl w.heap.size w).drew).alloc (Nat.le_refl _) _
  have hvb1 : W1.heap[vb]? = some (.cells ys.toArray 29) := (b1.block _ hvl).trans hvb
  obtain ⟨R1, hR1⟩ : ∃ R1, R1 = ROW.toList.take (i * 7) ++ ys ++ ROW.toList.drop (i * 7 + ys.length) := ⟨_, rfl⟩
  have cpA : ∀ (W : World), W.heap = W1.heap → ∀ ty dc, (Builtin.copy_ #[27, 27] ty #[.slice (some ⟨w.heap.size, i * 7, none⟩) (n + 1 - i) dc, .slice (some ⟨vb, 0, none⟩) 1 1]).run Tryd.prog W = .ok (goInt 1) (W.setRow w.heap.size R1.toArray) := fun W hW ty dc => by
    have := copy_rows (P := Tryd.prog) W 27 27 ty 29 i0 7 w.heap.size (i * 7) (n + 1 - i) dc ⟨vb, 0, none⟩ 1 1 ROW 29 ys Tryd.underlying27 hi0 hz1 (by rw [hW]; exact hg1) 1 (by simp only [Nat.min_def]; split <;> omega) (by rw [hys])
      (fun j u hj => by
        rw [add_at, Nat.zero_add, ← hj, ← List.getElem?_toArray]
        exact Lib.cell_of_heap (w := W) (by rw [hW]; exact hvb1) j) (by rw [hys, hRz]; omega) h1y
    rw [← hR1] at this
    simpa using this
  have hR1l : R1.length = G * 7 := by
    rw [hR1, List.length_append, List.length_append, hys, List.length_take, List.length_drop, Array.length_toList, hRz]
    omega
  have cpB : ∀ (W : World), W.heap = (W1.setRow w.heap.size R1.toArray).heap → ∀ ty dc sc, (Builtin.copy_ #[27, 27] ty #[.slice (some ⟨w.heap.size, (i + 1) * 7, none⟩) (n - i) dc, .slice (some ⟨g, i * 7, none⟩) (n - i) sc]).run Tryd.prog W = .ok (goInt ((n - i : Nat) : Int)) (W.setRow w.heap.size (R1.take ((i + 1) * 7) ++ xs.drop (i * 7) ++ R1.drop ((i + 1) * 7 + (xs.drop (i * 7)).length)).toArray) := fun W hW ty dc sc => by
    have := copy_rows (P := Tryd.prog) W 27 27 ty 29 i0 7 w.heap.size ((i + 1) * 7) (n - i) dc ⟨g, i * 7, none⟩ (n - i) sc R1.toArray 29 (xs.drop (i * 7)) Tryd.underlying27 hi0 hz1 (by rw [hW]; exact setRow_heap W1 w.heap.size ROW R1.toArray 29 (0, 0) hg1) (n - i) (by simp only [Nat.min_def]; split <;> omega) hdl
      (fun j u hj => by
        have e1 : W.heap[g]? = some (.cells cur 29) := by rw [hW, setRow_other W1 w.heap.size g _ (by omega)]; exact (b1.block _ hgl).trans hg
        have e2 := hcx _ u (by rwa [List.getElem?_drop] at hj)
        rw [add_at, World.cell?_of_block (w := w) (w' := W) (show W.heap[g]? = w.heap[g]? by rw [e1, hg])]
        exact e2) (by rw [hdl, List.size_toArray, hR1l]; omega) (fun u hu => h1x u (List.mem_of_mem_drop hu))
    simpa using this
  obtain ⟨rest, hput, hrl⟩ := put_new (c := ROW.toList) (xs := xs) (ys := ys) (a := i * 7) (n := n * 7) (s := 7) (by
    rw [hROW]
    simp only [Array.toList_append, List.append_assoc]
    exact List.take_left' htl) hxl hys (by omega) (by rw [Array.length_toList, hRz]; omega)
  have e1 : i * 7 + 7 = (i + 1) * 7 := by omega
  rw [e1, ← hR1] at hput
  have HEND : Hid (∀ W : World, W.heap = (W1.setRow w.heap.size R1.toArray).heap → ((W.setRow w.heap.size (R1.take ((i + 1) * 7) ++ xs.drop (i * 7) ++ R1.drop ((i + 1) * 7 + (xs.drop (i * 7)).length)).toArray).ownsRow B 29 7 (.slice (some ⟨w.heap.size, 0, none⟩) (n + 1) G) (n + 1) (put1 (i * 7) xs ys))) := by
    intro W hW
    have hgW : W.heap[w.heap.size]? = some (.cells R1.toArray 29) := by rw [hW]; exact setRow_heap W1 w.heap.size ROW R1.toArray 29 (0, 0) hg1
    refine ⟨by rw [put1_len, hxl, hys]; omega, Or.inr ⟨w.heap.size, G, _, rfl, hB, setRow_heap W w.heap.size R1.toArray _ 29 (0, 0) hgW, hGn, hG63, ?_, ?_⟩⟩
    · rw [hput, List.size_toArray, List.length_append, put1_len, hxl, hys, hrl, Array.length_toList, hRz]
      omega
    · rw [hput]
      have e2 : (n + 1) * 7 = (put1 (i * 7) xs ys).length := by rw [put1_len, hxl, hys]; omega
      rw [e2]
      simp
  have HGR : Hid (∀ (W : World) (r : Array Value), W.heap = (W1.setRow w.heap.size R1.toArray).heap → W.os = w.os → W.tape = w.tape → W.output = w.output → w.grownBy (W.setRow w.heap.size r) (some g)) := by
    intro W r hW h1 h2 h3
    refine ⟨h1, h2, h3, ?_, fun k hk _ => ?_⟩
    · rw [size_setRow, hW, size_setRow]; exact b1.size
    · rw [setRow_other W w.heap.size k _ (by omega), hW, setRow_other W1 w.heap.size k _ (by omega)]
      exact b1.block k hk
  have HOS : Hid (W1.os = w.os ∧ W1.tape = w.tape ∧ W1.output = w.output) := ⟨b1.os, b1.tape, b1.output⟩
  generalize put1 (i * 7) xs ys = L at *
  generalize (R1.take ((i + 1) * 7) ++ xs.drop (i * 7) ++ R1.drop ((i + 1) * 7 + (xs.drop (i * 7)).length)).toArray = R2 at *
  have hG63' : G ≤ 9223372036854775807 := hG63
  have hw1 : IntKind.i64.wrap ((i : Int) + 1) = (i : Int) + 1 := by rw [IntKind.wrap_i64]; omega
  have q0 : (0 : Int) ≤ (i : Int) + 1 := by omega
  have q1 : ¬ ((i : Int) = (n : Int)) := by omega
  have q2 : (cap : Int) < (n : Int) + 1 := by omega
  have q4 : (i : Int) + 1 ≤ (n : Int) + 1 := by omega
  have q5 : (i : Int) ≤ (n : Int) + 1 := by omega
  have q6 : (i : Int) ≤ n := by omega
  have q7 : (i : Int) ≤ cap := by omega
  have t2 : ((i : Int) + 1).toNat = i + 1 := by omega
  have c0 : ¬ (cap = 0) := by omega
  have c1 : ¬ (G = i) := by omega
  have c2 : ¬ (G = i + 1) := by omega
  have c3 : ¬ (cap = i) := by omega
  have k1 : n + 1 - (i + 1) = n - i := by omega
  obtain ⟨h0, hh0⟩ : ∃ h0, w.heap.size = h0 := ⟨_, rfl⟩
  rw [hh0] at rz cpA cpB HEND HGR ⊢
  clear hg hcap hx hxl hB hi hys hvb h1x h1y hdl htl hcx hgl hvl hold hG hGn hG63 hG63' hik hROW hRz hW1 hg1 b1 hvb1 hR1 hR1l hput hrl e1 hnc hh0
  go_enter Tryd.func43, Tryd.ntmps43
  go_upto_region 11 with (first | (at_builtin; refine wp_append' rfl _ _ 27 3 rfl _ _ _ _ rfl rfl (rz _) ?_) | (at_builtin; refine wp_copyI rfl _ _ 27 27 rfl _ _ rfl rfl (cpA _ rfl _ _) ?_))
  refine wp_region_noPanic ?_
  refine wp_region_held_drew (S := fun W => True) (by kernel_rfl) (trivial) (fun hHeld => ?_)
  refine wpAnyH_take (i := 0) (oi := { dst := some 46, op := Op.move (Operand.tmp 9), type := 27, pos := "slices.go:154", after := #[], guard := none }) (v := ?_) rfl (by kernel_rfl) (by kernel_rfl) (by kernel_rfl) (fun _ _ _ h => h) (Or.inl ⟨by rfl, ?_⟩) (by assumption) ?_
  rotate_left
  · intro wz hSw
    try dsimp only at hSw
    go_simp
    try with_reducible rfl
  try simp only [Act.put, List.setIfInBounds_toArray, List.set_cons_zero, List.set_cons_succ]
  refine wpAnyH_take (i := 1) (oi := { dst := some 47, op := Op.move (Operand.tmp 1), type := 3, pos := "slices.go:154", after := #[], guard := none }) (v := ?_) rfl (by kernel_rfl) (by kernel_rfl) (by kernel_rfl) (fun _ _ _ h => h) (Or.inl ⟨by rfl, ?_⟩) (by assumption) ?_
  rotate_left
  · intro wz hSw
    try dsimp only at hSw
    go_simp
    try with_reducible rfl
  try simp only [Act.put, List.setIfInBounds_toArray, List.set_cons_zero, List.set_cons_succ]
  refine wpAnyH_take (i := 2) (oi := { dst := some 48, op := Op.move (Operand.tmp 7), type := 3, pos := "slices.go:154", after := #[], guard := none }) (v := ?_) rfl (by kernel_rfl) (by kernel_rfl) (by kernel_rfl) (fun _ _ _ h => h) (Or.inl ⟨by rfl, ?_⟩) (by assumption) ?_
  rotate_left
  · intro wz hSw
    try dsimp only at hSw
    go_simp
    try with_reducible rfl
  try simp only [Act.put, List.setIfInBounds_toArray, List.set_cons_zero, List.set_cons_succ]
  refine wpAnyH_take (i := 3) (oi := { dst := some 49, op := Op.binOp BinOp.add 3 (Operand.tmp 47) (Operand.tmp 48) 3, type := 3, pos := "slices.go:154", after := #[{ on := 1, ground := Ground.data }, { on := 2, ground := Ground.data }], guard := none }) (v := .int .i64 ((i : Int) + 1)) rfl (by kernel_rfl) (by kernel_rfl) (by kernel_rfl) (fun _ _ _ h => h) (Or.inl ⟨by rfl, ?_⟩) (by assumption) ?_
  · intro wz hSw
    go_simp
    try simp [hw1]
  try simp only [Act.put, List.setIfInBounds_toArray, List.set_cons_zero, List.set_cons_succ]
  refine wpAnyH_take (i := 4) (oi := { dst := some 50, op := Op.slice 27 (Operand.tmp 46) (some (Operand.tmp 49)) none none, type := 27, pos := "slices.go:154", after := #[{ on := 0, ground := Ground.data }, { on := 3, ground := Ground.data }], guard := none }) (v := .slice (some ⟨h0, (i + 1) * 7, none⟩) (n - i) (G - (i + 1))) rfl (by kernel_rfl) (by kernel_rfl) (by kernel_rfl) (fun _ _ _ h => h) (Or.inl ⟨by rfl, ?_⟩) (by assumption) ?_
  · intro wz hSw
    go_simp
    try simp [q0, q4, t2, c2, k1]
  try simp only [Act.put, List.setIfInBounds_toArray, List.set_cons_zero, List.set_cons_succ]
  refine wpAnyH_take (i := 5) (oi := { dst := some 51, op := Op.move (Operand.tmp 0), type := 27, pos := "slices.go:154", after := #[], guard := none }) (v := ?_) rfl (by kernel_rfl) (by kernel_rfl) (by kernel_rfl) (fun _ _ _ h => h) (Or.inl ⟨by rfl, ?_⟩) (by assumption) ?_
  rotate_left
  · intro wz hSw
    try dsimp only at hSw
    go_simp
    try with_reducible rfl
  try simp only [Act.put, List.setIfInBounds_toArray, List.set_cons_zero, List.set_cons_succ]
  refine wpAnyH_take (i := 6) (oi := { dst := some 52, op := Op.move (Operand.tmp 1), type := 3, pos := "slices.go:154", after := #[], guard := none }) (v := ?_) rfl (by kernel_rfl) (by kernel_rfl) (by kernel_rfl) (fun _ _ _ h => h) (Or.inl ⟨by rfl, ?_⟩) (by assumption) ?_
  rotate_left
  · intro wz hSw
    try dsimp only at hSw
    go_simp
    try with_reducible rfl
  try simp only [Act.put, List.setIfInBounds_toArray, List.set_cons_zero, List.set_cons_succ]
  refine wpAnyH_take (i := 7) (oi := { dst := some 53, op := Op.slice 27 (Operand.tmp 51) (some (Operand.tmp 52)) none none, type := 27, pos := "slices.go:154", after := #[{ on := 5, ground := Ground.data }, { on := 6, ground := Ground.data }], guard := none }) (v := .slice (some ⟨g, i * 7, none⟩) (n - i) (cap - i)) rfl (by kernel_rfl) (by kernel_rfl) (by kernel_rfl) (fun _ _ _ h => h) (Or.inl ⟨by rfl, ?_⟩) (by assumption) ?_
  · intro wz hSw
    go_simp
    try simp [q6, c3]
  try simp only [Act.put, List.setIfInBounds_toArray, List.set_cons_zero, List.set_cons_succ]
  refine wpAnyH_ready (rs := [8]) (by kernel_rfl) (by simp) (AllReadyH.cons (o := { dst := some 54, op := Op.call { callee := Callee.builtin Builtin.copy, args := #[Operand.tmp 50, Operand.tmp 53], argTypes := #[27, 27] }, type := 3, pos := "slices.go:154", after := #[{ on := 4, ground := Ground.data }, { on := 7, ground := Ground.data }], guard := none }) rfl (fun K hK => ?_) AllReadyH.nil)
  refine step_copy_known rfl (.tmp 50) (.tmp 53) 27 27 rfl (.slice (some ⟨h0, (i + 1) * 7, none⟩) (n - i) (G - (i + 1))) (.slice (some ⟨g, i * 7, none⟩) (n - i) (cap - i)) _ _ (by simp [Act.eval]) (by simp [Act.eval]) (cpB (W1.setRow h0 R1.toArray).drew rfl _ _ _) ?_
  refine hK.out _ _ (trivial) (fun hHeld8 => ?_)
  clear hK K
  try simp only [Act.put, List.setIfInBounds_toArray, List.set_cons_zero, List.set_cons_succ]
  refine wpAnyH_done (by kernel_rfl) ?_ _
  refine NoPanic.normal ?_
  clear hHeld hHeld8 cpA cpB rz
  go_wp2
  go_ret
  exact ⟨⟨_, rfl, HEND.out (W1.setRow h0 R1.toArray).drew rfl, Or.inr rfl⟩, HGR.out (W1.setRow h0 R1.toArray).drew _ rfl HOS.out.1 HOS.out.2.1 HOS.out.2.2⟩

/-- One element put between, whatever room there is. -/
theorem insT_any (B : Nat) (v : Value) (n i vb : Nat) (xs ys : List Value) (w : World) (hv : w.ownsRow B 29 7 v n xs) (hi : i ≤ n) (hn : n ≤ 1000) (hys : ys.length = 7) (hvb : w.heap[vb]? = some (.cells ys.toArray 29)) (hne : v.ownBlock ≠ some vb) (h1x : ∀ u ∈ xs, u.oneCell' = true) (h1y : ∀ u ∈ ys, u.oneCell' = true) (hB : B ≤ w.heap.size) :
    Calls Tryd.prog 43 #[v, .int .i64 i, .slice (some ⟨vb, 0, none⟩) 1 1] w fun e w' => (∃ v', e = .returned v' ∧ w'.ownsRow B 29 7 v' (n + 1) (put1 (i * 7) xs ys) ∧ (v'.ownBlock = v.ownBlock ∨ v'.ownBlock = some w.heap.size)) ∧ w.grownBy w' v.ownBlock := by
  by_cases hin : i = n
  · subst hin
    exact insT_end B v i vb xs ys w hv hn hys hvb h1y hB
  · rcases hv.2 with ⟨_, h0⟩ | ⟨g, cap, cur, rfl, h2, h3, h4, h5, h6, h7⟩
    · omega
    · have hg : vb ≠ g := fun e => hne (by rw [e]; rfl)
      by_cases hr : n + 1 ≤ cap
      · exact insT_room B g cap n i vb cur xs ys w h3 hr h5 h6 h7 hv.1 h2 (by omega) hn hys hvb hg h1x h1y
      · exact insT_grow B g cap n i vb cur xs ys w h3 h4 (by omega) h7 hv.1 hB (by omega) hn hys hvb h1x h1y
end Go.Proofs.YtegbjkjeoegfbaaDoor
