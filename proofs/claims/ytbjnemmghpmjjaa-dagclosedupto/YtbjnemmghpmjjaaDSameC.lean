/-
  What is proved: that package booksame's Changes answers true of two lists of the same changes.
  Conditions: the lists lie in memory; nothing is wrong with the changes.
-/
import Derived.Test.YtbjnemmghpmjjaaDTake
import Derived.Test.YtbjnemmghpmjjaaGBack
namespace Go.Proofs.Ytbjnemmghpmjjaa
open Go.RowKit Go.Maps

theorem keepX {W W' : World} {b off b2 off2 k pn pc pm pe qn qc qm qe : Nat} {p1 p2 p3 q1 q2 q3 : Int} {pd po qd qo : Option Addr} (hh : W.cell? ⟨b, off + k * 5, none⟩ = some (.int .i64 p1) ∧ W.cell? ⟨b, off + k * 5 + 1, none⟩ = some (.int .i64 p2) ∧ W.cell? ⟨b, off + k * 5 + 2, none⟩ = some (.int .i64 p3) ∧ W.cell? ⟨b, off + k * 5 + 3, none⟩ = some (.slice pd pn pc) ∧ W.cell? ⟨b, off + k * 5 + 4, none⟩ = some (.slice po pm pe) ∧ W.cell? ⟨b2, off2 + k * 5, none⟩ = some (.int .i64 q1) ∧ W.cell? ⟨b2, off2 + k * 5 + 1, none⟩ = some (.int .i64 q2) ∧ W.cell? ⟨b2, off2 + k * 5 + 2, none⟩ = some (.int .i64 q3) ∧ W.cell? ⟨b2, off2 + k * 5 + 3, none⟩ = some (.slice qd qn qc) ∧ W.cell? ⟨b2, off2 + k * 5 + 4, none⟩ = some (.slice qo qm qe)) (hb : Below W.heap.size W W') : W'.cell? ⟨b, off + k * 5, none⟩ = some (.int .i64 p1) ∧ W'.cell? ⟨b, off + k * 5 + 1, none⟩ = some (.int .i64 p2) ∧ W'.cell? ⟨b, off + k * 5 + 2, none⟩ = some (.int .i64 p3) ∧ W'.cell? ⟨b, off + k * 5 + 3, none⟩ = some (.slice pd pn pc) ∧ W'.cell? ⟨b, off + k * 5 + 4, none⟩ = some (.slice po pm pe) ∧ W'.cell? ⟨b2, off2 + k * 5, none⟩ = some (.int .i64 q1) ∧ W'.cell? ⟨b2, off2 + k * 5 + 1, none⟩ = some (.int .i64 q2) ∧ W'.cell? ⟨b2, off2 + k * 5 + 2, none⟩ = some (.int .i64 q3) ∧ W'.cell? ⟨b2, off2 + k * 5 + 3, none⟩ = some (.slice qd qn qc) ∧ W'.cell? ⟨b2, off2 + k * 5 + 4, none⟩ = some (.slice qo qm qe) := by
  obtain ⟨h0, h1, h2, h3, h4, h5, h6, h7, h8, h9⟩ := hh
  exact ⟨(hb.cell (cell_in h0)).trans h0, (hb.cell (cell_in h1)).trans h1, (hb.cell (cell_in h2)).trans h2, (hb.cell (cell_in h3)).trans h3, (hb.cell (cell_in h4)).trans h4, (hb.cell (cell_in h5)).trans h5, (hb.cell (cell_in h6)).trans h6, (hb.cell (cell_in h7)).trans h7, (hb.cell (cell_in h8)).trans h8, (hb.cell (cell_in h9)).trans h9⟩

set_option maxRecDepth 100000 in
set_option maxHeartbeats 8000000 in
theorem sameC_any (v u : Value) (l m : List CX) (w : World) (hv : IsChgs w v l) (hu : IsChgs w u m) (hlm : l.map (·.c) = m.map (·.c)) (hc : ∀ x ∈ l, chk x.c = 0) :
    Calls Try.prog 10 #[v, u] w fun e w' => e = .returned (.bool true) ∧ Below w.heap.size w w' := by
  have hlen : l.length = m.length := by have := congrArg List.length hlm; simpa using this
  obtain ⟨a, cap, rfl, h1, h2, hr, h3⟩ := hv
  obtain ⟨a2, cap2, rfl, h12, h22, hr2, h32⟩ := hu
  have H3 : Hid ((∀ x ∈ l, x.In w) ∧ (l ≠ [] → ∃ b off, a = some ⟨b, off, none⟩ ∧ b < w.heap.size ∧ ∀ i (h : i < l.length) j, j < 5 → w.cell? ⟨b, off + i * 5 + j, none⟩ = l[i].cells[j]?)) := ⟨hr, h3⟩
  have H4 : Hid ((∀ x ∈ m, x.In w) ∧ (m ≠ [] → ∃ b off, a2 = some ⟨b, off, none⟩ ∧ b < w.heap.size ∧ ∀ i (h : i < m.length) j, j < 5 → w.cell? ⟨b, off + i * 5 + j, none⟩ = m[i].cells[j]?)) := ⟨hr2, h32⟩
  have HZ : Hid (l.length ≤ 1000000 ∧ l.length = m.length ∧ l.map (·.c) = m.map (·.c) ∧ (∀ x ∈ l, chk x.c = 0)) := ⟨h2, hlen, hlm, hc⟩
  rw [← hlen]
  clear h3 hr h1 h2 h12 h22 hr2 h32 hlen hlm hc
  go_enter Try.func10, Try.ntmps10
  go_wp2_with fail
  go_loopw [5] (fun i wr => ∃ k : Nat, k ≤ l.length ∧ i = .int .i64 k ∧ Hid (Below w.heap.size w wr)) (fun i _ => l.length - (RowKit.intOf i).toNat)
  case atStart => exact ⟨0, Nat.zero_le _, rfl, Below.refl _ _⟩
  case round =>
    obtain ⟨k, hk, rfl, hbel⟩ := hrel
    by_cases hlt : k < l.length
    · have hlt2 : k < m.length := by have := HZ.out.2.1; omega
      obtain ⟨b, off, rfl, h4, h5⟩ := H3.out.2 (fun e => by rw [e] at hlt; simp at hlt)
      obtain ⟨b2, off2, rfl, h6, h7⟩ := H4.out.2 (fun e => by rw [e] at hlt2; simp at hlt2)
      obtain ⟨p, hp⟩ : ∃ q : CX, l[k] = q := ⟨_, rfl⟩
      obtain ⟨q, hq⟩ : ∃ q : CX, m[k] = q := ⟨_, rfl⟩
      have hpI := H3.out.1 l[k] (List.getElem_mem hlt)
      have hqI := H4.out.1 m[k] (List.getElem_mem hlt2)
      have hpq : q.c = p.c := by
        have h8 : (l.map (·.c))[k]'(by simpa using hlt) = (m.map (·.c))[k]'(by simpa using hlt2) := by simp only [HZ.out.2.2.1]
        simp only [List.getElem_map, hp, hq] at h8
        exact h8.symm
      have hck : chk p.c = 0 := by rw [← hp]; exact HZ.out.2.2.2 _ (List.getElem_mem hlt)
      rw [hp] at hpI
      rw [hq] at hqI
      obtain ⟨_, pd, pn, pc, po, pm, pe, e1, e2⟩ := CX.form hpI
      obtain ⟨_, qd, qn, qc, qo, qm, qe, e3, e4⟩ := CX.form hqI
      have hc1' : ∀ j, j < 5 → wr.cell? ⟨b, off + k * 5 + j, none⟩ = p.cells[j]? := fun j hj => by rw [hbel.out.cell (p := ⟨b, off + k * 5 + j, none⟩) h4, ← hp]; exact h5 k hlt j hj
      have hc2' : ∀ j, j < 5 → wr.cell? ⟨b2, off2 + k * 5 + j, none⟩ = q.cells[j]? := fun j hj => by rw [hbel.out.cell (p := ⟨b2, off2 + k * 5 + j, none⟩) h6, ← hq]; exact h7 k hlt2 j hj
      have hpv : p.val = .agg #[.int .i64 p.c.actor, .int .i64 p.c.seq, .int .i64 p.c.start, .slice pd pn pc, .slice po pm pe] := by unfold CX.val; rw [e1, e2]
      have hqv : q.val = .agg #[.int .i64 q.c.actor, .int .i64 q.c.seq, .int .i64 q.c.start, .slice qd qn qc, .slice qo qm qe] := by unfold CX.val; rw [e3, e4]
      have EC := same_any _ _ p.c wr.drew (IsChg.below hpI (drew_of hbel.out)) (by have := IsChg.below hqI (drew_of hbel.out); rw [hpq] at this; exact this) hck
      rw [hpv, hqv] at EC
      unfold CX.cells at hc1' hc2'
      rw [e1, e2] at hc1'
      rw [e3, e4] at hc2'
      obtain ⟨p1, hp1⟩ : ∃ z, p.c.actor = z := ⟨_, rfl⟩
      obtain ⟨p2, hp2⟩ : ∃ z, p.c.seq = z := ⟨_, rfl⟩
      obtain ⟨p3, hp3⟩ : ∃ z, p.c.start = z := ⟨_, rfl⟩
      obtain ⟨q1, hq1⟩ : ∃ z, q.c.actor = z := ⟨_, rfl⟩
      obtain ⟨q2, hq2⟩ : ∃ z, q.c.seq = z := ⟨_, rfl⟩
      obtain ⟨q3, hq3⟩ : ∃ z, q.c.start = z := ⟨_, rfl⟩
      rw [hp1, hp2, hp3] at hc1' EC
      rw [hq1, hq2, hq3] at hc2' EC
      have hc1 := hc1'
      have hc2 := hc2'
      have k0 : wr.cell? ⟨b, off + k * 5, none⟩ = some (.int .i64 p1) := hc1 0 (by omega)
      have k1 : wr.cell? ⟨b, off + k * 5 + 1, none⟩ = some (.int .i64 p2) := hc1 1 (by omega)
      have k2 : wr.cell? ⟨b, off + k * 5 + 2, none⟩ = some (.int .i64 p3) := hc1 2 (by omega)
      have k3 : wr.cell? ⟨b, off + k * 5 + 3, none⟩ = some (.slice pd pn pc) := hc1 3 (by omega)
      have k4 : wr.cell? ⟨b, off + k * 5 + 4, none⟩ = some (.slice po pm pe) := hc1 4 (by omega)
      have k5 : wr.cell? ⟨b2, off2 + k * 5, none⟩ = some (.int .i64 q1) := hc2 0 (by omega)
      have k6 : wr.cell? ⟨b2, off2 + k * 5 + 1, none⟩ = some (.int .i64 q2) := hc2 1 (by omega)
      have k7 : wr.cell? ⟨b2, off2 + k * 5 + 2, none⟩ = some (.int .i64 q3) := hc2 2 (by omega)
      have k8 : wr.cell? ⟨b2, off2 + k * 5 + 3, none⟩ = some (.slice qd qn qc) := hc2 3 (by omega)
      have k9 : wr.cell? ⟨b2, off2 + k * 5 + 4, none⟩ = some (.slice qo qm qe) := hc2 4 (by omega)
      have g1 : (k : Int) < l.length := by omega
      have g2 : (k : Int) < 1000000 := by have := HZ.out.1; omega
      have g3 : (0 : Int) ≤ k := by omega
      have HK : Hid (k < l.length) := hlt
      clear h5 h7 hk hlt hlt2 hpI hqI hpq hck e1 e2 e3 e4 hc1' hc2' hc1 hc2 hpv hqv hp hq hp1 hp2 hp3 hq1 hq2 hq3
      go_upto_region 6 with fail
      refine wp_region_noPanic ?_
      refine wp_region_held_drew (S := fun W => W.cell? ⟨b, off + k * 5, none⟩ = some (.int .i64 p1) ∧ W.cell? ⟨b, off + k * 5 + 1, none⟩ = some (.int .i64 p2) ∧ W.cell? ⟨b, off + k * 5 + 2, none⟩ = some (.int .i64 p3) ∧ W.cell? ⟨b, off + k * 5 + 3, none⟩ = some (.slice pd pn pc) ∧ W.cell? ⟨b, off + k * 5 + 4, none⟩ = some (.slice po pm pe) ∧ W.cell? ⟨b2, off2 + k * 5, none⟩ = some (.int .i64 q1) ∧ W.cell? ⟨b2, off2 + k * 5 + 1, none⟩ = some (.int .i64 q2) ∧ W.cell? ⟨b2, off2 + k * 5 + 2, none⟩ = some (.int .i64 q3) ∧ W.cell? ⟨b2, off2 + k * 5 + 3, none⟩ = some (.slice qd qn qc) ∧ W.cell? ⟨b2, off2 + k * 5 + 4, none⟩ = some (.slice qo qm qe)) (by kernel_rfl) (⟨k0, k1, k2, k3, k4, k5, k6, k7, k8, k9⟩) (fun hHeld => ?_)
      refine wpAnyH_take (i := 0) (oi := { dst := some 18, op := Op.move (Operand.tmp 0), type := 22, pos := "same.go:87", after := #[], guard := none }) (v := ?_) rfl (by kernel_rfl) (by kernel_rfl) (by kernel_rfl) (fun _ _ _ h => h) (Or.inl ⟨by rfl, ?_⟩) (by assumption) ?_
      rotate_left
      · intro wz hSw
        try dsimp only at hSw
        go_simp
        try with_reducible rfl
      try simp only [Act.put, List.setIfInBounds_toArray, List.set_cons_zero, List.set_cons_succ]
      refine wpAnyH_take (i := 1) (oi := { dst := some 19, op := Op.move (Operand.tmp 5), type := 3, pos := "same.go:87", after := #[], guard := none }) (v := ?_) rfl (by kernel_rfl) (by kernel_rfl) (by kernel_rfl) (fun _ _ _ h => h) (Or.inl ⟨by rfl, ?_⟩) (by assumption) ?_
      rotate_left
      · intro wz hSw
        try dsimp only at hSw
        go_simp
        try with_reducible rfl
      try simp only [Act.put, List.setIfInBounds_toArray, List.set_cons_zero, List.set_cons_succ]
      refine wpAnyH_take (i := 2) (oi := { dst := some 20, op := Op.indexAddr 22 (Operand.tmp 18) (Operand.tmp 19), type := 0, pos := "same.go:87", after := #[{ on := 0, ground := Ground.data }, { on := 1, ground := Ground.data }], guard := none }) (v := ?_) rfl (by kernel_rfl) (by kernel_rfl) (by kernel_rfl) (fun _ _ _ h => h) (Or.inl ⟨by rfl, ?_⟩) (by assumption) ?_
      rotate_left
      · intro wz hSw
        try dsimp only at hSw
        go_simp
        try with_reducible rfl
      try simp only [Act.put, List.setIfInBounds_toArray, List.set_cons_zero, List.set_cons_succ]
      refine wpAnyH_take (i := 3) (oi := { dst := some 21, op := Op.load 31 (Operand.tmp 20), type := 31, pos := "same.go:87", after := #[{ on := 2, ground := Ground.data }], guard := none }) (v := ?_) rfl (by kernel_rfl) (by kernel_rfl) (by kernel_rfl) (fun _ _ _ h => h) (Or.inl ⟨by rfl, ?_⟩) (by assumption) ?_
      rotate_left
      · intro wz hSw
        try dsimp only at hSw
        go_simp
        try with_reducible rfl
      try simp only [Act.put, List.setIfInBounds_toArray, List.set_cons_zero, List.set_cons_succ]
      refine wpAnyH_take (i := 4) (oi := { dst := some 22, op := Op.move (Operand.tmp 1), type := 22, pos := "same.go:87", after := #[], guard := none }) (v := ?_) rfl (by kernel_rfl) (by kernel_rfl) (by kernel_rfl) (fun _ _ _ h => h) (Or.inl ⟨by rfl, ?_⟩) (by assumption) ?_
      rotate_left
      · intro wz hSw
        try dsimp only at hSw
        go_simp
        try with_reducible rfl
      try simp only [Act.put, List.setIfInBounds_toArray, List.set_cons_zero, List.set_cons_succ]
      refine wpAnyH_take (i := 5) (oi := { dst := some 23, op := Op.move (Operand.tmp 5), type := 3, pos := "same.go:87", after := #[], guard := none }) (v := ?_) rfl (by kernel_rfl) (by kernel_rfl) (by kernel_rfl) (fun _ _ _ h => h) (Or.inl ⟨by rfl, ?_⟩) (by assumption) ?_
      rotate_left
      · intro wz hSw
        try dsimp only at hSw
        go_simp
        try with_reducible rfl
      try simp only [Act.put, List.setIfInBounds_toArray, List.set_cons_zero, List.set_cons_succ]
      refine wpAnyH_take (i := 6) (oi := { dst := some 24, op := Op.indexAddr 22 (Operand.tmp 22) (Operand.tmp 23), type := 0, pos := "same.go:87", after := #[{ on := 4, ground := Ground.data }, { on := 5, ground := Ground.data }], guard := none }) (v := ?_) rfl (by kernel_rfl) (by kernel_rfl) (by kernel_rfl) (fun _ _ _ h => h) (Or.inl ⟨by rfl, ?_⟩) (by assumption) ?_
      rotate_left
      · intro wz hSw
        try dsimp only at hSw
        go_simp
        try with_reducible rfl
      try simp only [Act.put, List.setIfInBounds_toArray, List.set_cons_zero, List.set_cons_succ]
      refine wpAnyH_take (i := 7) (oi := { dst := some 25, op := Op.load 31 (Operand.tmp 24), type := 31, pos := "same.go:87", after := #[{ on := 6, ground := Ground.data }], guard := none }) (v := ?_) rfl (by kernel_rfl) (by kernel_rfl) (by kernel_rfl) (fun _ _ _ h => h) (Or.inl ⟨by rfl, ?_⟩) (by assumption) ?_
      rotate_left
      · intro wz hSw
        try dsimp only at hSw
        go_simp
        try with_reducible rfl
      try simp only [Act.put, List.setIfInBounds_toArray, List.set_cons_zero, List.set_cons_succ]
      refine wpAnyH_ready (rs := [8]) (by kernel_rfl) (by simp) (AllReadyH.cons (o := { dst := some 26, op := Op.call { callee := Callee.value (Operand.func 26), args := #[Operand.tmp 21, Operand.tmp 25], argTypes := #[31, 31] }, type := 4, pos := "same.go:87", after := #[{ on := 3, ground := Ground.data }, { on := 7, ground := Ground.data }], guard := none }) rfl (fun K hK => ?_) AllReadyH.nil)
      go_simp
      go_at_call 26
      refine Calls.mono EC ?_
      rintro e w8 ⟨rfl, hb8⟩
      go_wp2_with fail
      refine hK.out _ _ (keepX (by assumption) hb8) (fun hHeld8 => ?_)
      clear hK K
      try simp only [Act.put, List.setIfInBounds_toArray, List.set_cons_zero, List.set_cons_succ]
      refine wpAnyH_take (i := 9) (oi := { dst := some 6, op := Op.assign (Operand.tmp 26), type := 4, pos := "same.go:87", after := #[{ on := 8, ground := Ground.data }, { on := 8, ground := Ground.chain }, { on := 0, ground := Ground.phase }, { on := 1, ground := Ground.phase }, { on := 2, ground := Ground.phase }, { on := 3, ground := Ground.phase }, { on := 4, ground := Ground.phase }, { on := 5, ground := Ground.phase }, { on := 6, ground := Ground.phase }, { on := 7, ground := Ground.phase }, { on := 8, ground := Ground.phase }], guard := none }) (v := ?_) rfl (by kernel_rfl) (by kernel_rfl) (by kernel_rfl) (fun _ _ _ h => h) (Or.inl ⟨by rfl, ?_⟩) (by assumption) ?_
      rotate_left
      · intro wz hSw
        try dsimp only at hSw
        go_simp
        try with_reducible rfl
      try simp only [Act.put, List.setIfInBounds_toArray, List.set_cons_zero, List.set_cons_succ]
      refine wpAnyH_done (by kernel_rfl) ?_ _
      refine NoPanic.normal ?_
      have HB8 : Hid (Below w.heap.size w w8) := (drew_of hbel.out).trans (hb8.mono hbel.out.size)
      clear hHeld hHeld8 hb8 EC k0 k1 k2 k3 k4 k5 k6 k7 k8 k9
      go_wp2
      go_roundw
      case rel => exact ⟨k + 1, HK.out, by go_num, HB8.out⟩
      case measure => simp [RowKit.intOf]; have := HK.out; omega
    · have hke : k = l.length := by omega
      clear hlt hk
      subst hke
      go_wp2
      go_ret
      exact ⟨rfl, hbel.out⟩
end Go.Proofs.Ytbjnemmghpmjjaa
