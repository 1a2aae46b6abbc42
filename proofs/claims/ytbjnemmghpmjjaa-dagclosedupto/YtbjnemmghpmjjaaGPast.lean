/-
  What is proved: lists of changes that lie in memory; that package dag's lastSeq and lastNum answer some number of them, 0 of none, and turn nothing that was there. that package dag's lastNum answers some number of a list of changes, 0 of none, and turns nothing that was there. what Equal of package slices answers of two lists of refs, and of two lists of ids. what package dag's sameOp answers of two ops.
  Conditions: as each theorem says.
-/
import Derived.Test.YtbjnemmghpmjjaaGFind
import Derived.Deep.LoopGhost
namespace Go.Proofs.Ytbjnemmghpmjjaa
open Go.RowKit Go.Maps

/-- The cells of a change. -/
def chgCells (a s t : Int) (d o : Value) : List Value := [.int .i64 a, .int .i64 s, .int .i64 t, d, o]

/-- A change, with the values of its lists. -/
structure CX where
  c : Chg
  ud : Value
  uo : Value

abbrev CX.cells (x : CX) : List Value := [.int .i64 x.c.actor, .int .i64 x.c.seq, .int .i64 x.c.start, x.ud, x.uo]
abbrev CX.val (x : CX) : Value := .agg #[.int .i64 x.c.actor, .int .i64 x.c.seq, .int .i64 x.c.start, x.ud, x.uo]

/-- Its lists lie in memory. -/
def CX.In (w : World) (x : CX) : Prop := IsChg w x.val x.c

/-- A slice value that holds changes. -/
def IsChgs (w : World) (v : Value) (l : List CX) : Prop :=
  ∃ a cap, v = .slice a l.length cap ∧ l.length ≤ cap ∧ l.length ≤ 1000000 ∧ (∀ x ∈ l, x.In w) ∧ (l ≠ [] → ∃ b off, a = some ⟨b, off, none⟩ ∧ b < w.heap.size ∧ ∀ i (h : i < l.length) j, j < 5 → w.cell? ⟨b, off + i * 5 + j, none⟩ = l[i].cells[j]?)

theorem IsChgs.below {w w' : World} {v : Value} {l : List CX} (h : IsChgs w v l) (hb : Below w.heap.size w w') : IsChgs w' v l := by
  obtain ⟨a, cap, rfl, h1, h2, hr, h3⟩ := h
  refine ⟨a, cap, rfl, h1, h2, fun x hx => IsChg.below (hr x hx) hb, fun hl => ?_⟩
  obtain ⟨b, off, rfl, h4, h5⟩ := h3 hl
  exact ⟨b, off, rfl, Nat.lt_of_lt_of_le h4 hb.size, fun i hi j hj => by rw [hb.cell (p := ⟨b, off + i * 5 + j, none⟩) h4]; exact h5 i hi j hj⟩

theorem CX.form {w : World} {x : CX} (h : x.In w) : (I64 x.c.actor ∧ I64 x.c.seq ∧ I64 x.c.start) ∧ ∃ (d : Option Addr) (n k : Nat) (o : Option Addr) (m e : Nat), x.ud = .slice d n k ∧ x.uo = .slice o m e := by
  obtain ⟨ud, uo, l, h1, h2, h3, h4, h5, h6, _⟩ := h
  simp at h1
  obtain ⟨rfl, rfl⟩ := h1
  obtain ⟨a, c, e1, _⟩ := h5
  obtain ⟨a', c', e2, _⟩ := h6
  exact ⟨⟨h2, h3, h4⟩, a, _, c, a', _, c', e1, e2⟩

set_option maxRecDepth 100000 in
set_option maxHeartbeats 4000000 in
theorem lastSeq_any (v : Value) (l : List CX) (act : Int) (w : World) (hv : IsChgs w v l) :
    Calls Try.prog 36 #[v, .int .i64 act] w fun e w' => (∃ x, e = .returned (.int .i64 x) ∧ I64 x ∧ (l = [] → x = 0)) ∧ Below w.heap.size w w' := by
  obtain ⟨a, cap, rfl, h1, h2, hr, h3⟩ := hv
  have H3 : Hid ((∀ x ∈ l, x.In w) ∧ (l ≠ [] → ∃ b off, a = some ⟨b, off, none⟩ ∧ b < w.heap.size ∧ ∀ i (h : i < l.length) j, j < 5 → w.cell? ⟨b, off + i * 5 + j, none⟩ = l[i].cells[j]?)) := ⟨hr, h3⟩
  have HZ : Hid (l.length ≤ 1000000) := h2
  clear h3 hr h1 h2
  go_enter Try.func36, Try.ntmps36
  go_wp2_with fail
  go_loopw [5, 10] (fun s i wr => ∃ (k : Nat) (x : Int), k ≤ l.length ∧ i = .int .i64 k ∧ s = .int .i64 x ∧ Hid (I64 x ∧ (k = 0 → x = 0)) ∧ Below w.heap.size w wr) (fun _ i _ => l.length - (RowKit.intOf i).toNat)
  case atStart => exact ⟨0, 0, Nat.zero_le _, rfl, rfl, ⟨by unfold I64; omega, fun _ => rfl⟩, Below.refl _ _⟩
  case round =>
    obtain ⟨k, x, hk, rfl, rfl, hx, hbel⟩ := hrel
    by_cases hlt : k < l.length
    · obtain ⟨b, off, rfl, h4, h5⟩ := H3.out.2 (fun e => by rw [e] at hlt; simp at hlt)
      obtain ⟨⟨i1, i2, i3⟩, d, dn, dc, o, om, oe, e1, e2⟩ := CX.form (H3.out.1 l[k] (List.getElem_mem hlt))
      obtain ⟨q, hq⟩ : ∃ q : CX, l[k] = q := ⟨_, rfl⟩
      have hc : ∀ j, j < 5 → wr.cell? ⟨b, off + k * 5 + j, none⟩ = q.cells[j]? := fun j hj => by rw [hbel.cell (p := ⟨b, off + k * 5 + j, none⟩) h4, ← hq]; exact h5 k hlt j hj
      rw [hq] at i1 i2 i3 e1 e2
      have x0 : wr.cell? ⟨b, off + k * 5, none⟩ = some (.int .i64 q.c.actor) := hc 0 (by omega)
      have x1 : wr.cell? ⟨b, off + k * 5 + 1, none⟩ = some (.int .i64 q.c.seq) := hc 1 (by omega)
      have x2 : wr.cell? ⟨b, off + k * 5 + 2, none⟩ = some (.int .i64 q.c.start) := hc 2 (by omega)
      have x3 : wr.cell? ⟨b, off + k * 5 + 3, none⟩ = some (.slice d dn dc) := by rw [← e1]; exact hc 3 (by omega)
      have x4 : wr.cell? ⟨b, off + k * 5 + 4, none⟩ = some (.slice o om oe) := by rw [← e2]; exact hc 4 (by omega)
      have g1 : (k : Int) < l.length := by omega
      have g2 : (k : Int) < 1000000 := by have := HZ.out; omega
      have HK : Hid (k < l.length ∧ I64 q.c.seq) := ⟨hlt, i2⟩
      have HB : Hid (∀ o, Below w.heap.size w (wr.alloc o)) := fun o => hbel.alloc hbel.size o
      obtain ⟨qa, hqa⟩ : ∃ z : Int, q.c.actor = z := ⟨_, rfl⟩
      obtain ⟨qs, hqs⟩ : ∃ z : Int, q.c.seq = z := ⟨_, rfl⟩
      rw [hqa] at x0
      rw [hqs] at x1 HK
      clear h5 hk hbel hlt hc hq i1 i2 i3 e1 e2 hqa hqs
      by_cases ha : qa = act
      · have hab : (qa == act) = true := by simp [ha]
        by_cases hm : x ≤ qs
        · go_wp2
          go_roundw
          case rel => exact ⟨k + 1, qs, HK.out.1, by go_num, by first | rfl | simp [max_def, hm] | (congr 1; omega), ⟨HK.out.2, fun e => by omega⟩, HB.out _⟩
          case measure => simp [RowKit.intOf]; have := HK.out; omega
        · go_wp2
          go_roundw
          case rel => exact ⟨k + 1, x, HK.out.1, by go_num, by first | rfl | (congr 1; omega), ⟨hx.out.1, fun e => by omega⟩, HB.out _⟩
          case measure => simp [RowKit.intOf]; have := HK.out; omega
      · have hab : (qa == act) = false := by simp [ha]
        go_wp2
        go_roundw
        case rel => exact ⟨k + 1, x, HK.out.1, by go_num, rfl, ⟨hx.out.1, fun e => by omega⟩, HB.out _⟩
        case measure => simp [RowKit.intOf]; have := HK.out; omega
    · have hke : k = l.length := by omega
      have HB : Hid (Below w.heap.size w wr) := hbel
      clear hlt hk hbel
      subst hke
      go_wp2
      go_ret
      exact ⟨⟨x, rfl, hx.out.1, fun e => hx.out.2 (by rw [e]; rfl)⟩, HB.out⟩
end Go.Proofs.Ytbjnemmghpmjjaa

namespace Go.Proofs.Ytbjnemmghpmjjaa
open Go.RowKit Go.Maps

set_option maxRecDepth 100000 in
set_option maxHeartbeats 4000000 in
theorem lastNum_any (v : Value) (l : List CX) (w : World) (hv : IsChgs w v l) :
    Calls Try.prog 37 #[v] w fun e w' => (∃ x, e = .returned (.int .i64 x) ∧ I64 x ∧ (l = [] → x = 0)) ∧ Below w.heap.size w w' := by
  obtain ⟨a, cap, rfl, h1, h2, hr, h3⟩ := hv
  have H3 : Hid ((∀ x ∈ l, x.In w) ∧ (l ≠ [] → ∃ b off, a = some ⟨b, off, none⟩ ∧ b < w.heap.size ∧ ∀ i (h : i < l.length) j, j < 5 → w.cell? ⟨b, off + i * 5 + j, none⟩ = l[i].cells[j]?)) := ⟨hr, h3⟩
  have HZ : Hid (l.length ≤ 1000000) := h2
  clear h3 hr h1 h2
  go_enter Try.func37, Try.ntmps37
  go_wp2_with fail
  go_loopw [3, 8] (fun s i wr => ∃ (k : Nat) (x : Int), k ≤ l.length ∧ i = .int .i64 k ∧ s = .int .i64 x ∧ Hid (I64 x ∧ (k = 0 → x = 0)) ∧ Below w.heap.size w wr) (fun _ i _ => l.length - (RowKit.intOf i).toNat)
  case atStart => exact ⟨0, 0, Nat.zero_le _, rfl, rfl, ⟨by unfold I64; omega, fun _ => rfl⟩, Below.refl _ _⟩
  case round =>
    obtain ⟨k, x, hk, rfl, rfl, hx, hbel⟩ := hrel
    by_cases hlt : k < l.length
    · obtain ⟨b, off, rfl, h4, h5⟩ := H3.out.2 (fun e => by rw [e] at hlt; simp at hlt)
      obtain ⟨⟨i1, i2, i3⟩, d, dn, dc, o, om, oe, e1, e2⟩ := CX.form (H3.out.1 l[k] (List.getElem_mem hlt))
      obtain ⟨q, hq⟩ : ∃ q : CX, l[k] = q := ⟨_, rfl⟩
      have hc : ∀ j, j < 5 → wr.cell? ⟨b, off + k * 5 + j, none⟩ = q.cells[j]? := fun j hj => by rw [hbel.cell (p := ⟨b, off + k * 5 + j, none⟩) h4, ← hq]; exact h5 k hlt j hj
      rw [hq] at i1 i2 i3 e1 e2
      have x0 : wr.cell? ⟨b, off + k * 5, none⟩ = some (.int .i64 q.c.actor) := hc 0 (by omega)
      have x1 : wr.cell? ⟨b, off + k * 5 + 1, none⟩ = some (.int .i64 q.c.seq) := hc 1 (by omega)
      have x2 : wr.cell? ⟨b, off + k * 5 + 2, none⟩ = some (.int .i64 q.c.start) := hc 2 (by omega)
      have x3 : wr.cell? ⟨b, off + k * 5 + 3, none⟩ = some (.slice d dn dc) := by rw [← e1]; exact hc 3 (by omega)
      have x4 : wr.cell? ⟨b, off + k * 5 + 4, none⟩ = some (.slice o om oe) := by rw [← e2]; exact hc 4 (by omega)
      have g1 : (k : Int) < l.length := by omega
      have g2 : (k : Int) < 1000000 := by have := HZ.out; omega
      have HK : Hid (k < l.length ∧ I64 q.c.seq) := ⟨hlt, i2⟩
      have HB : Hid (∀ o, Below w.heap.size w (wr.alloc o)) := fun o => hbel.alloc hbel.size o
      obtain ⟨qs, hqs⟩ : ∃ z : Int, q.c.start = z := ⟨_, rfl⟩
      rw [hqs] at x2
      have hom : (om : Int) ≤ 1099511627776 := by
        obtain ⟨ud, uo, ll, f1, _, _, _, _, f6, _⟩ := H3.out.1 l[k] (List.getElem_mem hlt)
        rw [hq] at f1
        simp at f1
        obtain ⟨a', c', g1, _, g2, _⟩ := f6
        rw [← f1.2, e2] at g1
        have g3 := (Value.slice.inj g1).2.1
        omega
      clear h5 hk hbel hlt hc hq i1 i2 i3 e1 e2 hqs
      have hw : I64 (wrap64 (wrap64 (qs + om) - 1)) := i64_wrap _
      obtain ⟨y, hy⟩ : ∃ y : Int, wrap64 (wrap64 (qs + om) - 1) = y := ⟨_, rfl⟩
      rw [hy] at hw
      have HW : Hid (I64 y) := hw
      clear hw
      by_cases ho : om = 0
      · subst ho
        go_wp2
        go_roundw
        case rel => exact ⟨k + 1, x, HK.out.1, by go_num, rfl, ⟨hx.out.1, fun e => by omega⟩, HB.out _⟩
        case measure => simp [RowKit.intOf]; have := HK.out; omega
      · have ho1 : 0 < om := by omega
        have ho2 : (0 : Int) < om := by omega
        by_cases hm : x ≤ y
        · go_wp2
          go_roundw
          case rel => exact ⟨k + 1, y, HK.out.1, by go_num, by first | rfl | (congr 1; omega), ⟨HW.out, fun e => by omega⟩, HB.out _⟩
          case measure => simp [RowKit.intOf]; have := HK.out; omega
        · go_wp2
          go_roundw
          case rel => exact ⟨k + 1, x, HK.out.1, by go_num, by first | rfl | (congr 1; omega), ⟨hx.out.1, fun e => by omega⟩, HB.out _⟩
          case measure => simp [RowKit.intOf]; have := HK.out; omega
    · have hke : k = l.length := by omega
      have HB : Hid (Below w.heap.size w wr) := hbel
      clear hlt hk hbel
      subst hke
      go_wp2
      go_ret
      exact ⟨⟨x, rfl, hx.out.1, fun e => hx.out.2 (by rw [e]; rfl)⟩, HB.out⟩
end Go.Proofs.Ytbjnemmghpmjjaa

namespace Go.Proofs.Ytbjnemmghpmjjaa
open Go.RowKit Go.Maps

/-- Are two pairs the same? -/
def samePr (a b : Pr) : Bool := a.1 == b.1 && a.2 == b.2
theorem samePr_iff (a b : Pr) : samePr a b = true ↔ a = b := by
  unfold samePr
  simp [Prod.ext_iff]
theorem samePr_no {a b : Pr} (h : samePr a b = false) : a ≠ b := fun e => by rw [(samePr_iff a b).2 e] at h; cases h

theorem take_eq {l m : List Pr} (k : Nat) (h1 : k < l.length) (h2 : k < m.length) (h : l.take k = m.take k) (e : l[k] = m[k]) : l.take (k + 1) = m.take (k + 1) := by
  rw [List.take_succ_eq_append_getElem h1, List.take_succ_eq_append_getElem h2, h, e]

set_option maxRecDepth 100000 in
theorem eqR (a b : Pr) (w : World) : (Op.equalIn 10000 34 (.agg #[.int .i64 a.1, .int .i64 a.2]) (.agg #[.int .i64 b.1, .int .i64 b.2])).run Try.prog w = .ok (samePr a b) w := by
  unfold samePr
  go_simp
  by_cases h1 : a.1 = b.1 <;> by_cases h2 : a.2 = b.2 <;> simp [h1, h2]

set_option maxRecDepth 100000 in
set_option maxHeartbeats 4000000 in
theorem equalR_any (v u : Value) (l m : List Pr) (w : World) (hv : IsPairs w v l) (hu : IsPairs w u m) :
    Calls Try.prog 31 #[v, u] w fun e w' => (∃ b : Bool, e = .returned (.bool b) ∧ (b = true ↔ l = m)) ∧ Below w.heap.size w w' := by
  obtain ⟨a, cap, rfl, h1, h2, hr, h3⟩ := hv
  obtain ⟨c, cap2, rfl, k1, k2, kr, k3⟩ := hu
  have HA : Hid ((l ≠ [] → ∃ b off, a = some ⟨b, off, none⟩ ∧ b < w.heap.size ∧ ∀ i (h : i < l.length), w.cell? ⟨b, off + i * 2, none⟩ = some (.int .i64 l[i].1) ∧ w.cell? ⟨b, off + i * 2 + 1, none⟩ = some (.int .i64 l[i].2)) ∧ (m ≠ [] → ∃ b off, c = some ⟨b, off, none⟩ ∧ b < w.heap.size ∧ ∀ i (h : i < m.length), w.cell? ⟨b, off + i * 2, none⟩ = some (.int .i64 m[i].1) ∧ w.cell? ⟨b, off + i * 2 + 1, none⟩ = some (.int .i64 m[i].2))) := ⟨h3, k3⟩
  have HZ : Hid (l.length ≤ 8796093022208) := h2
  clear h1 h2 hr h3 k1 k2 kr k3
  have HE := eqR
  by_cases hlen : l.length = m.length
  · have HL : Hid (l.length = m.length) := hlen
    rw [← hlen]
    clear hlen
    go_enter Try.func31, Try.ntmps31
    go_wp2_with fail
    go_loopw [13] (fun i wr => ∃ k : Nat, k ≤ l.length ∧ i = .int .i64 k ∧ Hid (l.take k = m.take k) ∧ Below w.heap.size w wr) (fun i _ => l.length - (RowKit.intOf i).toNat)
    case atStart => exact ⟨0, Nat.zero_le _, rfl, by show _ = _; simp, Below.refl _ _⟩
    case round =>
      obtain ⟨k, hk, rfl, hs, hbel⟩ := hrel
      by_cases hlt : k < l.length
      · have hlm : k < m.length := by have := HL.out; omega
        obtain ⟨b, off, rfl, h4, h5⟩ := HA.out.1 (fun e => by rw [e] at hlt; simp at hlt)
        obtain ⟨b2, off2, rfl, k4, k5⟩ := HA.out.2 (fun e => by rw [e] at hlm; simp at hlm)
        have x0 : wr.cell? ⟨b, off + k * 2, none⟩ = some (.int .i64 l[k].1) := by rw [hbel.cell (p := ⟨b, off + k * 2, none⟩) h4]; exact (h5 k hlt).1
        have x1 : wr.cell? ⟨b, off + k * 2 + 1, none⟩ = some (.int .i64 l[k].2) := by rw [hbel.cell (p := ⟨b, off + k * 2 + 1, none⟩) h4]; exact (h5 k hlt).2
        have y0 : wr.cell? ⟨b2, off2 + k * 2, none⟩ = some (.int .i64 m[k].1) := by rw [hbel.cell (p := ⟨b2, off2 + k * 2, none⟩) k4]; exact (k5 k hlm).1
        have y1 : wr.cell? ⟨b2, off2 + k * 2 + 1, none⟩ = some (.int .i64 m[k].2) := by rw [hbel.cell (p := ⟨b2, off2 + k * 2 + 1, none⟩) k4]; exact (k5 k hlm).2
        have g1 : (k : Int) < l.length := by omega
        have g2 : (k : Int) < 8796093022208 := by have := HZ.out; omega
        obtain ⟨p, hp⟩ : ∃ p : Pr, l[k] = p := ⟨_, rfl⟩
        obtain ⟨q, hq⟩ : ∃ q : Pr, m[k] = q := ⟨_, rfl⟩
        rw [hp] at x0 x1
        rw [hq] at y0 y1
        have HK : Hid (∃ (h1 : k < l.length) (h2 : k < m.length), l[k] = p ∧ m[k] = q) := ⟨hlt, hlm, hp, hq⟩
        have HB : Hid (Below w.heap.size w wr) := hbel
        have E := HE p q
        obtain ⟨sb, hsb⟩ : ∃ s : Bool, samePr p q = s := ⟨_, rfl⟩
        rw [hsb] at E
        have HS : Hid (samePr p q = sb) := hsb
        clear h5 k5 hk hbel hlt hlm hp hq HE hsb
        cases sb with
        | true =>
          go_wp2
          go_quiet (fail)
          go_wp2
          go_roundw
          case rel =>
            obtain ⟨i1, i2, e1, e2⟩ := HK.out
            exact ⟨k + 1, i1, by go_num, take_eq k i1 i2 hs.out (by rw [e1, e2]; exact (samePr_iff p q).1 HS.out), below_drew HB.out nq⟩
          case measure => simp [RowKit.intOf]; obtain ⟨i1, _⟩ := HK.out; omega
        | false =>
          go_wp2
          go_quiet (fail)
          go_wp2
          go_ret
          obtain ⟨i1, i2, e1, e2⟩ := HK.out
          exact ⟨⟨false, rfl, ⟨fun h => (by cases h), fun h => absurd (by rw [← e1, ← e2]; simp [h]) (samePr_no HS.out)⟩⟩, below_drew HB.out nq⟩
      · have hke : k = l.length := by omega
        have HB : Hid (Below w.heap.size w wr) := hbel
        clear hlt hk hbel
        subst hke
        go_wp2
        go_ret
        have e1 := hs.out
        rw [List.take_of_length_le (Nat.le_refl _), List.take_of_length_le (by have := HL.out; omega)] at e1
        exact ⟨⟨true, rfl, ⟨fun _ => e1, fun _ => rfl⟩⟩, HB.out⟩
  · have g1 : ¬ (l.length : Int) = m.length := by omega
    have g2 : ((l.length : Int) == m.length) = false := by simp; omega
    have HL : Hid (¬ l.length = m.length) := hlen
    clear hlen
    go_enter Try.func31, Try.ntmps31
    go_wp2
    go_ret
    exact ⟨⟨false, rfl, ⟨fun h => (by cases h), fun h => absurd (by rw [h]) HL.out⟩⟩, Below.refl _ _⟩

set_option maxRecDepth 100000 in
theorem eqD (a b : Pr) (w : World) : (Op.equalIn 10000 59 (.agg #[.int .i64 a.1, .int .i64 a.2]) (.agg #[.int .i64 b.1, .int .i64 b.2])).run Try.prog w = .ok (samePr a b) w := by
  unfold samePr
  go_simp
  by_cases h1 : a.1 = b.1 <;> by_cases h2 : a.2 = b.2 <;> simp [h1, h2]

set_option maxRecDepth 100000 in
set_option maxHeartbeats 4000000 in
theorem equalD_any (v u : Value) (l m : List Pr) (w : World) (hv : IsPairs w v l) (hu : IsPairs w u m) :
    Calls Try.prog 53 #[v, u] w fun e w' => (∃ b : Bool, e = .returned (.bool b) ∧ (b = true ↔ l = m)) ∧ Below w.heap.size w w' := by
  obtain ⟨a, cap, rfl, h1, h2, hr, h3⟩ := hv
  obtain ⟨c, cap2, rfl, k1, k2, kr, k3⟩ := hu
  have HA : Hid ((l ≠ [] → ∃ b off, a = some ⟨b, off, none⟩ ∧ b < w.heap.size ∧ ∀ i (h : i < l.length), w.cell? ⟨b, off + i * 2, none⟩ = some (.int .i64 l[i].1) ∧ w.cell? ⟨b, off + i * 2 + 1, none⟩ = some (.int .i64 l[i].2)) ∧ (m ≠ [] → ∃ b off, c = some ⟨b, off, none⟩ ∧ b < w.heap.size ∧ ∀ i (h : i < m.length), w.cell? ⟨b, off + i * 2, none⟩ = some (.int .i64 m[i].1) ∧ w.cell? ⟨b, off + i * 2 + 1, none⟩ = some (.int .i64 m[i].2))) := ⟨h3, k3⟩
  have HZ : Hid (l.length ≤ 8796093022208) := h2
  clear h1 h2 hr h3 k1 k2 kr k3
  have HE := eqD
  by_cases hlen : l.length = m.length
  · have HL : Hid (l.length = m.length) := hlen
    rw [← hlen]
    clear hlen
    go_enter Try.func53, Try.ntmps53
    go_wp2_with fail
    go_loopw [13] (fun i wr => ∃ k : Nat, k ≤ l.length ∧ i = .int .i64 k ∧ Hid (l.take k = m.take k) ∧ Below w.heap.size w wr) (fun i _ => l.length - (RowKit.intOf i).toNat)
    case atStart => exact ⟨0, Nat.zero_le _, rfl, by show _ = _; simp, Below.refl _ _⟩
    case round =>
      obtain ⟨k, hk, rfl, hs, hbel⟩ := hrel
      by_cases hlt : k < l.length
      · have hlm : k < m.length := by have := HL.out; omega
        obtain ⟨b, off, rfl, h4, h5⟩ := HA.out.1 (fun e => by rw [e] at hlt; simp at hlt)
        obtain ⟨b2, off2, rfl, k4, k5⟩ := HA.out.2 (fun e => by rw [e] at hlm; simp at hlm)
        have x0 : wr.cell? ⟨b, off + k * 2, none⟩ = some (.int .i64 l[k].1) := by rw [hbel.cell (p := ⟨b, off + k * 2, none⟩) h4]; exact (h5 k hlt).1
        have x1 : wr.cell? ⟨b, off + k * 2 + 1, none⟩ = some (.int .i64 l[k].2) := by rw [hbel.cell (p := ⟨b, off + k * 2 + 1, none⟩) h4]; exact (h5 k hlt).2
        have y0 : wr.cell? ⟨b2, off2 + k * 2, none⟩ = some (.int .i64 m[k].1) := by rw [hbel.cell (p := ⟨b2, off2 + k * 2, none⟩) k4]; exact (k5 k hlm).1
        have y1 : wr.cell? ⟨b2, off2 + k * 2 + 1, none⟩ = some (.int .i64 m[k].2) := by rw [hbel.cell (p := ⟨b2, off2 + k * 2 + 1, none⟩) k4]; exact (k5 k hlm).2
        have g1 : (k : Int) < l.length := by omega
        have g2 : (k : Int) < 8796093022208 := by have := HZ.out; omega
        obtain ⟨p, hp⟩ : ∃ p : Pr, l[k] = p := ⟨_, rfl⟩
        obtain ⟨q, hq⟩ : ∃ q : Pr, m[k] = q := ⟨_, rfl⟩
        rw [hp] at x0 x1
        rw [hq] at y0 y1
        have HK : Hid (∃ (h1 : k < l.length) (h2 : k < m.length), l[k] = p ∧ m[k] = q) := ⟨hlt, hlm, hp, hq⟩
        have HB : Hid (Below w.heap.size w wr) := hbel
        have E := HE p q
        obtain ⟨sb, hsb⟩ : ∃ s : Bool, samePr p q = s := ⟨_, rfl⟩
        rw [hsb] at E
        have HS : Hid (samePr p q = sb) := hsb
        clear h5 k5 hk hbel hlt hlm hp hq HE hsb
        cases sb with
        | true =>
          go_wp2
          go_quiet (fail)
          go_wp2
          go_roundw
          case rel =>
            obtain ⟨i1, i2, e1, e2⟩ := HK.out
            exact ⟨k + 1, i1, by go_num, take_eq k i1 i2 hs.out (by rw [e1, e2]; exact (samePr_iff p q).1 HS.out), below_drew HB.out nq⟩
          case measure => simp [RowKit.intOf]; obtain ⟨i1, _⟩ := HK.out; omega
        | false =>
          go_wp2
          go_quiet (fail)
          go_wp2
          go_ret
          obtain ⟨i1, i2, e1, e2⟩ := HK.out
          exact ⟨⟨false, rfl, ⟨fun h => (by cases h), fun h => absurd (by rw [← e1, ← e2]; simp [h]) (samePr_no HS.out)⟩⟩, below_drew HB.out nq⟩
      · have hke : k = l.length := by omega
        have HB : Hid (Below w.heap.size w wr) := hbel
        clear hlt hk hbel
        subst hke
        go_wp2
        go_ret
        have e1 := hs.out
        rw [List.take_of_length_le (Nat.le_refl _), List.take_of_length_le (by have := HL.out; omega)] at e1
        exact ⟨⟨true, rfl, ⟨fun _ => e1, fun _ => rfl⟩⟩, HB.out⟩
  · have g1 : ¬ (l.length : Int) = m.length := by omega
    have g2 : ((l.length : Int) == m.length) = false := by simp; omega
    have HL : Hid (¬ l.length = m.length) := hlen
    clear hlen
    go_enter Try.func53, Try.ntmps53
    go_wp2
    go_ret
    exact ⟨⟨false, rfl, ⟨fun h => (by cases h), fun h => absurd (by rw [h]) HL.out⟩⟩, Below.refl _ _⟩

end Go.Proofs.Ytbjnemmghpmjjaa

namespace Go.Proofs.Ytbjnemmghpmjjaa
open Go.RowKit Go.Maps

theorem sameB_self (v : V) : sameB v v = true := by simp [sameB]

set_option maxRecDepth 100000 in
set_option maxHeartbeats 8000000 in
theorem sameOp_any (o p : OpM) (u v : Value) (w : World) (hu : IsPairs w u o.preds) (hv : IsPairs w v p.preds) :
    Calls Try.prog 33 #[opVal o u, opVal p v] w fun e w' => (∃ b : Bool, e = .returned (.bool b) ∧ (o = p → b = true)) ∧ Below w.heap.size w w' := by
  have b0 := ((Below.refl w.heap.size w).alloc (Nat.le_refl _) (.cells (opCells o u).toArray 64)).alloc (by simp) (.cells (opCells p v).toArray 64)
  have EP := equalD_any u v o.preds p.preds _ (hu.below b0) (hv.below b0)
  obtain ⟨ua, uc, rfl, _⟩ := hu
  obtain ⟨va, vc, rfl, _⟩ := hv
  have HB : Hid _ := b0
  have E1 := eqD o.obj p.obj
  have E2 := eqD o.elem p.elem
  have E3 := eqV o.val p.val
  obtain ⟨s1, h1⟩ : ∃ s : Bool, Hid (s = samePr o.obj p.obj) := ⟨_, rfl⟩
  obtain ⟨s2, h2⟩ : ∃ s : Bool, Hid (s = samePr o.elem p.elem) := ⟨_, rfl⟩
  obtain ⟨s3, h3⟩ : ∃ s : Bool, Hid (s = sameB o.val p.val) := ⟨_, rfl⟩
  rw [← h1.out] at E1
  rw [← h2.out] at E2
  rw [← h3.out] at E3
  have H1 : Hid (o = p → s1 = true) := fun e => by rw [h1.out, e]; exact (samePr_iff _ _).2 rfl
  have H2 : Hid (o = p → s2 = true) := fun e => by rw [h2.out, e]; exact (samePr_iff _ _).2 rfl
  have H3 : Hid (o = p → s3 = true) := fun e => by rw [h3.out, e]; exact sameB_self _
  have H4 : Hid (o = p → o.kind = p.kind ∧ o.key = p.key ∧ o.ins = p.ins ∧ o.preds = p.preds) := fun e => by rw [e]; exact ⟨rfl, rfl, rfl, rfl⟩
  unfold V.val at E3
  simp only [opVal, opCells] at EP HB ⊢
  clear b0 h1 h2 h3
  obtain ⟨ok, oo, oy, oe, oi, ⟨wk, wn, wt, wo, wa⟩, op⟩ := o
  obtain ⟨pk, po, py, pe, pi, ⟨xk, xn, xt, xo, xa⟩, pp⟩ := p
  dsimp only at *
  obtain ⟨HO, hHO⟩ : ∃ P : Prop, P = ((OpM.mk ok oo oy oe oi ⟨wk, wn, wt, wo, wa⟩ op) = (OpM.mk pk po py pe pi ⟨xk, xn, xt, xo, xa⟩ pp)) := ⟨_, rfl⟩
  rw [← hHO] at H1 H2 H3 H4 ⊢
  clear hHO
  by_cases c1 : ok = pk
  · subst c1
    by_cases c2 : s1 = true
    · subst c2
      by_cases c3 : oy.toList = py.toList
      · have c3b : (oy.toList == py.toList) = true := by simp [c3]
        clear c3
        by_cases c4 : s2 = true
        · subst c4
          by_cases c5 : oi = pi
          · subst c5
            by_cases c6 : s3 = true
            · subst c6
              go_enter Try.func33, Try.ntmps33
              go_wp2_with fail
              go_fit EP
              rintro e w1 ⟨⟨pb, rfl, hpb⟩, b1⟩
              have HP : Hid (pb = true ↔ op = pp) := hpb
              have HB1 : Hid (Below w.heap.size w w1) := HB.out.trans (b1.mono HB.out.size)
              clear hpb b1 EP
              go_wp2
              go_ret
              exact ⟨⟨pb, rfl, fun h => HP.out.2 (H4.out h).2.2.2⟩, HB1.out⟩
            · obtain rfl : s3 = false := by simpa using c6
              go_enter Try.func33, Try.ntmps33
              go_wp2
              go_ret
              first | exact ⟨⟨false, rfl, fun h => absurd (H3.out h) (by simp)⟩, HB.out⟩ | exact ⟨Or.inl ⟨rfl, fun h => absurd (H3.out h) (by simp)⟩, HB.out⟩
          · have c5b : (oi == pi) = false := by simp [c5]
            go_enter Try.func33, Try.ntmps33
            go_wp2
            go_ret
            first | exact ⟨⟨false, rfl, fun h => absurd ((H4.out h).2.2.1) (c5)⟩, HB.out⟩ | exact ⟨Or.inl ⟨rfl, fun h => absurd ((H4.out h).2.2.1) (c5)⟩, HB.out⟩
        · obtain rfl : s2 = false := by simpa using c4
          go_enter Try.func33, Try.ntmps33
          go_wp2
          go_ret
          first | exact ⟨⟨false, rfl, fun h => absurd (H2.out h) (by simp)⟩, HB.out⟩ | exact ⟨Or.inl ⟨rfl, fun h => absurd (H2.out h) (by simp)⟩, HB.out⟩
      · have c3b : (oy.toList == py.toList) = false := by simp [c3]
        go_enter Try.func33, Try.ntmps33
        go_wp2
        go_ret
        first | exact ⟨⟨false, rfl, fun h => absurd (congrArg ByteArray.toList (H4.out h).2.1) c3⟩, HB.out⟩ | exact ⟨Or.inl ⟨rfl, fun h => absurd (congrArg ByteArray.toList (H4.out h).2.1) c3⟩, HB.out⟩
    · obtain rfl : s1 = false := by simpa using c2
      go_enter Try.func33, Try.ntmps33
      go_wp2
      go_ret
      first | exact ⟨⟨false, rfl, fun h => absurd (H1.out h) (by simp)⟩, HB.out⟩ | exact ⟨Or.inl ⟨rfl, fun h => absurd (H1.out h) (by simp)⟩, HB.out⟩
  · have c1b : (ok == pk) = false := by simp [c1]
    go_enter Try.func33, Try.ntmps33
    go_wp2
    go_ret
    first | exact ⟨⟨false, rfl, fun h => absurd ((H4.out h).1) (c1)⟩, HB.out⟩ | exact ⟨Or.inl ⟨rfl, fun h => absurd ((H4.out h).1) (c1)⟩, HB.out⟩
end Go.Proofs.Ytbjnemmghpmjjaa
