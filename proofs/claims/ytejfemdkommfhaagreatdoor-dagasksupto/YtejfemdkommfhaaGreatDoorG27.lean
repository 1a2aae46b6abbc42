/-
  What is proved: as each theorem says.
  Conditions: as each theorem says.
-/
import Derived.Test.YtejfemdkommfhaaGreatDoorG18
import Derived.Test.YtejfemdkommfhaaGreatDoorG06
namespace Go.Proofs.YtejfemdkommfhaaGreatDoor
open Go.RowKit Go.Sort
theorem take_snocE {α : Type} (l : List α) (k : Nat) (h : k < l.length) : l.take (k + 1) = l.take k ++ [l[k]] := by rw [List.take_succ_eq_append_getElem h]
set_option maxRecDepth 100000 in
set_option maxHeartbeats 4000000 in
theorem lastSeqX_any (v : Value) (l : List CX) (act : Int) (w : World) (hv : IsChgs w v l) :
 Calls Tryz.prog 55 #[v, .int .i64 act] w fun e w' => (∃ x, e = .returned (.int .i64 x) ∧ Hid (I64 x ∧ x = seqM (l.map (·.c)) act)) ∧ Below w.heap.size w w' := by
 obtain ⟨a, cap, rfl, h1, h2, hr, h3⟩ := hv
 have H3 : Hid ((∀ x ∈ l, x.In w) ∧ (l ≠ [] → ∃ b off, a = some ⟨b, off, none⟩ ∧ b < w.heap.size ∧ ∀ i (h : i < l.length) j, j < 5 → w.cell? ⟨b, off + i * 5 + j, none⟩ = l[i].cells[j]?)) := ⟨hr, h3⟩
 have HZ : Hid (l.length ≤ 1000000) := h2
 clear h3 hr h1 h2
 go_enter Tryz.func55, Tryz.ntmps55
 go_wp2_with fail
 go_loopw [5, 10] (fun s i wr => ∃ (k : Nat) (x : Int), k ≤ l.length ∧ i = .int .i64 k ∧ s = .int .i64 x ∧ Hid (I64 x ∧ x = seqM ((l.take k).map (·.c)) act) ∧ Below w.heap.size w wr) (fun _ i _ => l.length - (RowKit.intOf i).toNat)
 case atStart => exact ⟨0, 0, Nat.zero_le _, rfl, rfl, ⟨by unfold I64; omega, rfl⟩, Below.refl _ _⟩
 case round =>
  obtain ⟨k, x, hk, rfl, rfl, hx, hbel⟩ := hrel
  by_cases hlt : k < l.length
  ·obtain ⟨b, off, rfl, h4, h5⟩ := H3.out.2 (fun e => by rw [e] at hlt; simp at hlt)
   obtain ⟨⟨i1, i2, i3⟩, d, dn, dc, o, om, oe, e1, e2⟩ := CX.form (H3.out.1 l[k] (List.getElem_mem hlt))
   obtain ⟨q, hq⟩ : ∃ q : CX, l[k] = q := ⟨_, rfl⟩
   have hc : ∀ j, j < 5 → wr.cell? ⟨b, off + k * 5 + j, none⟩ = q.cells[j]? := fun j hj => by rw [hbel.cell (p := ⟨b, off + k * 5 + j, none⟩) h4, ← hq]; exact h5 k hlt j hj
   rw [hq] at i1 i2 i3 e1 e2
   have x0 : wr.cell? ⟨b, off + k * 5, none⟩ = some (.int .i64 q.c.actor) := hc 0 (by omega)
   have x1 : wr.cell? ⟨b, off + k * 5 + 1, none⟩ = some (.int .i64 q.c.seq) := hc 1 (by omega)
   have x2 : wr.cell? ⟨b, off + k * 5 + 2, none⟩ = some (.int .i64 q.c.start) := hc 2 (by omega)
   have x3 : wr.cell? ⟨b, off + k * 5 + 3, none⟩ = some (.slice d dn dc) := by rw [← e1]; exact hc 3 (by omega)
   have x4 : wr.cell? ⟨b, off + k * 5 + 4, none⟩ = some (.slice o om oe) := by rw [← e2]; exact hc 4 (by omega)
   have g1 : (k : Int) < l.length := by omega
   have g2 : (k : Int) < 1000000 := by have := HZ.out; omega
   have HK : Hid (k < l.length ∧ I64 q.c.seq) := ⟨hlt, i2⟩
   have HB : Hid (∀ o, Below w.heap.size w (wr.alloc o)) := fun o => hbel.alloc hbel.size o
   obtain ⟨qa, hqa⟩ : ∃ z : Int, q.c.actor = z := ⟨_, rfl⟩
   obtain ⟨qs, hqs⟩ : ∃ z : Int, q.c.seq = z := ⟨_, rfl⟩
   rw [hqa] at x0
   rw [hqs] at x1 HK
   have HQ : Hid ((if qa = act then (if x ≤ qs then qs else x) else x) = seqM ((l.take (k + 1)).map (·.c)) act) := by
    show _ = _
    rw [take_snocE l k hlt, List.map_append, List.map_cons, List.map_nil, seqM_snoc, ← hx.out.2, hq, hqa, hqs]
   clear h5 hk hbel hlt hc hq i1 i2 i3 e1 e2 hqa hqs
   by_cases ha : qa = act
   ·have hab : (qa == act) = true := by simp [ha]
    by_cases hm : x ≤ qs
    ·go_wp2
     go_roundw
     case rel => exact ⟨k + 1, qs, HK.out.1, by go_num, by first | rfl | simp [max_def, hm] | (congr 1; omega), ⟨HK.out.2, by rw [← HQ.out, if_pos ha, if_pos hm]⟩, HB.out _⟩
     case measure => simp [RowKit.intOf]; have := HK.out; omega
    ·go_wp2
     go_roundw
     case rel => exact ⟨k + 1, x, HK.out.1, by go_num, by first | rfl | (congr 1; omega), ⟨hx.out.1, by rw [← HQ.out, if_pos ha, if_neg hm]⟩, HB.out _⟩
     case measure => simp [RowKit.intOf]; have := HK.out; omega
   ·have hab : (qa == act) = false := by simp [ha]
    go_wp2
    go_roundw
    case rel => exact ⟨k + 1, x, HK.out.1, by go_num, rfl, ⟨hx.out.1, by rw [← HQ.out, if_neg ha]⟩, HB.out _⟩
    case measure => simp [RowKit.intOf]; have := HK.out; omega
  ·have hke : k = l.length := by omega
   have HB : Hid (Below w.heap.size w wr) := hbel
   clear hlt hk hbel
   subst hke
   go_wp2
   go_ret
   exact ⟨⟨x, rfl, hx.out.1, by rw [hx.out.2, List.take_length]⟩, HB.out⟩
set_option maxRecDepth 100000 in
set_option maxHeartbeats 4000000 in
theorem lastNumX_any (v : Value) (l : List CX) (w : World) (hv : IsChgs w v l) (hsm : ∀ x ∈ l, SmallC x.c) :
 Calls Tryz.prog 56 #[v] w fun e w' => (∃ x, e = .returned (.int .i64 x) ∧ Hid (I64 x ∧ x = numM (l.map (·.c)))) ∧ Below w.heap.size w w' := by
 obtain ⟨a, cap, rfl, h1, h2, hr, h3⟩ := hv
 have H3 : Hid ((∀ x ∈ l, x.In w) ∧ (l ≠ [] → ∃ b off, a = some ⟨b, off, none⟩ ∧ b < w.heap.size ∧ ∀ i (h : i < l.length) j, j < 5 → w.cell? ⟨b, off + i * 5 + j, none⟩ = l[i].cells[j]?)) := ⟨hr, h3⟩
 have HZ : Hid (l.length ≤ 1000000) := h2
 have HSM : Hid (∀ x ∈ l, SmallC x.c) := hsm
 clear hsm
 clear h3 hr h1 h2
 go_enter Tryz.func56, Tryz.ntmps56
 go_wp2_with fail
 go_loopw [3, 8] (fun s i wr => ∃ (k : Nat) (x : Int), k ≤ l.length ∧ i = .int .i64 k ∧ s = .int .i64 x ∧ Hid (I64 x ∧ x = numM ((l.take k).map (·.c))) ∧ Below w.heap.size w wr) (fun _ i _ => l.length - (RowKit.intOf i).toNat)
 case atStart => exact ⟨0, 0, Nat.zero_le _, rfl, rfl, ⟨by unfold I64; omega, rfl⟩, Below.refl _ _⟩
 case round =>
  obtain ⟨k, x, hk, rfl, rfl, hx, hbel⟩ := hrel
  by_cases hlt : k < l.length
  ·obtain ⟨b, off, rfl, h4, h5⟩ := H3.out.2 (fun e => by rw [e] at hlt; simp at hlt)
   obtain ⟨⟨i1, i2, i3⟩, d, dn, dc, o, om, oe, e1, e2⟩ := CX.form (H3.out.1 l[k] (List.getElem_mem hlt))
   obtain ⟨q, hq⟩ : ∃ q : CX, l[k] = q := ⟨_, rfl⟩
   have hc : ∀ j, j < 5 → wr.cell? ⟨b, off + k * 5 + j, none⟩ = q.cells[j]? := fun j hj => by rw [hbel.cell (p := ⟨b, off + k * 5 + j, none⟩) h4, ← hq]; exact h5 k hlt j hj
   rw [hq] at i1 i2 i3 e1 e2
   have x0 : wr.cell? ⟨b, off + k * 5, none⟩ = some (.int .i64 q.c.actor) := hc 0 (by omega)
   have x1 : wr.cell? ⟨b, off + k * 5 + 1, none⟩ = some (.int .i64 q.c.seq) := hc 1 (by omega)
   have x2 : wr.cell? ⟨b, off + k * 5 + 2, none⟩ = some (.int .i64 q.c.start) := hc 2 (by omega)
   have x3 : wr.cell? ⟨b, off + k * 5 + 3, none⟩ = some (.slice d dn dc) := by rw [← e1]; exact hc 3 (by omega)
   have x4 : wr.cell? ⟨b, off + k * 5 + 4, none⟩ = some (.slice o om oe) := by rw [← e2]; exact hc 4 (by omega)
   have g1 : (k : Int) < l.length := by omega
   have g2 : (k : Int) < 1000000 := by have := HZ.out; omega
   have HK : Hid (k < l.length ∧ I64 q.c.seq) := ⟨hlt, i2⟩
   have HB : Hid (∀ o, Below w.heap.size w (wr.alloc o)) := fun o => hbel.alloc hbel.size o
   obtain ⟨qs, hqs⟩ : ∃ z : Int, q.c.start = z := ⟨_, rfl⟩
   rw [hqs] at x2
   have hoq : om = q.c.ops.length := by
    obtain ⟨ud, uo, ll, f1, _, _, _, _, f6, f7⟩ := H3.out.1 l[k] (List.getElem_mem hlt)
    rw [hq] at f1 f7
    simp at f1
    obtain ⟨a', c', g1, _, g2, _⟩ := f6
    rw [← f1.2, e2] at g1
    have g3 := (Value.slice.inj g1).2.1
    rw [← f7, List.length_map]
    exact g3
   have hsq : SmallC q.c := by rw [← hq]; exact HSM.out _ (List.getElem_mem hlt)
   have hom : (om : Int) ≤ 1099511627776 := by
    obtain ⟨ud, uo, ll, f1, _, _, _, _, f6, _⟩ := H3.out.1 l[k] (List.getElem_mem hlt)
    rw [hq] at f1
    simp at f1
    obtain ⟨a', c', g1, _, g2, _⟩ := f6
    rw [← f1.2, e2] at g1
    have g3 := (Value.slice.inj g1).2.1
    omega
   have HQ : Hid ((if om = 0 then x else if x ≤ wrap64 (wrap64 (qs + om) - 1) then wrap64 (wrap64 (qs + om) - 1) else x) = numM ((l.take (k + 1)).map (·.c))) := by
    show _ = _
    obtain ⟨s1, s2, s3⟩ := hsq
    have e9 : wrap64 (wrap64 (qs + om) - 1) = qs + om - 1 := by
     rw [← hqs]
     unfold wrap64
     omega
    rw [take_snocE l k hlt, List.map_append, List.map_cons, List.map_nil, numM_snoc, ← hx.out.2, hq, hqs, ← hoq, e9]
   clear h5 hk hbel hlt hc hq i1 i2 i3 e1 e2 hqs hoq hsq
   have hw : I64 (wrap64 (wrap64 (qs + om) - 1)) := i64_wrap _
   obtain ⟨y, hy⟩ : ∃ y : Int, wrap64 (wrap64 (qs + om) - 1) = y := ⟨_, rfl⟩
   rw [hy] at hw HQ
   have HW : Hid (I64 y) := hw
   clear hw
   by_cases ho : om = 0
   ·subst ho
    go_wp2
    go_roundw
    case rel => exact ⟨k + 1, x, HK.out.1, by go_num, rfl, ⟨hx.out.1, by rw [← HQ.out, if_pos rfl]⟩, HB.out _⟩
    case measure => simp [RowKit.intOf]; have := HK.out; omega
   ·have ho1 : 0 < om := by omega
    have ho2 : (0 : Int) < om := by omega
    by_cases hm : x ≤ y
    ·go_wp2
     go_roundw
     case rel => exact ⟨k + 1, y, HK.out.1, by go_num, by first | rfl | (congr 1; omega), ⟨HW.out, by rw [← HQ.out, if_neg ho, if_pos hm]⟩, HB.out _⟩
     case measure => simp [RowKit.intOf]; have := HK.out; omega
    ·go_wp2
     go_roundw
     case rel => exact ⟨k + 1, x, HK.out.1, by go_num, by first | rfl | (congr 1; omega), ⟨hx.out.1, by rw [← HQ.out, if_neg ho, if_neg hm]⟩, HB.out _⟩
     case measure => simp [RowKit.intOf]; have := HK.out; omega
  ·have hke : k = l.length := by omega
   have HB : Hid (Below w.heap.size w wr) := hbel
   clear hlt hk hbel
   subst hke
   go_wp2
   go_ret
   exact ⟨⟨x, rfl, hx.out.1, by rw [hx.out.2, List.take_length]⟩, HB.out⟩
end Go.Proofs.YtejfemdkommfhaaGreatDoor
