/-
  What is proved: what package tree's method lift makes of a piece, on either side.
  Conditions: the piece lies in memory, and is no longer than a row may be.
-/
import Derived.Test.YtebglecjajghjaaDoorTAdd
namespace Go.Proofs.YtebglecjajghjaaDoor
open Go.RowKit

theorem _root_.Go.Deep.BT.At.kp_drew {w : World} {t : (Deep.BT Int)} (h : t.At w) : t.At w.drew := h.kp (S := []) (Kp.refl _ w).drew (fun _ _ => by simp)

set_option maxRecDepth 100000 in
set_option maxHeartbeats 8000000 in
theorem lift0_any (b x : Nat) (u : Int) (c y : Nat) (v : Int) (ll lr r : (Deep.BT Int)) (g : Nat) (p : Value) (k : Nat) (m s h m2 s2 h2 : Int) (w : World) (hk : k ≤ 4611686018427386000) (hfit : (Deep.BT.node b x u (.node c y v ll lr) r).fit) (hb : w.heap[b]? = some (.cells (ncells (th x) u (.pointer (some ⟨c, 0, none⟩)) r.pt m s h) 52)) (hc : w.heap[c]? = some (.cells (ncells (th y) v ll.pt lr.pt m2 s2 h2) 52)) (h1 : r.At w) (h2' : lr.At w) (h3 : ll.At w) (hd : (g :: (Deep.BT.node b x u (.node c y v ll lr) r).blocks).Nodup) (hR : RowAt g p k w) :
    Calls Tryd.prog 39 #[.pointer (some ⟨g, 0, none⟩), .pointer (some ⟨b, 0, none⟩), .int .i64 0] w fun e w' => e = .returned (lift0 b x u (.node c y v ll lr) r).pt ∧ (lift0 b x u (.node c y v ll lr) r).At w' ∧ (∃ k', k' ≤ k + 6 ∧ RowAt g p k' w') ∧ Kp [g, b, c] w w' := by
  simp only [Deep.BT.blocks, List.cons_append, List.nodup_cons, List.mem_cons, List.mem_append, List.nodup_append, not_or] at hd
  have hbc : b ≠ c := by grind
  have hgb : g ≠ b := by grind
  have hgc : g ≠ c := by grind
  have nb : b ∉ r.blocks ∧ b ∉ lr.blocks ∧ b ∉ ll.blocks := by grind
  have nc : c ∉ r.blocks ∧ c ∉ lr.blocks ∧ c ∉ ll.blocks := by grind
  have ng : g ∉ r.blocks ∧ g ∉ lr.blocks ∧ g ∉ ll.blocks := by grind
  have f1 : (Deep.BT.node b x u lr r).fit := fit_of hfit (by simp only [Deep.BT.many]; omega) (fun q hq => by simp only [Deep.BT.items, List.mem_append, List.mem_cons] at hq ⊢; grind)
  have f2 : (Deep.BT.node c y v ll (.node b x u lr r)).fit := fit_of hfit (by simp only [Deep.BT.many]; omega) (fun q hq => by simp only [Deep.BT.items, List.mem_append, List.mem_cons] at hq ⊢; grind)
  clear hd
  have hbz := lt_of_heap hb
  have hcz := lt_of_heap hc
  have q0 : w.cell? ⟨b, 2, none⟩ = some (.pointer (some ⟨c, 0, none⟩)) := Lib.cell_of_heap hb 2
  have q1 : w.cell? ⟨c, 3, none⟩ = some lr.pt := Lib.cell_of_heap hc 3
  have qf := Lib.frozen_of_heap hb
  have qg := Lib.frozen_of_heap hc
  have B1 : ((w.setCell ⟨b, 2, none⟩ lr.pt).setCell ⟨c, 3, none⟩ (.pointer (some ⟨b, 0, none⟩))).heap[b]? = some (.cells (ncells (th x) u lr.pt r.pt m s h) 52) := heap_set_other (set_at hb 2 _) hbc
  have C1 : ((w.setCell ⟨b, 2, none⟩ lr.pt).setCell ⟨c, 3, none⟩ (.pointer (some ⟨b, 0, none⟩))).heap[c]? = some (.cells (ncells (th y) v ll.pt (.pointer (some ⟨b, 0, none⟩)) m2 s2 h2) 52) := set_at (heap_set_other hc (Ne.symm hbc)) 3 _
  have K1 : Kp [b, c] w ((w.setCell ⟨b, 2, none⟩ lr.pt).setCell ⟨c, 3, none⟩ (.pointer (some ⟨b, 0, none⟩))) := ((Kp.refl _ w).set (by simp) _ _).set (by simp) _ _
  have hx : (w.setCell ⟨b, 2, none⟩ lr.pt).cell? ⟨c, 3, none⟩ = some lr.pt := Lib.cell_of_heap (heap_set_other hc (Ne.symm hbc)) 3
  have hxf : ∀ j, (w.setCell ⟨b, 2, none⟩ lr.pt).frozen? ⟨c, j, none⟩ = false := Lib.frozen_of_heap (heap_set_other hc (Ne.symm hbc))
  have HS : Hid (∀ t : (Deep.BT Int), b ∉ t.blocks → c ∉ t.blocks → ∀ z ∈ t.blocks, z ∉ [b, c]) := fun t hb hc z hz e => by
    simp only [List.mem_cons, List.not_mem_nil, or_false] at e
    rcases e with rfl | rfl
    · exact hb hz
    · exact hc hz
  have A1 := h1.kp K1 (HS.out _ nb.1 nc.1)
  have A2 := h2'.kp K1 (HS.out _ nb.2.1 nc.2.1)
  have A3 := h3.kp K1 (HS.out _ nb.2.2 nc.2.2)
  have R1 := K1.heap hR (by simp; exact ⟨hgb, hgc⟩)
  have HB : Hid _ := B1
  have HC : Hid _ := C1
  have HK : Hid _ := K1
  clear hb hc h1 h2' h3 B1 C1 K1
  go_enter Tryd.func39, Tryd.ntmps39
  go_wp2
  go_region
  generalize hW : (w.setCell ⟨b, 2, none⟩ lr.pt).setCell ⟨c, 3, none⟩ (.pointer (some ⟨b, 0, none⟩)) = W at *
  clear hW q0 q1 qf qg hx hxf
  go_wp2_with fail
  go_fit (add_any b x u lr r g p k m s h W.drew (by omega) f1 HB.out A2.kp_drew A1.kp_drew nb.2.1 nb.1 ng.2.1 ng.1 (Ne.symm hgb) R1)
  rintro e w2 ⟨rfl, T2, ⟨k2, hk2, R2⟩, K2⟩
  have nk : ∀ z ∈ ll.blocks, z ∉ [g, b] := fun z hz e => by
    simp only [List.mem_cons, List.not_mem_nil, or_false] at e
    rcases e with rfl | rfl
    · exact ng.2.2 hz
    · exact nb.2.2 hz
  have C2 := K2.heap (heap_drew HC.out) (by simp; exact ⟨Ne.symm hgc, Ne.symm hbc⟩)
  have A4 := A3.kp_drew.kp K2 nk
  have nn : c ∉ (Deep.BT.node b x u lr r).blocks ∧ g ∉ (Deep.BT.node b x u lr r).blocks := by
    simp only [Deep.BT.blocks, List.mem_cons, List.mem_append, not_or]
    exact ⟨⟨Ne.symm hbc, nc.2.1, nc.1⟩, ⟨hgb, ng.2.1, ng.1⟩⟩
  have E2 := add_any c y v ll (.node b x u lr r) g p k2 m2 s2 h2 w2 (by omega) f2 C2 A4 T2 nc.2.2 nn.1 ng.2.2 nn.2 (Ne.symm hgc) R2
  have KA : Kp [g, b, c] w w2 := ((HK.out.drew).mono (by simp)).trans (K2.mono (by simp))
  clear A1 A2 A3 A4 C2 T2 K2 R1 R2
  go_wp2_with fail
  go_fit E2
  rintro e w3 ⟨rfl, T3, ⟨k3, hk3, R3⟩, K3⟩
  have KB : Kp [g, b, c] w w3 := KA.trans (K3.mono (by simp))
  go_wp2
  go_ret
  exact ⟨rfl, T3, ⟨k3, by omega, R3⟩, KB⟩

set_option maxRecDepth 100000 in
set_option maxHeartbeats 8000000 in
theorem lift1_any (b x : Nat) (u : Int) (c y : Nat) (v : Int) (l rl rr : (Deep.BT Int)) (g : Nat) (p : Value) (k : Nat) (m s h m2 s2 h2 : Int) (w : World) (hk : k ≤ 4611686018427386000) (hfit : (Deep.BT.node b x u l (.node c y v rl rr)).fit) (hb : w.heap[b]? = some (.cells (ncells (th x) u l.pt (.pointer (some ⟨c, 0, none⟩)) m s h) 52)) (hc : w.heap[c]? = some (.cells (ncells (th y) v rl.pt rr.pt m2 s2 h2) 52)) (h1 : l.At w) (h2' : rl.At w) (h3 : rr.At w) (hd : (g :: (Deep.BT.node b x u l (.node c y v rl rr)).blocks).Nodup) (hR : RowAt g p k w) :
    Calls Tryd.prog 39 #[.pointer (some ⟨g, 0, none⟩), .pointer (some ⟨b, 0, none⟩), .int .i64 1] w fun e w' => e = .returned (lift1 b x u l (.node c y v rl rr)).pt ∧ (lift1 b x u l (.node c y v rl rr)).At w' ∧ (∃ k', k' ≤ k + 6 ∧ RowAt g p k' w') ∧ Kp [g, b, c] w w' := by
  simp only [Deep.BT.blocks, List.nodup_cons, List.mem_cons, List.mem_append, List.nodup_append, not_or] at hd
  have hbc : b ≠ c := by grind
  have hgb : g ≠ b := by grind
  have hgc : g ≠ c := by grind
  have nb : b ∉ l.blocks ∧ b ∉ rl.blocks ∧ b ∉ rr.blocks := by grind
  have nc : c ∉ l.blocks ∧ c ∉ rl.blocks ∧ c ∉ rr.blocks := by grind
  have ng : g ∉ l.blocks ∧ g ∉ rl.blocks ∧ g ∉ rr.blocks := by grind
  have f1 : (Deep.BT.node b x u l rl).fit := fit_of hfit (by simp only [Deep.BT.many]; omega) (fun q hq => by simp only [Deep.BT.items, List.mem_append, List.mem_cons] at hq ⊢; grind)
  have f2 : (Deep.BT.node c y v (.node b x u l rl) rr).fit := fit_of hfit (by simp only [Deep.BT.many]; omega) (fun q hq => by simp only [Deep.BT.items, List.mem_append, List.mem_cons] at hq ⊢; grind)
  clear hd
  have hbz := lt_of_heap hb
  have hcz := lt_of_heap hc
  have q0 : w.cell? ⟨b, 3, none⟩ = some (.pointer (some ⟨c, 0, none⟩)) := Lib.cell_of_heap hb 3
  have q1 : w.cell? ⟨c, 2, none⟩ = some rl.pt := Lib.cell_of_heap hc 2
  have qf := Lib.frozen_of_heap hb
  have qg := Lib.frozen_of_heap hc
  have B1 : ((w.setCell ⟨b, 3, none⟩ rl.pt).setCell ⟨c, 2, none⟩ (.pointer (some ⟨b, 0, none⟩))).heap[b]? = some (.cells (ncells (th x) u l.pt rl.pt m s h) 52) := heap_set_other (set_at hb 3 _) hbc
  have C1 : ((w.setCell ⟨b, 3, none⟩ rl.pt).setCell ⟨c, 2, none⟩ (.pointer (some ⟨b, 0, none⟩))).heap[c]? = some (.cells (ncells (th y) v (.pointer (some ⟨b, 0, none⟩)) rr.pt m2 s2 h2) 52) := set_at (heap_set_other hc (Ne.symm hbc)) 2 _
  have K1 : Kp [b, c] w ((w.setCell ⟨b, 3, none⟩ rl.pt).setCell ⟨c, 2, none⟩ (.pointer (some ⟨b, 0, none⟩))) := ((Kp.refl _ w).set (by simp) _ _).set (by simp) _ _
  have hx : (w.setCell ⟨b, 3, none⟩ rl.pt).cell? ⟨c, 2, none⟩ = some rl.pt := Lib.cell_of_heap (heap_set_other hc (Ne.symm hbc)) 2
  have hxf : ∀ j, (w.setCell ⟨b, 3, none⟩ rl.pt).frozen? ⟨c, j, none⟩ = false := Lib.frozen_of_heap (heap_set_other hc (Ne.symm hbc))
  have HS : Hid (∀ t : (Deep.BT Int), b ∉ t.blocks → c ∉ t.blocks → ∀ z ∈ t.blocks, z ∉ [b, c]) := fun t hb hc z hz e => by
    simp only [List.mem_cons, List.not_mem_nil, or_false] at e
    rcases e with rfl | rfl
    · exact hb hz
    · exact hc hz
  have A1 := h1.kp K1 (HS.out _ nb.1 nc.1)
  have A2 := h2'.kp K1 (HS.out _ nb.2.1 nc.2.1)
  have A3 := h3.kp K1 (HS.out _ nb.2.2 nc.2.2)
  have R1 := K1.heap hR (by simp; exact ⟨hgb, hgc⟩)
  have HB : Hid _ := B1
  have HC : Hid _ := C1
  have HK : Hid _ := K1
  clear hb hc h1 h2' h3 B1 C1 K1
  go_enter Tryd.func39, Tryd.ntmps39
  go_wp2
  go_region
  generalize hW : (w.setCell ⟨b, 3, none⟩ rl.pt).setCell ⟨c, 2, none⟩ (.pointer (some ⟨b, 0, none⟩)) = W at *
  clear hW q0 q1 qf qg hx hxf
  go_wp2_with fail
  go_fit (add_any b x u l rl g p k m s h W.drew (by omega) f1 HB.out A1.kp_drew A2.kp_drew nb.1 nb.2.1 ng.1 ng.2.1 (Ne.symm hgb) R1)
  rintro e w2 ⟨rfl, T2, ⟨k2, hk2, R2⟩, K2⟩
  have nk : ∀ z ∈ rr.blocks, z ∉ [g, b] := fun z hz e => by
    simp only [List.mem_cons, List.not_mem_nil, or_false] at e
    rcases e with rfl | rfl
    · exact ng.2.2 hz
    · exact nb.2.2 hz
  have C2 := K2.heap (heap_drew HC.out) (by simp; exact ⟨Ne.symm hgc, Ne.symm hbc⟩)
  have A4 := A3.kp_drew.kp K2 nk
  have nn : c ∉ (Deep.BT.node b x u l rl).blocks ∧ g ∉ (Deep.BT.node b x u l rl).blocks := by
    simp only [Deep.BT.blocks, List.mem_cons, List.mem_append, not_or]
    exact ⟨⟨Ne.symm hbc, nc.1, nc.2.1⟩, ⟨hgb, ng.1, ng.2.1⟩⟩
  have E2 := add_any c y v (.node b x u l rl) rr g p k2 m2 s2 h2 w2 (by omega) f2 C2 T2 A4 nn.1 nc.2.2 nn.2 ng.2.2 (Ne.symm hgc) R2
  have KA : Kp [g, b, c] w w2 := ((HK.out.drew).mono (by simp)).trans (K2.mono (by simp))
  clear A1 A2 A3 A4 C2 T2 K2 R1 R2
  go_wp2_with fail
  go_fit E2
  rintro e w3 ⟨rfl, T3, ⟨k3, hk3, R3⟩, K3⟩
  have KB : Kp [g, b, c] w w3 := KA.trans (K3.mono (by simp))
  go_wp2
  go_ret
  exact ⟨rfl, T3, ⟨k3, by omega, R3⟩, KB⟩

end Go.Proofs.YtebglecjajghjaaDoor
