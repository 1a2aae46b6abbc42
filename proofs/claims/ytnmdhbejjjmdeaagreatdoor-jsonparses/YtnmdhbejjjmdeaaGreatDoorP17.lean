/-
  What is proved: the function set of package json, called with the place of a tree whose rows lie in blocks apart, a step and a value, sets the value in the place of a kid, or at a new key, or says that there is no such place. what is left at a place when its row of kids has been turned, and maybe its row of keys ahead of that. the function remove of package json, called with the place of a tree whose rows lie in blocks apart and a step, takes the kid to which it leads out, with its key, or says that there is none. the function insert of package json, called with the place of a tree whose rows lie in blocks apart, a step and a value, puts the value between its kids, or says that there is no such place.
  Conditions: as each theorem says.
-/
import Derived.Test.YtnmdhbejjjmdeaaGreatDoorP16
namespace Go.Proofs.YtnmdhbejjjmdeaaGreatDoor
open Go.RowKit Go.Sort

theorem keep6o {W W' : World} {g : Nat} {p0 p1 p2 p3 p4 p5 : Addr} {v0 v1 v2 v3 v4 v5 : Value} (h : W.cell? p0 = some v0 ∧ W.cell? p1 = some v1 ∧ W.cell? p2 = some v2 ∧ W.cell? p3 = some v3 ∧ W.cell? p4 = some v4 ∧ W.cell? p5 = some v5) (hb : ∀ b, b ≠ g → W'.heap[b]? = W.heap[b]?) (hne : p0.block ≠ g ∧ p1.block ≠ g ∧ p2.block ≠ g ∧ p3.block ≠ g ∧ p4.block ≠ g ∧ p5.block ≠ g) : W'.cell? p0 = some v0 ∧ W'.cell? p1 = some v1 ∧ W'.cell? p2 = some v2 ∧ W'.cell? p3 = some v3 ∧ W'.cell? p4 = some v4 ∧ W'.cell? p5 = some v5 := by
  obtain ⟨h0, h1, h2, h3, h4, h5⟩ := h
  obtain ⟨q0, q1, q2, q3, q4, q5⟩ := hne
  have hc : ∀ p : Addr, p.block ≠ g → W'.cell? p = W.cell? p := fun p hp => by unfold World.cell?; rw [hb _ hp]
  exact ⟨(hc _ q0).trans h0, (hc _ q1).trans h1, (hc _ q2).trans h2, (hc _ q3).trans h3, (hc _ q4).trans h4, (hc _ q5).trans h5⟩
end Go.Proofs.YtnmdhbejjjmdeaaGreatDoor

namespace Go.Proofs.YtnmdhbejjjmdeaaGreatDoor
open Go.RowKit Go.Sort

/-- A place whose keys may have been turned, and its kids not yet. -/
structure Mid (w : World) (b o lo : Nat) (uk ua : Value) (us : List TV) (W : World) (vk : Value) (ks' : List ByteArray) : Prop where
  os : W.os = w.os
  tape : W.tape = w.tape
  output : W.output = w.output
  size : w.heap.size ≤ W.heap.size
  block : ∀ k, k < w.heap.size → k ∉ blk uk → k ≠ b → W.heap[k]? = w.heap[k]?
  cell : ∀ c, c ≠ o + 5 → W.cell? ⟨b, c, none⟩ = w.cell? ⟨b, c, none⟩
  cell5 : W.cell? ⟨b, o + 5, none⟩ = some vk
  shape : ∀ ty cur, w.heap[b]? = some (.cells cur ty) → ∃ cur', W.heap[b]? = some (.cells cur' ty) ∧ cur'.size = cur.size
  fz : ∀ d, W.frozen? ⟨b, d, none⟩ = false
  keys : W.ownsRow lo 9 1 vk ks'.length (scells ks')
  kids : W.ownsRow lo 29 7 ua us.length (tcs us)
  made : ∀ x ∈ blk vk, x ∈ blk uk ∨ w.heap.size ≤ x
theorem frozen_block {w w' : World} {b : Nat} (h : w'.heap[b]? = w.heap[b]?) (hf : ∀ d, w.frozen? ⟨b, d, none⟩ = false) : ∀ d, w'.frozen? ⟨b, d, none⟩ = false := by
  intro d
  have := hf d
  unfold World.frozen? at this ⊢
  rw [h]
  exact this
theorem Mid.start {w : World} {b o lo : Nat} {x : V} {uk ua : Value} {us : List TV} {ks : List ByteArray} (hA : TAt w b o (x, uk, ua)) (hK : KeysS w lo uk ks) (hU : KidsS w lo ua us) (hfz : ∀ d, w.frozen? ⟨b, d, none⟩ = false) : Mid w b o lo uk ua us w uk ks :=
  ⟨rfl, rfl, rfl, Nat.le_refl _, fun _ _ _ _ => rfl, fun _ _ => rfl, hA.2.2.2.2.2.2.1, fun _ cur h => ⟨cur, h, rfl⟩, hfz, hK.own, hU.own, fun _ h => Or.inl h⟩
theorem Mid.below {w : World} {b o lo : Nat} {uk ua : Value} {us : List TV} {W W' : World} {vk : Value} {ks' : List ByteArray} (h : Mid w b o lo uk ua us W vk ks') (hb : Below W.heap.size W W') (hbw : b < w.heap.size) : Mid w b o lo uk ua us W' vk ks' := by
  have hz := h.size
  have hbb := hb.block b (by omega)
  exact ⟨hb.os.trans h.os, hb.tape.trans h.tape, hb.output.trans h.output, Nat.le_trans hz hb.size, fun k k1 k2 k3 => (hb.block k (by omega)).trans (h.block k k1 k2 k3), fun c hc => (World.cell?_of_block hbb).trans (h.cell c hc), (World.cell?_of_block hbb).trans h.cell5, fun ty cur hc => by
    obtain ⟨cur', e1, e2⟩ := h.shape ty cur hc
    exact ⟨cur', hbb.trans e1, e2⟩, frozen_block hbb h.fz, own_below h.keys hb (Nat.le_refl _), own_below h.kids hb (Nat.le_refl _), h.made⟩
/-- The keys were turned, and are stored. -/
theorem Mid.store {w : World} {b o lo : Nat} {x : V} {uk ua vk : Value} {us : List TV} {ks ks' : List ByteArray} {W W2 : World} (hA : TAt w b o (x, uk, ua)) (hm : Mid w b o lo uk ua us W uk ks) (hgr : W.grownBy W2 uk.ownBlock) (hv : W2.ownsRow lo 9 1 vk ks'.length (scells ks')) (hvb : vk.ownBlock = uk.ownBlock ∨ vk.ownBlock = some W.heap.size) (hbk : b ∉ blk uk) (hba : b ∉ blk ua) : Mid w b o lo uk ua us (W2.setCell ⟨b, o + 5, none⟩ vk) vk ks' := by
  have hbw : b < w.heap.size := hA.1
  have hz := hm.size
  have hz2 := hgr.size
  have hb2 : W2.heap[b]? = W.heap[b]? := hgr.block b (by omega) (fun e => hbk (blk_mem.2 e.symm))
  have hmade : ∀ x ∈ blk vk, x ∈ blk uk ∨ w.heap.size ≤ x := by
    intro x hx
    rcases hvb with e | e
    · exact Or.inl (by unfold blk at hx ⊢; rw [← e]; exact hx)
    · rw [blk_mem, e] at hx
      have := Option.some.inj hx
      exact Or.inr (by omega)
  have hbv : b ∉ blk vk := fun h => by
    rcases hmade b h with h | h
    · exact hbk h
    · omega
  have hkk : ∀ c, W2.cell? ⟨b, c, none⟩ = W.cell? ⟨b, c, none⟩ := fun c => World.cell?_of_block hb2
  refine ⟨hgr.os.trans hm.os, hgr.tape.trans hm.tape, hgr.output.trans hm.output, by simp; omega, fun k k1 k2 k3 => ?_, fun c hc => ?_, ?_, fun ty cur hc => ?_, fun d => ?_, own_set_ne hv hbv, own_set_ne (own_grown' hm.kids hgr hm.keys (by decide)) hba, hmade⟩
  · rw [Below.heap_setCell _ _ _ _ (by simpa using k3)]
    exact (hgr.block k (by omega) (fun e => k2 (blk_mem.2 e.symm))).trans (hm.block k k1 k2 k3)
  · rw [World.cell?_setCell_other _ _ _ _ (fun e => hc (by injection e with _ e2 _; exact e2.symm)), hkk]
    exact hm.cell c hc
  · exact World.cell?_setCell_same _ _ _ ((hkk _).trans hm.cell5)
  · obtain ⟨cur1, f1, f2⟩ := hm.shape ty cur hc
    obtain ⟨cur2, f3, f4⟩ := set_shape (i := o + 5) (v := vk) (hb2.trans f1)
    exact ⟨cur2, f3, f4.trans f2⟩
  · rw [World.frozen?_setCell]
    exact frozen_block hb2 hm.fz d
/-- The kids were turned, and are stored. -/
theorem mid_end {k : Int} {w W W2 : World} {b o lo : Nat} {St S1 : List Nat} {t : JT} {s : Stp} {y : V} {uk ua vk vt : Value} {us us' : List TV} {ks' : List ByteArray} {ts' : List JT} (hA : TAt w b o (t.x, uk, ua)) (hSt : St = blk uk ++ (blk ua ++ S1)) (hG : IsGS w lo t.kids us S1) (hnd : St.Nodup) (hb : b ∉ St) (hlow : ∀ x ∈ St, x < w.heap.size)
    (hm : Mid w b o lo uk ua us W vk ks') (hk1 : ks'.length ≤ 1000) (hgr : W.grownBy W2 ua.ownBlock) (hv : W2.ownsRow lo 29 7 vt us'.length (tcs us')) (hu1 : us'.length ≤ 1000) (hvb : vt.ownBlock = ua.ownBlock ∨ vt.ownBlock = some W.heap.size)
    (hnew : ∀ w', IsGS w' lo t.kids us S1 → ∃ S1', IsGS w' lo (ofL ts') us' S1' ∧ S1'.Sublist S1) (hR : OneR k t s y (.node t.x ks' ts')) : PlaceP k w b o lo St t s y (.returned (.bool true)) (W2.setCell ⟨b, o + 6, none⟩ vt) := by
  have hbw : b < w.heap.size := hA.1
  have hz := hm.size
  have hz2 := hgr.size
  have hbk : b ∉ blk uk := fun h => hb (by rw [hSt]; simp [h])
  have hba : b ∉ blk ua := fun h => hb (by rw [hSt]; simp [h])
  have hb2 : W2.heap[b]? = W.heap[b]? := hgr.block b (by omega) (fun e => hba (blk_mem.2 e.symm))
  have hmade : ∀ x ∈ blk vt, x ∈ blk ua ∨ w.heap.size ≤ x := by
    intro x hx
    rcases hvb with e | e
    · exact Or.inl (by unfold blk at hx ⊢; rw [← e]; exact hx)
    · rw [blk_mem, e] at hx
      have := Option.some.inj hx
      exact Or.inr (by omega)
  have hbv : b ∉ blk vt := fun h => by
    rcases hmade b h with h | h
    · exact hba h
    · omega
  have hbvk : b ∉ blk vk := fun h => by
    rcases hm.made b h with h | h
    · exact hbk h
    · omega
  have hkk : ∀ c, W2.cell? ⟨b, c, none⟩ = W.cell? ⟨b, c, none⟩ := fun c => World.cell?_of_block hb2
  have blE : ∀ k, k < w.heap.size → k ∉ blk uk → k ∉ blk ua → k ≠ b → (W2.setCell ⟨b, o + 6, none⟩ vt).heap[k]? = w.heap[k]? := fun k k1 k2 k4 k3 => by
    rw [Below.heap_setCell _ _ _ _ (by simpa using k3)]
    exact (hgr.block k (by omega) (fun e => k4 (blk_mem.2 e.symm))).trans (hm.block k k1 k2 k3)
  have ceE : ∀ c, c ≠ o + 6 → (W2.setCell ⟨b, o + 6, none⟩ vt).cell? ⟨b, c, none⟩ = W.cell? ⟨b, c, none⟩ := fun c hc => by
    rw [World.cell?_setCell_other _ _ _ _ (fun e => hc (by injection e with _ e2 _; exact e2.symm))]
    exact hkk c
  have hk13 : (W2.setCell ⟨b, o + 6, none⟩ vt).ownsRow lo 9 1 vk ks'.length (scells ks') := own_set_ne (own_grown' hm.keys hgr hm.kids (by decide)) hbvk
  have ht13 : (W2.setCell ⟨b, o + 6, none⟩ vt).ownsRow lo 29 7 vt us'.length (tcs us') := own_set_ne hv hbv
  have hndS := hnd
  rw [hSt] at hndS
  have hd1 := List.nodup_append.1 hndS
  have hd2 := List.nodup_append.1 hd1.2.1
  have hg13 : IsGS (W2.setCell ⟨b, o + 6, none⟩ vt) lo t.kids us S1 := hG.keep (fun k hk => blE k (hlow k (by rw [hSt]; simp [hk])) (fun h => hd1.2.2 k h k (List.mem_append_right _ hk) rfl) (fun h => hd2.2.2 k h k hk rfl) (fun e => hb (by rw [hSt, ← e]; simp [hk])))
  obtain ⟨S1', g1, g2⟩ := hnew _ hg13
  have hpb := place_blocks (n := w.heap.size) (S1' := S1') hndS (fun x hx => g2.subset hx) (g2.nodup hd2.2.1) (fun x hx => hlow x (by rw [hSt]; exact hx)) hm.made hmade (blk_apart hk13 ht13)
  refine Or.inl ⟨_, (t.x, vk, vt), _, hR, rfl, ⟨hgr.os.trans hm.os, hgr.tape.trans hm.tape, hgr.output.trans hm.output, by simp; omega, fun k k1 k2 k3 => blE k k1 (fun h => k2 (by rw [hSt]; simp [h])) (fun h => k2 (by rw [hSt]; simp [h])) k3, fun c hc => (ceE c (by omega)).trans (hm.cell c (by omega)), fun ty cur hc => ?_⟩, ?_, ⟨vk, vt, us', S1', rfl, rfl, ⟨hk13, hk1⟩, ⟨ht13, hu1⟩, g1⟩, hpb.1, fun x hx => by rw [hSt]; exact hpb.2 x hx⟩
  · obtain ⟨cur1, f1, f2⟩ := hm.shape ty cur hc
    obtain ⟨cur2, f3, f4⟩ := set_shape (i := o + 6) (v := vt) (hb2.trans f1)
    exact ⟨cur2, f3, f4.trans f2⟩
  · obtain ⟨a0, a1, a2, a3, a4, a5, a6, a7⟩ := hA
    refine ⟨by simp; omega, ?_, ?_, ?_, ?_, ?_, ?_, ?_⟩
    · exact (ceE _ (by omega)).trans ((hm.cell _ (by omega)).trans a1)
    · exact (ceE _ (by omega)).trans ((hm.cell _ (by omega)).trans a2)
    · exact (ceE _ (by omega)).trans ((hm.cell _ (by omega)).trans a3)
    · exact (ceE _ (by omega)).trans ((hm.cell _ (by omega)).trans a4)
    · exact (ceE _ (by omega)).trans ((hm.cell _ (by omega)).trans a5)
    · exact (ceE _ (by omega)).trans hm.cell5
    · exact World.cell?_setCell_same _ _ _ ((hkk _).trans ((hm.cell _ (by omega)).trans a7))
end Go.Proofs.YtnmdhbejjjmdeaaGreatDoor

namespace Go.Proofs.YtnmdhbejjjmdeaaGreatDoor
open Go.RowKit Go.Sort

end Go.Proofs.YtnmdhbejjjmdeaaGreatDoor

namespace Go.Proofs.YtnmdhbejjjmdeaaGreatDoor
open Go.RowKit Go.Sort

end Go.Proofs.YtnmdhbejjjmdeaaGreatDoor
