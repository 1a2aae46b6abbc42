/-
  What is proved: a map in memory, and a disk, do not hang on the order in which their names are told.
  Conditions: as each theorem says.
-/
import Derived.Test.YtcdpcjafomfddaaDoorKDisk
namespace Go.Proofs.YtcdpcjafomfddaaDoor
open Go.RowKit Go.Maps

theorem lk_perm {L M : List (Tx × Value)} (hn : (L.map (·.1)).Nodup) (hp : L.Perm M) (r : Tx) : lk M r = lk L r := by
  have hm : (M.map (·.1)).Nodup := (hp.map _).nodup_iff.1 hn
  cases h : lk L r with
  | some v => exact lk_of_mem hm (hp.mem_iff.1 (lk_mem h))
  | none =>
    rw [lk_none] at h ⊢
    exact fun e => h ((hp.map _).mem_iff.2 e)

theorem MapS.perm {w : World} {b : Nat} {L M : List (Tx × Value)} (h : MapS w b L) (hp : L.Perm M) : MapS w b M := by
  obtain ⟨D, h1, h2, h3, h4⟩ := h.own
  refine ⟨⟨D, by rw [← hp.length_eq]; exact h1, fun r hr => by rw [h2 r hr, lk_perm h.nd hp], fun r v hr hv z => h3 r v hr (by rw [← lk_perm h.nd hp]; exact hv) z, by rw [h4, hp.length_eq]⟩, (hp.map _).nodup_iff.1 h.nd, fun q hq => h.t64 q (hp.mem_iff.2 hq)⟩

theorem Dk.perm {S : Nat → Prop} {w : World} {p fb sb : Nat} {F Z F' Z' : List (Tx × Nat)} {n st : Int} {G : List Fi} (h : Dk S w p fb sb F Z n st G) (hF : F.Perm F') (hZ : Z.Perm Z') : Dk S w p fb sb F' Z' n st G :=
  ⟨h.box, h.mf.perm (hF.map _), h.ms.perm (hZ.map _), h.ne, h.fi, fun q hq => h.inF q (hF.mem_iff.2 hq), fun q hq => h.inZ q (hZ.mem_iff.2 hq), h.ap, h.sp, h.sfb, h.ssb⟩
end Go.Proofs.YtcdpcjafomfddaaDoor
