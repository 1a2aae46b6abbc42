/-
  What is proved: what package slices' Clone makes of bytes, what a disk's Read answers, and what a file's left makes.
  Conditions: as each theorem says.
-/
import Derived.Test.YtcdpcjafomfddaaDoorKApp
namespace Go.Proofs.YtcdpcjafomfddaaDoor
open Go.RowKit Go.Maps

/-- A row of one's own, in one of its two forms. -/
theorem row_two {B : Nat} {v : Value} {l : Tx} {w : World} (h : Row B v l w) : v = .slice none 0 0 ∨ ∃ ad n c, v = .slice (some ad) n c := by
  rcases h.2 with ⟨rfl, _⟩ | ⟨g, cap, cur, rfl, _⟩
  · exact Or.inl rfl
  · exact Or.inr ⟨_, _, _, rfl⟩

theorem row_base {B C : Nat} {v : Value} {l : Tx} {w : World} (h : Row C v l w) (hb : ∀ b, v.ownBlock = some b → B ≤ b) : Row B v l w := by
  refine ⟨h.1, ?_⟩
  rcases h.2 with h0 | ⟨g, cap, cur, h1, h2, h3⟩
  · exact Or.inl h0
  · exact Or.inr ⟨g, cap, cur, h1, hb g (by rw [h1]; rfl), h3⟩

def CloneP (w : World) (l : Tx) (e : Ending) (w' : World) : Prop := ∃ v, e = .returned v ∧ Row w.heap.size v l w' ∧ Below w.heap.size w w'

set_option maxRecDepth 100000 in
set_option maxHeartbeats 2000000 in
theorem clone_any (v : Value) (l : Tx) (w : World) (hv : ArgB w v l) (hl : l.length ≤ 60000) : Calls Tryd.prog 27 #[v] w fun e w' => CloneP w l e w' := by
  obtain ⟨hb, hf⟩ := hv
  have q22 : ∀ (w : World) (a : Option Addr) (n c n' c' : Nat), (binOp .eql 23 (.slice a n c) (.slice none n' c')).run Tryd.prog w = .ok (.bool a.isNone) w := fun w a n c n' c' => Lib.run_eql_slice_nil w _ _ a n c n' c' Tryd.underlying23
  rcases hf with rfl | ⟨ad, n, c, rfl⟩
  · have hl0 : l = [] := by
      obtain ⟨a', c', e, _⟩ := hb
      exact List.length_eq_zero_iff.1 (Value.slice.inj e).2.1.symm
    subst hl0
    go_enter Tryd.func27, Tryd.ntmps27
    go_wp2
    go_ret
    exact ⟨_, rfl, World.ownsRow_nil _ _ _ _, Below.refl _ _⟩
  · have ba : Below w.heap.size w (w.alloc (.cells #[] 5)) := (Below.refl _ _).alloc (Nat.le_refl _) _
    have r0 : Row 0 (.slice (some ⟨w.heap.size, 0, none⟩) 0 0) [] (w.alloc (.cells #[] 5)) := World.ownsRow_lit w #[] 0 (Nat.zero_le _) (by decide) rfl
    obtain ⟨v', w2, q1, q2, q3, q4⟩ := run_appB 23 (w.alloc (.cells #[] 5)) (.slice (some ⟨w.heap.size, 0, none⟩) 0 0) (.slice (some ad) n c) [] l r0 (hb.below ba) (Or.inr ⟨_, _, _, rfl⟩) (by simp; omega)
    have hbl : ∀ b, v'.ownBlock = some b → w.heap.size ≤ b := fun b e => by
      rcases q4 with h | h
      · rw [e] at h; obtain rfl := Option.some.inj h; exact Nat.le_refl _
      · rw [e] at h; obtain rfl := Option.some.inj h; exact ba.size
    have HE : Hid (CloneP w l (.returned v') w2) := ⟨v', rfl, row_base (by simpa using q2) hbl, ba.grown q3 ba.size (fun k e => by obtain rfl := Option.some.inj e; exact Nat.le_refl _)⟩
    clear q2 q3 q4 hbl r0 ba hb
    go_enter Tryd.func27, Tryd.ntmps27
    go_wp2_with (at_builtin; refine app_known rfl _ _ 23 rfl _ _ _ rfl rfl q1 ?_)
    go_ret
    exact HE.out

/-- What Read answers. -/
def rdE (F : List (Tx × Nat)) (s : Tx) : Int := if nameB s then (if (fk F s).isSome then 0 else 6) else 2

set_option maxRecDepth 100000 in
set_option maxHeartbeats 2000000 in
theorem read_no {S : Nat → Prop} {p fb sb : Nat} {F Z : List (Tx × Nat)} {n st : Int} {G : List Fi} (s : Tx) (w : World) (hd : Dk S w p fb sb F Z n st G) (hs : T64 s) (hE : rdE F s ≠ 0) :
    Calls Tryd.prog 11 #[ptrV p, txV s] w fun e w' => e = .returned (.tuple #[.slice none 0 0, errV (rdE F s)]) ∧ Below w.heap.size w w' := by
  have N := isName_any s
  have FF := find_any s w hd hs
  unfold rdE at hE ⊢
  unfold ptrV txV at *
  clear hd
  cases hn : nameB s with
  | false =>
    rw [hn] at N hE
    simp only [Bool.false_eq_true, if_false]
    clear FF hE
    go_enter Tryd.func11, Tryd.ntmps11
    go_wp2_with (go_at_call 25; refine (N _).mono ?_; rintro e w1 ⟨rfl, rfl⟩)
    go_returns
    exact ⟨rfl, Below.refl _ _⟩
  | true =>
    rw [hn] at N hE
    simp only [if_true] at hE ⊢
    cases hg : fk F s with
    | some g => rw [hg] at hE; simp at hE
    | none =>
      rw [hg] at FF
      simp only [Option.isSome_none, Bool.false_eq_true, if_false, pN] at FF ⊢
      simp only [errV, show (6 : Int) ≠ 0 by decide, if_false] at FF ⊢
      clear hE hn hg
      go_enter Tryd.func11, Tryd.ntmps11
      go_wp2_with (first
        | (go_at_call 25; refine (N _).mono ?_; rintro e w1 ⟨rfl, rfl⟩)
        | (go_at_call 26; refine FF.mono ?_; rintro e w2 ⟨rfl, hb2⟩; have HB2 : Hid (Below _ _ w2) := hb2; clear hb2))
      go_returns
      exact ⟨rfl, HB2.out⟩

def ReadP (w : World) (l : Tx) (e : Ending) (w' : World) : Prop := ∃ v, e = .returned (.tuple #[v, .nilIface]) ∧ Row w.heap.size v l w' ∧ Below w.heap.size w w'

theorem FileAt.arg {S : Nat → Prop} {w : World} {x : Fi} (h : FileAt S w x) : ArgB w x.v x.bs := ⟨h.row.bytes (by have := h.max; omega), row_two h.row⟩

set_option maxRecDepth 100000 in
set_option maxHeartbeats 2000000 in
theorem read_yes {S : Nat → Prop} {p fb sb : Nat} {F Z : List (Tx × Nat)} {n st : Int} {G : List Fi} (s : Tx) (w : World) (hd : Dk S w p fb sb F Z n st G) (hs : T64 s) (hn : nameB s = true) (x : Fi) (hx : x ∈ G) (hg : fk F s = some x.g) :
    Calls Tryd.prog 11 #[ptrV p, txV s] w fun e w' => ReadP w x.bs e w' := by
  have N := isName_any s
  have FF := find_any s w hd hs
  rw [hn] at N
  rw [hg] at FF
  simp only [Option.isSome_some, if_true, pN, errV] at FF
  have HC : Hid (∀ w', Below w.heap.size w w' → w'.cell? ⟨x.g, 0, none⟩ = some x.v ∧ Calls Tryd.prog 27 #[x.v] w' fun e w'' => CloneP w' x.bs e w'') := fun w' hb => by
    have f1 := (hd.below hb).fi x hx
    exact ⟨Lib.cell_of_heap f1.box 0, clone_any x.v x.bs w' f1.arg f1.max⟩
  obtain ⟨post, hpost⟩ : ∃ post, post = fun e w' => ReadP w x.bs e w' := ⟨_, rfl⟩
  rw [← hpost]
  have HPO : Hid (post = _) := hpost
  unfold ptrV txV at *
  clear hd hn hg hx hpost
  go_enter Tryd.func11, Tryd.ntmps11
  go_wp2_with (first
    | (go_at_call 25; refine (N _).mono ?_; rintro e w1 ⟨rfl, rfl⟩)
    | (go_at_call 26; refine FF.mono ?_; rintro e w2 ⟨rfl, hb2⟩
       have HB2 : Hid (Below _ _ w2) := hb2
       obtain ⟨C2, L2⟩ := HC.out w2 hb2
       clear hb2)
    | (go_at_call 27; refine L2.mono ?_; rintro e w3 ⟨v, rfl, r3, b3⟩
       have HEND : Hid (post (.returned (.tuple #[v, .nilIface])) w3) := by
         rw [HPO.out]
         exact ⟨v, rfl, own_mono r3 HB2.out.size, HB2.out.trans (b3.mono HB2.out.size)⟩
       clear r3 b3))
  first | exact HEND.out | (go_returns; exact HEND.out)
end Go.Proofs.YtcdpcjafomfddaaDoor
