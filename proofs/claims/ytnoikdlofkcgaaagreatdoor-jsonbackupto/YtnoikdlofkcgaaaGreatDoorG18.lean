/-
  What is proved: a region that draws its order, gone through in the text's order, where a call of it may end by a panic, and where two operations may come up at once. json's reader tells all digits and signs that stand where it stands. what Itoa writes Atoi reads, whatever number of 64 bits it is; json's reader reads a number, or throws a fault. json's reader reads a number, or throws a fault.
  Conditions: as each theorem says.
-/
import Derived.Test.YtnoikdlofkcgaaaGreatDoorG16
import Derived.Test.YtnoikdlofkcgaaaGreatDoorG10
import Derived.Test.YtnoikdlofkcgaaaGreatDoorShelf2
import Derived.Test.YtnoikdlofkcgaaaGreatDoorJFitM
import Derived.Test.YtnoikdlofkcgaaaGreatDoorG07
import Derived.Lib.AtoiAll
import Derived.Test.YtnoikdlofkcgaaaGreatDoorJRdW
namespace Go.Proofs.YtnoikdlofkcgaaaGreatDoor
open Go

section
variable {P : Program} {ops : Array Oper} {Q : Exit → Act → World → Prop} {md : Region.Mode} {S : World → Prop} {late : Nat → Bool}

/-- What is asked of a panic is asked of its ending alone. -/
def PanQ (R : Ending → World → Prop) (Q : Exit → Act → World → Prop) : Exit → Act → World → Prop
  | .panic c, a, w => a.defers = [] ∧ R (.panicked c) w
  | e, a, w => Q e a w
theorem PanQ.normal {R : Ending → World → Prop} {a : Act} {w : World} (h : Q .normal a w) : PanQ R Q .normal a w := h
theorem wp_region_pan (R : Ending → World → Prop) {id : Nat} {b : Bool} {a : Act} {w : World} (hQ : ∀ c a w, a.defers = [] ∧ R (.panicked c) w → Q (.panic c) a w) (h : (Code.region id ops b).wp P (PanQ R Q) a w) : (Code.region id ops b).wp P Q a w :=
  Code.wp_mono (fun e a w h => by
    cases e with
    | panic c => exact hQ c a w h
    | _ => exact h) h
/-- Either of two may come up. -/
theorem early_two {i j : Nat} {o o' : Oper} {fuel : Nat} {listed : Array Bool} {a : Act} {w : World} (hr : Region.ready md ops listed = [i, j]) (ho : ops[i]? = some o) (ho' : ops[j]? = some o')
    (h : ∀ K' : Act → World → Prop, Shut (∀ a w, (late i = false → S w) → wpAnyE P md ops Q S late fuel (listed.setIfInBounds i true) a w → K' a w) → if Region.wanted o (yielded ops a.tmps) = true then Oper.wp P o a w K' Q else K' (a.put o.dst undef) w)
    (h' : ∀ K' : Act → World → Prop, Shut (∀ a w, (late j = false → S w) → wpAnyE P md ops Q S late fuel (listed.setIfInBounds j true) a w → K' a w) → if Region.wanted o' (yielded ops a.tmps) = true then Oper.wp P o' a w K' Q else K' (a.put o'.dst undef) w) : wpAnyE P md ops Q S late (fuel + 1) listed a w := by
  refine ⟨fun h0 => (by rw [hr] at h0; cases h0), fun k hk => ?_⟩
  rw [hr] at hk
  rcases List.mem_cons.1 hk with rfl | hk
  · exact wpOp_step ho (fun K' hK => h K' (fun a w hS hW => hK a w ⟨hS, hW⟩))
  · obtain rfl := List.mem_singleton.1 hk
    exact wpOp_step ho' (fun K' hK => h' K' (fun a w hS hW => hK a w ⟨hS, hW⟩))
/-- Where only late ones are left, nothing needs to hold any more. -/
theorem early_late : ∀ (fuel : Nat) (listed : Array Bool) (a : Act) (w : World), (∀ i, listed.getD i true = false → late i = true) → wpAnyH P md ops Q (fun _ => True) fuel listed a w → wpAnyE P md ops Q S late fuel listed a w
  | 0, _, _, _, _, h => h
  | fuel + 1, listed, a, w, hl, h => ⟨h.1, fun i hi => wpOp_mono (fun a' w' h' => ⟨fun e => (by
      have hu : listed.getD i true = false := (mem_ready.1 hi).1
      rw [hl i hu] at e
      cases e), early_late fuel _ a' w' (fun j hj => by
      by_cases hij : i = j
      · subst hij
        exact hl i (mem_ready.1 hi).1
      · rw [getD_set_ne true hij] at hj
        exact hl j hj) h'.2⟩) (h.2 i hi)⟩
end
end Go.Proofs.YtnoikdlofkcgaaaGreatDoor

namespace Go.Proofs.YtnoikdlofkcgaaaGreatDoor
open Go.RowKit

/-- Digits and the sign. -/
def digS : ByteArray := ⟨#[45, 48, 49, 50, 51, 52, 53, 54, 55, 56, 57]⟩
/-- All that stand there. -/
def dgs (l : List UInt8) : List UInt8 := l.takeWhile (digS.data.toList.contains ·)
theorem dgs_split (l : List UInt8) : dgs l ++ Lib.trimLeftS l digS.data.toList = l := List.takeWhile_append_dropWhile
theorem ex_take (s : ByteArray) (k hi : Nat) : (s.extract k hi).data.toList = (lft s k).take (hi - k) := by
  unfold lft
  rw [ByteArray.data_extract, Array.toList_extract, List.extract_eq_take_drop]
theorem ba_back (a : ByteArray) : (⟨a.data.toList.toArray⟩ : ByteArray) = a := by
  cases a
  rfl
set_option maxRecDepth 100000 in
set_option maxHeartbeats 2000000 in
theorem digitsR_any (p : Nat) (s : ByteArray) (k m : Nat) (w : World) (h : RB w p s k m) (hk : k ≤ s.size) (hs : s.size ≤ 60000) :
    Calls Tryz.prog 25 #[.pointer (some ⟨p, 0, none⟩)] w fun e w' => e = .returned (.string ⟨(dgs (lft s k)).toArray⟩) ∧ Below w.heap.size w w' := by
  have E1 := rest_any p s k m w h hk
  have E2 := fun W => Tryz.trimLeft (s.extract k s.size) digS W (by decide) (fun j b hj => by
    have hm : b ∈ digS.data.toList := List.mem_of_getElem? hj
    have hall : ∀ x ∈ digS.data.toList, x.toNat < 128 := by decide
    exact hall b hm)
  rw [lft_ex] at E2
  have HSP : Hid (dgs (lft s k) ++ Lib.trimLeftS (lft s k) digS.data.toList = lft s k) := dgs_split _
  obtain ⟨bl, hbl⟩ : ∃ bl, Lib.trimLeftS (lft s k) digS.data.toList = bl := ⟨_, rfl⟩
  rw [hbl] at E2 HSP
  clear hbl
  have hll : (lft s k).length = s.size - k := by
    unfold lft
    rw [List.length_drop, Array.length_toList]
    rfl
  have hsum : (dgs (lft s k)).length + bl.length = s.size - k := by
    have := congrArg List.length HSP.out
    rw [List.length_append] at this
    omega
  obtain ⟨hi, hhi⟩ : ∃ hi, hi = k + (dgs (lft s k)).length := ⟨_, rfl⟩
  have HRES : Hid (s.extract k hi = ⟨(dgs (lft s k)).toArray⟩) := by
    show _ = _
    rw [← ba_back (s.extract k hi), ex_take s k hi]
    have e1 : (lft s k).take (hi - k) = dgs (lft s k) := by
      have e2 : hi - k = (dgs (lft s k)).length := by omega
      have e3 := List.take_left' (l₁ := dgs (lft s k)) (l₂ := bl) rfl
      rw [HSP.out] at e3
      rw [e2]
      exact e3
    rw [e1]
  obtain ⟨bs, hbs⟩ : ∃ bs : ByteArray, bs = ⟨bl.toArray⟩ := ⟨_, rfl⟩
  have hbz : bs.size = bl.length := by rw [hbs]; simp [ByteArray.size]
  rw [← hbs] at E2
  have g0 : (s.size : Int) - (bs.size : Int) = (hi : Int) := by omega
  have g1 : (k : Int) ≤ hi := by omega
  have g2 : (hi : Int) ≤ s.size := by omega
  have hw : wrap64 ((s.size : Int) - (bs.size : Int)) = (hi : Int) := by rw [g0]; unfold wrap64; omega
  have hw' : IntKind.i64.wrap ((s.size : Int) - (bs.size : Int)) = (hi : Int) := by rw [g0, IntKind.wrap_i64]; omega
  have g4 : (0 : Int) ≤ (k : Int) := by omega
  have HR : Hid (RB w p s k m) := h
  rw [← HRES.out]
  generalize s.extract k s.size = sx at *
  have ed : (⟨#[45, 48, 49, 50, 51, 52, 53, 54, 55, 56, 57]⟩ : ByteArray) = digS := rfl
  unfold digS at E2
  clear h hk hs HSP hll hsum hhi hbs hbz HRES g0 ed
  go_enter Tryz.func25, Tryz.ntmps25
  go_wp2_with fail
  go_fit E1
  rintro e w1 ⟨rfl, b1⟩
  clear E1
  have E3 := E2 w1
  clear E2
  go_wp2_with fail
  go_fit E3
  rintro e w2 ⟨rfl, b2⟩
  clear E3
  have HB2 : Hid (Below w.heap.size w w2) := b1.trans (b2.mono b1.size)
  have c0 : w2.cell? ⟨p, 0, none⟩ = some (.string s) := Lib.cell_of_heap (HR.out.below HB2.out) 0
  have c1 : w2.cell? ⟨p, 1, none⟩ = some (.int .i64 (k : Int)) := Lib.cell_of_heap (HR.out.below HB2.out) 1
  clear b1 b2
  go_upto_region 2 with fail
  go_quiet (fail)
  go_wp2
  go_ret
  exact ⟨rfl, below_drewR HB2.out _⟩
end Go.Proofs.YtnoikdlofkcgaaaGreatDoor

namespace Go.Proofs.YtnoikdlofkcgaaaGreatDoor
open Go.RowKit Go.Sort

theorem pu_step (acc : Nat) (d : Nat) (r : List UInt8) (hd : d < 10) (h : acc * 10 + d < 18446744073709551616) : Lib.parseUint10 acc (UInt8.ofNat (48 + d) :: r) = Lib.parseUint10 (acc * 10 + d) r := by
  have e : (UInt8.ofNat (48 + d)).toNat = 48 + d := by
    rw [UInt8.toNat_ofNat']
    omega
  rw [Lib.parseUint10]
  simp only [e]
  rw [if_pos (by omega), if_neg (by omega), if_neg (by omega)]
  rw [show 48 + d - 48 = d by omega]
theorem pu_dec (u : Nat) (hu : u < 18446744073709551616) (r : List UInt8) : Lib.parseUint10 0 (Lib.decDigits u ++ r) = Lib.parseUint10 u r := by
  induction u using Nat.strongRecOn generalizing r with
  | _ u ih =>
    rw [Lib.decDigits]
    by_cases h : u < 10
    · rw [dif_pos h, List.singleton_append, pu_step 0 u r h (by omega), Nat.zero_mul, Nat.zero_add]
    · rw [dif_neg h, List.append_assoc, ih (u / 10) (by omega) (by omega), List.singleton_append, pu_step _ _ _ (by omega) (by omega)]
      rw [show u / 10 * 10 + u % 10 = u by omega]
theorem mag_dec (u : Nat) (hu : u < 18446744073709551616) : Lib.parseMag (Lib.decDigits u) = .ok u := by
  unfold Lib.parseMag
  rw [if_neg (decR_ne u)]
  have h := pu_dec u hu []
  rw [List.append_nil] at h
  rw [h]
  rfl
theorem atoi_back (n : Int) (h0 : -9223372036854775808 ≤ n) (h1 : n ≤ 9223372036854775807) : Lib.atoiAll (Lib.itoa n) = .ok n := by
  unfold Lib.itoa
  by_cases hn : n < 0
  · rw [if_pos hn]
    unfold Lib.atoiAll
    simp only
    rw [show (45 : UInt8).toNat = 45 from rfl]
    simp only [or_true, if_true]
    rw [mag_dec _ (by omega)]
    simp only [not_true_eq_false, false_and, if_false, true_and]
    rw [if_neg (by omega)]
    congr 1
    omega
  · rw [if_neg hn]
    cases hd : Lib.decDigits n.toNat with
    | nil => exact absurd hd (decR_ne _)
    | cons c t =>
      have hc : 48 ≤ c.toNat ∧ c.toNat ≤ 57 := by
        have := dec_dig n.toNat c (by rw [hd]; exact List.mem_cons_self)
        unfold digB at this
        have h45 : c.toNat ≠ 45 := fun e => dec_sign n.toNat t (by
          rw [hd]
          congr 1
          exact UInt8.toNat_inj.1 e)
        simp at this
        omega
      unfold Lib.atoiAll
      simp only
      rw [if_neg (by omega), ← hd, mag_dec _ (by omega)]
      simp only
      rw [if_neg (by omega), if_neg (by omega), if_neg (by omega)]
      congr 1
      omega
theorem atoi_rng {l : List UInt8} {v : Int} (h : Lib.atoiAll l = .ok v) : -9223372036854775808 ≤ v ∧ v ≤ 9223372036854775807 := by
  unfold Lib.atoiAll at h
  split at h
  · cases h
  · simp only at h
    split at h
    · cases h
    · cases h
    · split at h
      · cases h
      · split at h
        · cases h
        · injection h with h
          subst h
          split <;> omega
/-- The two errors of package strconv lie as the text lays them: values of some type. -/
def Errs (w : World) : Prop := (∃ t p, w.var? Tryz.prog "strconv.ErrSyntax" = some #[.iface t p]) ∧ ∃ t p, w.var? Tryz.prog "strconv.ErrRange" = some #[.iface t p]
theorem syn_g : ∃ g, Tryz.prog.globalNamed "strconv.ErrSyntax" = some g := Option.isSome_iff_exists.1 (by kernel_rfl)
theorem ran_g : ∃ g, Tryz.prog.globalNamed "strconv.ErrRange" = some g := Option.isSome_iff_exists.1 (by kernel_rfl)
theorem Errs.below {w w' : World} (h : Errs w) (hb : Below w.heap.size w w') : Errs w' := by
  obtain ⟨⟨t, p, h1⟩, ⟨t2, p2, h2⟩⟩ := h
  obtain ⟨g1, e1⟩ := syn_g
  obtain ⟨g2, e2⟩ := ran_g
  exact ⟨⟨t, p, var?_below hb e1 (lt_of_var e1 h1) h1⟩, ⟨t2, p2, var?_below hb e2 (lt_of_var e2 h2) h2⟩⟩
/-- What the reader asks of package variables. -/
def Vr (w : World) : Prop := Tab w ∧ Errs w
theorem Vr.below {w w' : World} (h : Vr w) (hb : Below w.heap.size w w') : Vr w' := ⟨h.1.below hb, h.2.below hb⟩
theorem below_bytes (w : World) (e : TypeId) (s : ByteArray) : Below w.heap.size w (Lib.bytesWorld w e s) :=
  ⟨rfl, rfl, rfl, by rw [Lib.bytesWorld_size]; omega, fun k hk => Lib.bytesWorld_at_old w e s k hk⟩
/-- What Atoi leaves. -/
def AtoiP (w : World) (s : ByteArray) (e : Ending) (w' : World) : Prop :=
  ((∃ v, Lib.atoiAll s.data.toList = .ok v ∧ e = .returned (.tuple #[.int .i64 v, .nilIface])) ∨ ((∀ v, Lib.atoiAll s.data.toList ≠ .ok v) ∧ ∃ v T N, e = .returned (.tuple #[.int .i64 v, .iface T (.pointer (some N))]))) ∧ Below w.heap.size w w'
theorem atoi_any (s : ByteArray) (w : World) (hs : s.size ≤ 60000) (hE : Errs w) : Calls Tryz.prog 44 #[.string s] w fun e w' => AtoiP w s e w' := by
  obtain ⟨⟨t, p, h1⟩, ⟨t2, p2, h2⟩⟩ := hE
  cases hat : Lib.atoiAll s.data.toList with
  | ok v =>
    refine (Tryz.strconv_Atoi_ok s (by omega) v hat w).mono ?_
    rintro e w' ⟨rfl, rfl | ⟨t, rfl⟩⟩
    · exact ⟨Or.inl ⟨v, hat, rfl⟩, Below.refl _ _⟩
    · exact ⟨Or.inl ⟨v, hat, rfl⟩, below_bytes _ _ _⟩
  | range =>
    refine (Any.strconv_Atoi_range_var Tryz.laysC172 s (by omega) hat t2 p2 w h2).mono ?_
    rintro e w' ⟨N, rfl, _, _, hb⟩
    exact ⟨Or.inr ⟨fun v h => (by rw [hat] at h; cases h), _, _, _, rfl⟩, hb⟩
  | _ =>
    refine (Any.strconv_Atoi_syntax_var Tryz.laysC172 s (by omega) hat t p w h1).mono ?_
    rintro e w' ⟨N, rfl, _, _, hb⟩
    exact ⟨Or.inr ⟨fun v h => (by rw [hat] at h; cases h), _, _, _, rfl⟩, hb⟩
end Go.Proofs.YtnoikdlofkcgaaaGreatDoor

namespace Go.Proofs.YtnoikdlofkcgaaaGreatDoor
open Go.RowKit Go.Sort

/-- A number, as a value. -/
def nv (n : Int) : V := ⟨2, n, ⟨#[]⟩, 0, 0⟩
/-- What number leaves. -/
def NumP (w : World) (p : Nat) (s : ByteArray) (k m : Nat) (e : Ending) (w' : World) : Prop :=
  (∃ n : Int, (-9223372036854775808 ≤ n ∧ n ≤ 9223372036854775807) ∧ Lib.itoa n = dgs (lft s k) ∧ e = .returned (nv n).val ∧ RB w' p s (k + (dgs (lft s k)).length) m ∧ Rk p w w') ∨
  ((∀ n : Int, -9223372036854775808 ≤ n ∧ n ≤ 9223372036854775807 → Lib.itoa n ≠ dgs (lft s k)) ∧ e = .panicked [{ v := faultV k 2, recovered := false }] ∧ Rk p w w')
theorem dgs_len (s : ByteArray) (k : Nat) : (dgs (lft s k)).length ≤ s.size - k := by
  have h := congrArg List.length (dgs_split (lft s k))
  rw [List.length_append] at h
  have hll : (lft s k).length = s.size - k := by
    unfold lft
    rw [List.length_drop, Array.length_toList]
    rfl
  omega
set_option maxRecDepth 100000 in
set_option maxHeartbeats 4000000 in
theorem numberR_any (p : Nat) (s : ByteArray) (k m : Nat) (w : World) (h : RB w p s k m) (hk : k ≤ s.size) (hs : s.size ≤ 60000) (hV : Vr w) :
    Calls Tryz.prog 26 #[.pointer (some ⟨p, 0, none⟩)] w fun e w' => NumP w p s k m e w' := by
  obtain ⟨post, hpost⟩ : ∃ post, post = NumP w p s k m := ⟨_, rfl⟩
  rw [← hpost]
  have HPO : Hid (post = NumP w p s k m) := hpost
  have hp := h.lt
  have HB0 := (Below.refl w.heap.size w).alloc (Nat.le_refl _) (.cells #[.int .i64 0, .int .i64 0, .string ⟨#[]⟩, .int .i64 0, .int .i64 0] 25)
  have E1 := digitsR_any p s k m (w.alloc (.cells #[.int .i64 0, .int .i64 0, .string ⟨#[]⟩, .int .i64 0, .int .i64 0] 25)) (h.below HB0) hk hs
  have hdl := dgs_len s k
  obtain ⟨d, hd⟩ : ∃ d : ByteArray, d = ⟨(dgs (lft s k)).toArray⟩ := ⟨_, rfl⟩
  have hdd : d.data.toList = dgs (lft s k) := by rw [hd]
  have hdz : d.size = (dgs (lft s k)).length := by rw [hd]; simp [ByteArray.size]
  rw [← hd] at E1
  have HD : Hid (d.data.toList = dgs (lft s k) ∧ d.size = (dgs (lft s k)).length ∧ d.size ≤ s.size - k ∧ k ≤ s.size ∧ s.size ≤ 60000 ∧ RB w p s k m ∧ Vr w ∧ p < w.heap.size) := ⟨hdd, hdz, by omega, hk, hs, h, hV, hp⟩
  clear hpost h hk hs hV hp hdl hd hdd hdz
  go_enter Tryz.func26, Tryz.ntmps26
  go_wp2_with fail
  go_fit E1
  rintro e w1 ⟨rfl, b1⟩
  have B1 : Below w.heap.size w w1 := HB0.trans (b1.mono (by rw [sz_new]; omega))
  have hbx : w1.heap[w.heap.size]? = some (.cells #[.int .i64 0, .int .i64 0, .string ⟨#[]⟩, .int .i64 0, .int .i64 0] 25) := by
    rw [b1.block _ (by rw [sz_new]; omega)]
    exact one_new w _
  have HX : Hid (Below w.heap.size w w1 ∧ w1.heap[w.heap.size]? = some (.cells #[.int .i64 0, .int .i64 0, .string ⟨#[]⟩, .int .i64 0, .int .i64 0] 25)) := ⟨B1, hbx⟩
  clear E1 b1 HB0 B1 hbx
  have E2 := atoi_any d w1 (by have := HD.out; omega) (HD.out.2.2.2.2.2.2.1.below HX.out.1).2
  go_wp2_with fail
  go_fit E2
  rintro e w2 ⟨hA, b2⟩
  have HX2 : Hid (Below w.heap.size w w2 ∧ w2.heap[w.heap.size]? = some (.cells #[.int .i64 0, .int .i64 0, .string ⟨#[]⟩, .int .i64 0, .int .i64 0] 25)) := by
    refine ⟨HX.out.1.trans (b2.mono HX.out.1.size), ?_⟩
    rw [b2.block _ (Array.getElem?_eq_some_iff.1 HX.out.2).1]
    exact HX.out.2
  clear E2 b2 HX
  have HRB2 : Hid (RB w2 p s k m) := HD.out.2.2.2.2.2.1.below HX2.out.1
  have c1 : w2.cell? ⟨p, 1, none⟩ = some (.int .i64 (k : Int)) := Lib.cell_of_heap HRB2.out 1
  rcases hA with ⟨v, hv, rfl⟩ | ⟨hv, v, T, N, rfl⟩
  · have hr := atoi_rng hv
    have E3 := itoa_any v hr.1 hr.2 w2 (HD.out.2.2.2.2.2.2.1.below HX2.out.1).1
    have HVV : Hid (Lib.atoiAll d.data.toList = .ok v) := hv
    have HRR : Hid (-9223372036854775808 ≤ v ∧ v ≤ 9223372036854775807) := hr
    clear hv hr
    obtain ⟨i, hi⟩ : ∃ i : ByteArray, i = ⟨(Lib.itoa v).toArray⟩ := ⟨_, rfl⟩
    have HI : Hid (i.data.toList = Lib.itoa v) := by show _ = _; rw [hi]
    rw [← hi] at E3
    clear hi
    go_wp2_with fail
    go_fit E3
    rintro e w3 ⟨rfl, b3⟩
    have HX3 : Hid (Below w.heap.size w w3 ∧ w3.heap[w.heap.size]? = some (.cells #[.int .i64 0, .int .i64 0, .string ⟨#[]⟩, .int .i64 0, .int .i64 0] 25)) := by
      refine ⟨HX2.out.1.trans (b3.mono HX2.out.1.size), ?_⟩
      rw [b3.block _ (Array.getElem?_eq_some_iff.1 HX2.out.2).1]
      exact HX2.out.2
    have HRB3 : Hid (RB w3 p s k m) := HRB2.out.below b3
    clear E3 b3 HX2 HRB2 c1
    have c1 : w3.cell? ⟨p, 1, none⟩ = some (.int .i64 (k : Int)) := Lib.cell_of_heap HRB3.out 1
    by_cases he : i = d
    · subst he
      have cf := Lib.frozen_of_heap HRB3.out
      have g1 : (k : Int) + i.size ≤ 70000 := by have := HD.out; omega
      have g0 : (0 : Int) ≤ (k : Int) + i.size := by omega
      have hse : (i.toList == i.toList) = true := beq_self_eq_true _
      have HW : Hid (RB (w3.setCell ⟨p, 1, none⟩ (.int .i64 ((k : Int) + i.size))) p s (k + i.size) m ∧ Rk p w (w3.setCell ⟨p, 1, none⟩ (.int .i64 ((k : Int) + i.size))) ∧ (w3.setCell ⟨p, 1, none⟩ (.int .i64 ((k : Int) + i.size))).heap[w.heap.size]? = some (.cells #[.int .i64 0, .int .i64 0, .string ⟨#[]⟩, .int .i64 0, .int .i64 0] 25)) := by
        refine ⟨?_, (Rk.of HX3.out.1).trans ⟨rfl, rfl, rfl, by simp, fun b _ hne => Below.heap_setCell _ _ _ _ (by simpa using hne)⟩, ?_⟩
        · unfold RB
          rw [set_atR HRB3.out 1 _]
          simp
        · rw [Below.heap_setCell _ _ _ _ (by have := HD.out; show _ ≠ _; simp; omega)]
          exact HX3.out.2
      go_upto_region 6 with fail
      generalize w3.setCell ⟨p, 1, none⟩ (.int .i64 ((k : Int) + i.size)) = w4 at *
      clear c1 cf g1 g0 hse HX3 HRB3
      have hrs := HW.out.2.2
      have r0 : w4.cell? ⟨w.heap.size, 0, none⟩ = some (.int .i64 0) := Lib.cell_of_heap hrs 0
      have r1 : w4.cell? ⟨w.heap.size, 1, none⟩ = some (.int .i64 0) := Lib.cell_of_heap hrs 1
      have r2 : w4.cell? ⟨w.heap.size, 2, none⟩ = some (.string ⟨#[]⟩) := Lib.cell_of_heap hrs 2
      have r3 : w4.cell? ⟨w.heap.size, 3, none⟩ = some (.int .i64 0) := Lib.cell_of_heap hrs 3
      have r4 : w4.cell? ⟨w.heap.size, 4, none⟩ = some (.int .i64 0) := Lib.cell_of_heap hrs 4
      have zf := Lib.frozen_of_heap hrs
      have HF : Hid (_ = some _) := set5 hrs (.int .i64 2) (.int .i64 v) (.string ⟨#[]⟩) (.int .i64 0) (.int .i64 0)
      have HE := set5_rk HD.out.2.2.2.2.2.2.2 (Nat.le_refl _) HW.out.1 HW.out.2.1 (.int .i64 2) (.int .i64 v) (.string ⟨#[]⟩) (.int .i64 0) (.int .i64 0)
      have HEND : Hid (post (.returned (nv v).val) (((((w4.setCell ⟨w.heap.size, 0, none⟩ (.int .i64 2)).setCell ⟨w.heap.size, 1, none⟩ (.int .i64 v)).setCell ⟨w.heap.size, 2, none⟩ (.string ⟨#[]⟩)).setCell ⟨w.heap.size, 3, none⟩ (.int .i64 0)).setCell ⟨w.heap.size, 4, none⟩ (.int .i64 0))) := by
        show post _ _
        rw [HPO.out]
        refine Or.inl ⟨v, HRR.out, by rw [← HI.out, HD.out.1], rfl, ?_, HE.2⟩
        rw [← HD.out.2.1]
        exact HE.1
      clear hrs HE HW
      go_wp2_with fail
      clear r0 r1 r2 r3 r4 zf
      generalize (((((w4.setCell ⟨w.heap.size, 0, none⟩ (.int .i64 2)).setCell ⟨w.heap.size, 1, none⟩ (.int .i64 v)).setCell ⟨w.heap.size, 2, none⟩ (.string ⟨#[]⟩)).setCell ⟨w.heap.size, 3, none⟩ (.int .i64 0)).setCell ⟨w.heap.size, 4, none⟩ (.int .i64 0)) = W at *
      have q0 : W.cell? ⟨w.heap.size, 0, none⟩ = some (.int .i64 2) := Lib.cell_of_heap HF.out 0
      have q1 : W.cell? ⟨w.heap.size, 1, none⟩ = some (.int .i64 v) := Lib.cell_of_heap HF.out 1
      have q2 : W.cell? ⟨w.heap.size, 2, none⟩ = some (.string ⟨#[]⟩) := Lib.cell_of_heap HF.out 2
      have q3 : W.cell? ⟨w.heap.size, 3, none⟩ = some (.int .i64 0) := Lib.cell_of_heap HF.out 3
      have q4 : W.cell? ⟨w.heap.size, 4, none⟩ = some (.int .i64 0) := Lib.cell_of_heap HF.out 4
      exact bodyPost_ret (v := (nv v).val) (by simp [nv, V.val, results, Tryz.results26, go_sem, q0, q1, q2, q3, q4]) rfl HEND.out
    · have hne : (i.toList == d.toList) = false := by
        rw [beq_eq_false_iff_ne]
        exact fun h => he (ba_toL h)
      have HEND : Hid (post (.panicked [{ v := faultV k 2, recovered := false }]) w3) := by
        show post _ _
        rw [HPO.out]
        refine Or.inr ⟨fun n hn h => he ?_, rfl, Rk.of HX3.out.1⟩
        have h1 := atoi_back n hn.1 hn.2
        rw [h, ← HD.out.1, HVV.out] at h1
        obtain rfl : v = n := by injection h1
        apply ba_eq
        rw [HI.out, HD.out.1, h]
      clear he
      go_wp2
      exact ⟨rfl, HEND.out⟩
  · have HEND : Hid (post (.panicked [{ v := faultV k 2, recovered := false }]) w2) := by
      show post _ _
      rw [HPO.out]
      refine Or.inr ⟨fun n hn h => ?_, rfl, Rk.of HX2.out.1⟩
      have h1 := atoi_back n hn.1 hn.2
      rw [h, ← HD.out.1] at h1
      exact hv n h1
    clear hv
    go_wp2
    exact ⟨rfl, HEND.out⟩
end Go.Proofs.YtnoikdlofkcgaaaGreatDoor
