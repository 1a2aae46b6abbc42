/-
  What is proved: strings.Cut at one sign, and the function number of package id, at any text.
  Conditions: the errors of package strconv lie as the text lays them; a text is no longer than the model lets one be.
-/
import Derived.Test.YtgiggobpbddlbaaDoorName
import Derived.Deep.QuietTactic
import Derived.BigQuiet
import Derived.Lib.AtoiAll
import Derived.Lib.IndexLaws
namespace Go.Proofs.YtgiggobpbddlbaaDoor
open Go.RowKit Go.Sort

theorem below_drewN (w : World) (n : Nat) : Below w.heap.size w (w.drewN n) := ⟨rfl, rfl, rfl, Nat.le_refl _, fun _ _ => rfl⟩

set_option maxHeartbeats 400000 in
theorem slcut_hit (s : ByteArray) (i : Nat) (w : World) (hix : Lib.indexByte s.data.toList 64 = i) (hi : i < s.size) (hs : s.size ≤ maxLen) :
    Calls Tryd.prog 29 #[.string s, .string ⟨#[64]⟩] w fun e w' => e = .returned (.tuple #[.string (s.extract 0 i), .string (s.extract (i + 1) s.size), .bool true]) ∧ Below w.heap.size w w' := by
  unfold maxLen at hs
  have c1 : (0 : Int) ≤ ↑i := by omega
  have c2 : (↑i : Int) ≤ ↑s.size := by omega
  have c3 : (0 : Int) ≤ ↑i + 1 := by omega
  have c4 : (↑i + 1 : Int) ≤ ↑s.size := by omega
  go_enter Tryd.func29, Tryd.ntmps29
  go_wp2_with (go_at_call 38; refine (Tryd.stringslite_Index_one s 64 _).mono ?_; rintro e w' ⟨rfl, rfl⟩; rw [hix])
  go_quiet (fail)
  go_wp2
  go_ret3
  exact ⟨rfl, below_drewN _ _⟩

set_option maxHeartbeats 400000 in
theorem slcut_miss (s : ByteArray) (w : World) (hix : Lib.indexByte s.data.toList 64 = -1) :
    Calls Tryd.prog 29 #[.string s, .string ⟨#[64]⟩] w fun e w' => e = .returned (.tuple #[.string s, .string ⟨#[]⟩, .bool false]) ∧ Below w.heap.size w w' := by
  go_enter Tryd.func29, Tryd.ntmps29
  go_wp2_with (go_at_call 38; refine (Tryd.stringslite_Index_one s 64 _).mono ?_; rintro e w' ⟨rfl, rfl⟩; rw [hix])
  go_ret3
  exact ⟨rfl, Below.refl _ _⟩

set_option maxHeartbeats 400000 in
theorem cut_hit (x y : List UInt8) (s : ByteArray) (w : World) (hx : (64 : UInt8) ∉ x) (h : s.data.toList = x ++ 64 :: y) (hs : s.size ≤ maxLen) :
    Calls Tryd.prog 23 #[.string s, .string ⟨#[64]⟩] w fun e w' => e = .returned (.tuple #[.string ⟨x.toArray⟩, .string ⟨y.toArray⟩, .bool true]) ∧ Below w.heap.size w w' := by
  have hl : x.length < s.size := by
    have h1 := congrArg List.length h
    rw [Array.length_toList, List.length_append, List.length_cons] at h1
    rw [ByteArray.size]
    omega
  have hix : Lib.indexByte s.data.toList 64 = (x.length : Nat) := by rw [h]; exact ib_hit x y hx
  have hc := slcut_hit s x.length
  rw [ex_front s x y h, ex_back s x y h] at hc
  have Hc := hc
  clear hc h
  go_enter Tryd.func23, Tryd.ntmps23
  go_wp2_with (go_at_call 29; refine (Hc _ hix hl hs).mono ?_; rintro e w' ⟨rfl, hb⟩)
  go_ret3
  exact ⟨rfl, hb⟩

set_option maxHeartbeats 400000 in
theorem cut_miss (s : ByteArray) (w : World) (hx : (64 : UInt8) ∉ s.data.toList) :
    Calls Tryd.prog 23 #[.string s, .string ⟨#[64]⟩] w fun e w' => e = .returned (.tuple #[.string s, .string ⟨#[]⟩, .bool false]) ∧ Below w.heap.size w w' := by
  have hix := ib_miss s.data.toList hx
  clear hx
  go_enter Tryd.func23, Tryd.ntmps23
  go_wp2_with (go_at_call 29; refine (slcut_miss s _ hix).mono ?_; rintro e w' ⟨rfl, hb⟩)
  go_ret3
  exact ⟨rfl, hb⟩

/-- The two errors of package strconv lie as the text lays them: values of some type. -/
def Errs (w : World) : Prop := (∃ t p, w.var? Tryd.prog "strconv.ErrSyntax" = some #[.iface t p]) ∧ ∃ t p, w.var? Tryd.prog "strconv.ErrRange" = some #[.iface t p]

theorem syn_g : Tryd.prog.globalNamed "strconv.ErrSyntax" = some 3 := by kernel_rfl
theorem ran_g : Tryd.prog.globalNamed "strconv.ErrRange" = some 4 := by kernel_rfl

theorem Errs.below {w w' : World} (h : Errs w) (hb : Below w.heap.size w w') : Errs w' := by
  obtain ⟨⟨t, p, h1⟩, ⟨t2, p2, h2⟩⟩ := h
  exact ⟨⟨t, p, var?_below hb syn_g (lt_of_var syn_g h1) h1⟩, ⟨t2, p2, var?_below hb ran_g (lt_of_var ran_g h2) h2⟩⟩

theorem below_bytes (w : World) (e : TypeId) (s : ByteArray) : Below w.heap.size w (Lib.bytesWorld w e s) :=
  ⟨rfl, rfl, rfl, by rw [Lib.bytesWorld_size]; omega, fun k hk => Lib.bytesWorld_at_old w e s k hk⟩

set_option maxHeartbeats 400000 in
theorem number_any (s : ByteArray) (w : World) (hs : s.size ≤ 281474976710656) (hE : Errs w) :
    Calls Tryd.prog 24 #[.string s] w fun e w' => e = .returned (.int .i64 (numV s.data.toList)) ∧ Below w.heap.size w w' := by
  obtain ⟨⟨t, p, h1⟩, ⟨t2, p2, h2⟩⟩ := hE
  have hA : (∃ v, numV s.data.toList = v ∧ ∀ w, Calls Tryd.prog 30 #[.string s] w fun e w' => e = .returned (.tuple #[.int .i64 v, .nilIface]) ∧ Below w.heap.size w w') ∨
      (numV s.data.toList = 0 ∧ Calls Tryd.prog 30 #[.string s] w fun e w' => ∃ v T N, e = .returned (.tuple #[.int .i64 v, .iface T (.pointer (some N))]) ∧ Below w.heap.size w w') := by
    unfold numV
    cases hat : Lib.atoiAll s.data.toList with
    | ok v =>
      refine Or.inl ⟨v, rfl, fun w => (Tryd.strconv_Atoi_ok s (by omega) v hat w).mono ?_⟩
      rintro e w' ⟨rfl, rfl | ⟨t, rfl⟩⟩
      · exact ⟨rfl, Below.refl _ _⟩
      · exact ⟨rfl, below_bytes _ _ _⟩
    | range =>
      refine Or.inr ⟨rfl, (Any.strconv_Atoi_range_var Tryd.laysC172 s hs hat t2 p2 w h2).mono ?_⟩
      rintro e w' ⟨N, rfl, _, _, hb⟩
      exact ⟨_, _, _, rfl, hb⟩
    | _ =>
      refine Or.inr ⟨rfl, (Any.strconv_Atoi_syntax_var Tryd.laysC172 s hs hat t p w h1).mono ?_⟩
      rintro e w' ⟨N, rfl, _, _, hb⟩
      exact ⟨_, _, _, rfl, hb⟩
  generalize numV s.data.toList = V at hA
  clear h1 h2
  rcases hA with ⟨v, hv, hc⟩ | ⟨hv, hc⟩
  · subst hv
    go_enter Tryd.func24, Tryd.ntmps24
    go_wp2_with (go_at_call 30; refine (hc _).mono ?_; rintro e w' ⟨rfl, hb⟩)
    go_ret
    exact ⟨rfl, hb⟩
  · subst hv
    go_enter Tryd.func24, Tryd.ntmps24
    go_wp2_with (go_at_call 30; refine hc.mono ?_; rintro e w' ⟨v, T, N, rfl, hb⟩)
    go_ret
    exact ⟨rfl, hb⟩
end Go.Proofs.YtgiggobpbddlbaaDoor
