/-
  What is proved: the law DiskKeeps, called with any bytes that are short, and any number, returns true, and nothing that was there has turned.
  Conditions: the arguments lie in memory; each has at most 30000 bytes, or the second one has more.
-/
import Derived.Test.YtcjhopeejimbmaaKKeeps
namespace Go.Proofs.Ytcjhopeejimbmaa
open Go.RowKit Go.Maps Go.Sort Go.Shelf

set_option maxRecDepth 100000 in
set_option maxHeartbeats 8000000 in
theorem keeps_mid (a : Option Addr) (c : Nat) (vb : Value) (la lb : Tx) (k : Int) (w : World) (ha : ArgB w (.slice a la.length c) la) (hb : ArgB w vb lb) (hL : la.length ≤ 30000) (hM : 30000 < lb.length) :
    Calls Try.prog 3 #[.slice a la.length c, vb, .int .i64 k] w fun e w' => e = .returned (.bool true) ∧ Below w.heap.size w w' := by
  obtain ⟨a2, c2, rfl⟩ := hb.form
  have N := st_new w
  have HC : Hid (∀ p wi, St w p [] [] 0 [] wi → Calls Try.prog 6 #[.pointer (some ⟨p, 0, none⟩), .string ⟨#[97]⟩] wi fun e w' => e = .returned .nilIface ∧ ∃ g, Hid (St w p [(aN, g)] [] 1 [⟨g, .slice none 0 0, [], 0⟩] w')) := fun p wi h => by
    refine (st_create aN h (by decide) (short1 _) ⟨by omega, by omega⟩ (by simp) rfl).mono ?_
    rintro e w' ⟨rfl, g, h'⟩
    exact ⟨rfl, g, h'⟩
  have HA : Hid (∀ p g wi, St w p [(aN, g)] [] 1 [⟨g, .slice none 0 0, [], 0⟩] wi → Calls Try.prog 7 #[.pointer (some ⟨p, 0, none⟩), .string ⟨#[97]⟩, .slice a la.length c] wi fun e w' => e = .returned .nilIface ∧ ∃ v, Hid (St w p [(aN, g)] [] 2 [⟨g, v, la, 0⟩] w')) := fun p g wi h => by
    refine (st_append aN _ la h (by decide) (short1 _) ⟨by omega, by omega⟩ _ (List.mem_singleton.2 rfl) (fk_a g) (ha.below h.1) (by show 0 + la.length ≤ 60000; omega)).mono ?_
    rintro e w' ⟨rfl, v', h'⟩
    rw [upd_one1] at h'
    exact ⟨rfl, v', h'⟩
  have HS : Hid (∀ p g v wi, St w p [(aN, g)] [] 2 [⟨g, v, la, 0⟩] wi → Calls Try.prog 8 #[.pointer (some ⟨p, 0, none⟩), .string ⟨#[97]⟩] wi fun e w' => e = .returned .nilIface ∧ Hid (St w p [(aN, g)] [] 3 [⟨g, v, la, la.length⟩] w')) := fun p g v wi h => by
    refine (st_sync aN h (by decide) (short1 _) ⟨by omega, by omega⟩ _ (List.mem_singleton.2 rfl) (fk_a _)).mono ?_
    rintro e w' ⟨rfl, h'⟩
    rw [upd_one1] at h'
    exact ⟨rfl, h'⟩
  have HN : Hid (∀ p g v wi, St w p [(aN, g)] [] 3 [⟨g, v, la, la.length⟩] wi → Calls Try.prog 9 #[.pointer (some ⟨p, 0, none⟩)] wi fun e w' => e = .returned .nilIface ∧ Hid (Sa w p g v la 4 w')) := fun p g v wi h => by
    refine (st_syncN h ⟨by omega, by omega⟩).mono ?_
    rintro e w' ⟨rfl, h'⟩
    exact ⟨rfl, h'⟩
  have g1 : ¬ (30000 : Int) < la.length := by omega
  have g2 : (30000 : Int) < lb.length := by omega
  clear ha hb hL hM
  go_enter Try.func3, Try.ntmps3
  go_wp2_with (first
    | (go_at_call 5; refine N.mono ?_; rintro e w1 ⟨p, rfl, h1⟩; have C1 := HC.out p w1 h1; clear h1 HC N)
    | (go_at_call 6; refine C1.mono ?_; rintro e w2 ⟨rfl, g, h2⟩; have A1 := HA.out p g w2 h2.out; clear h2 HA C1)
    | (go_at_call 7; refine A1.mono ?_; rintro e w3 ⟨rfl, v3, h3⟩; have S1 := HS.out p g v3 w3 h3.out; clear h3 HS A1)
    | (go_at_call 8; refine S1.mono ?_; rintro e w4 ⟨rfl, h4⟩; have N4 := HN.out p g v3 w4 h4.out; clear h4 HN S1)
    | (go_at_call 9; refine N4.mono ?_; rintro e w5 ⟨rfl, h5⟩))
  go_ret
  exact ⟨rfl, h5.out.1⟩

/-- What is left of the second bytes. -/
def cutK (k : Int) (l : Tx) : Nat := min (max k 0).toNat l.length

theorem lft_two (k : Int) (g : Nat) (v : Value) (la lb : Tx) : (la ++ lb).take (lft k ⟨g, v, la ++ lb, la.length⟩) = la ++ lb.take (cutK k lb) := by
  have e : lft k ⟨g, v, la ++ lb, la.length⟩ = la.length + cutK k lb := by unfold lft cutK; simp
  rw [e, List.take_length_add_append]

/-- All is as it should be, ahead of the last reckoning. -/
def Fin (w : World) (T : Tx) (a : Option Addr) (m c : Nat) (wi : World) : Prop := Below w.heap.size w wi ∧ ArgB wi (.slice a m c) T

theorem fin_conv {w wi : World} {T : Tx} {a : Option Addr} {m c : Nat} (h : Fin w T a m c wi) (nq : Nat) : (convert 22 9 (.slice a m c)).run Try.prog (wi.drewN nq) = .ok (.string ⟨T.toArray⟩) (wi.drewN nq) := conv_any (h.2.below (below_drew (Below.refl _ _) nq))
theorem arg_conv {w wi : World} {T : Tx} {v : Value} (h : Below w.heap.size w wi) (ha : ArgB w v T) (nq : Nat) : (convert 22 9 v).run Try.prog (wi.drewN nq) = .ok (.string ⟨T.toArray⟩) (wi.drewN nq) := conv_any (ha.below (below_drew h nq))
/-- Two texts, one behind the other. -/
theorem add_texts (x y T : Tx) (h : x ++ y = T) (hx : x.length ≤ 60000) (hy : y.length ≤ 60000) (w : World) : (Op.stringOp .add ⟨x.toArray⟩ ⟨y.toArray⟩).run Try.prog w = .ok (.string ⟨T.toArray⟩) w := by
  subst h
  exact run_string_add_lists w x y (by omega) (by omega)

set_option maxRecDepth 100000 in
set_option maxHeartbeats 8000000 in
theorem keeps_nil_n (a : Option Addr) (c : Nat) (la lb : Tx) (k : Int) (w : World) (ha : ArgB w (.slice a la.length c) la) (hb : ArgB w (.slice none 0 0) lb) (hl : lb = []) (h0 : k < 0) (hL : la.length ≤ 30000) (hM : lb.length ≤ 30000) (hk : I64 k) :
    Calls Try.prog 3 #[.slice a la.length c, .slice none 0 0, .int .i64 k] w fun e w' => e = .returned (.bool true) ∧ Below w.heap.size w w' := by
  have N := st_new w
  have HC : Hid (∀ p wi, St w p [] [] 0 [] wi → Calls Try.prog 6 #[.pointer (some ⟨p, 0, none⟩), .string ⟨#[97]⟩] wi fun e w' => e = .returned .nilIface ∧ ∃ g, Hid (St w p [(aN, g)] [] 1 [⟨g, .slice none 0 0, [], 0⟩] w')) := fun p wi h => by
    refine (st_create aN h (by decide) (short1 _) ⟨by omega, by omega⟩ (by simp) rfl).mono ?_
    rintro e w' ⟨rfl, g, h'⟩
    exact ⟨rfl, g, h'⟩
  have HA : Hid (∀ p g wi, St w p [(aN, g)] [] 1 [⟨g, .slice none 0 0, [], 0⟩] wi → Calls Try.prog 7 #[.pointer (some ⟨p, 0, none⟩), .string ⟨#[97]⟩, .slice a la.length c] wi fun e w' => e = .returned .nilIface ∧ ∃ v, Hid (St w p [(aN, g)] [] 2 [⟨g, v, la, 0⟩] w')) := fun p g wi h => by
    refine (st_append aN _ la h (by decide) (short1 _) ⟨by omega, by omega⟩ _ (List.mem_singleton.2 rfl) (fk_a g) (ha.below h.1) (by show 0 + la.length ≤ 60000; omega)).mono ?_
    rintro e w' ⟨rfl, v', h'⟩
    rw [upd_one1] at h'
    exact ⟨rfl, v', h'⟩
  have HS : Hid (∀ p g v wi, St w p [(aN, g)] [] 2 [⟨g, v, la, 0⟩] wi → Calls Try.prog 8 #[.pointer (some ⟨p, 0, none⟩), .string ⟨#[97]⟩] wi fun e w' => e = .returned .nilIface ∧ Hid (St w p [(aN, g)] [] 3 [⟨g, v, la, la.length⟩] w')) := fun p g v wi h => by
    refine (st_sync aN h (by decide) (short1 _) ⟨by omega, by omega⟩ _ (List.mem_singleton.2 rfl) (fk_a _)).mono ?_
    rintro e w' ⟨rfl, h'⟩
    rw [upd_one1] at h'
    exact ⟨rfl, h'⟩
  have HN : Hid (∀ p g v wi, St w p [(aN, g)] [] 3 [⟨g, v, la, la.length⟩] wi → Calls Try.prog 9 #[.pointer (some ⟨p, 0, none⟩)] wi fun e w' => e = .returned .nilIface ∧ Hid (Sa w p g v la 4 w')) := fun p g v wi h => by
    refine (st_syncN h ⟨by omega, by omega⟩).mono ?_
    rintro e w' ⟨rfl, h'⟩
    exact ⟨rfl, h'⟩
  have HB : Hid (∀ p g v wi, Sa w p g v la 4 wi → Calls Try.prog 7 #[.pointer (some ⟨p, 0, none⟩), .string ⟨#[97]⟩, .slice none 0 0] wi fun e w' => e = .returned .nilIface ∧ ∃ v, Hid (St w p [(aN, g)] [(aN, g)] 5 [⟨g, v, la ++ lb, la.length⟩] w')) := fun p g v wi h => by
    refine (st_append aN _ lb h (by decide) (short1 _) ⟨by omega, by omega⟩ _ (List.mem_singleton.2 rfl) (fk_a g) (hb.below h.1) (by show la.length + lb.length ≤ 60000; omega)).mono ?_
    rintro e w' ⟨rfl, v', h'⟩
    rw [upd_one1] at h'
    exact ⟨rfl, v', h'⟩
  have HD : Hid (∀ p g v wi, St w p [(aN, g)] [(aN, g)] 5 [⟨g, v, la ++ lb, la.length⟩] wi → Calls Try.prog 6 #[.pointer (some ⟨p, 0, none⟩), .string ⟨#[98]⟩] wi fun e w' => e = .returned .nilIface ∧ ∃ g2, Hid (St w p [(aN, g), (bN, g2)] [(aN, g)] 6 [⟨g, v, la ++ lb, la.length⟩, ⟨g2, .slice none 0 0, [], 0⟩] w')) := fun p g v wi h => by
    refine (st_create bN h (by decide) (short1 _) ⟨by omega, by omega⟩ (by simp) (fk_b g)).mono ?_
    rintro e w' ⟨rfl, g2, h'⟩
    exact ⟨rfl, g2, h'⟩
  have HX : Hid (∀ p g g2 v wi, St w p [(aN, g), (bN, g2)] [(aN, g)] 6 [⟨g, v, la ++ lb, la.length⟩, ⟨g2, .slice none 0 0, [], 0⟩] wi → Calls Try.prog 10 #[.pointer (some ⟨p, 0, none⟩), .int .i64 k] wi fun e w' => e = .returned (.tuple #[]) ∧ ∃ y, Hid (St w p [(aN, y.g)] [(aN, y.g)] 0 [y] w' ∧ y.bs = la ++ lb.take (cutK k lb))) := fun p g g2 v wi h => by
    refine (st_crash k h hk (by simp)).mono ?_
    rintro e w' ⟨rfl, E, h', hp, hm⟩
    obtain ⟨y, rfl, hy⟩ := one_rest hp hm (x := ⟨g, v, la ++ lb, la.length⟩) (by simp) rfl
    exact ⟨rfl, y, h', by rw [hy]; exact lft_two k g v la lb⟩
  have HR : Hid (∀ p y wi, (St w p [(aN, y.g)] [(aN, y.g)] 0 [y] wi ∧ y.bs = la ++ lb.take (cutK k lb)) → Calls Try.prog 11 #[.pointer (some ⟨p, 0, none⟩), .string ⟨#[97]⟩] wi fun e w' => ∃ ax mx cx, e = .returned (.tuple #[.slice ax mx cx, .nilIface]) ∧ Hid (St w p [(aN, y.g)] [(aN, y.g)] 0 [y] w' ∧ ArgB w' (.slice ax mx cx) (la ++ lb.take (cutK k lb)))) := fun p y wi h => by
    refine (st_read aN h.1 (by decide) (short1 _) y (List.mem_singleton.2 rfl) (fk_a _)).mono ?_
    rintro e w' ⟨ax, mx, cx, rfl, h', r, hl⟩
    exact ⟨ax, mx, cx, rfl, h', h.2 ▸ row_arg r hl⟩
  have HM : Hid (∀ p y ax mx cx wi, (St w p [(aN, y.g)] [(aN, y.g)] 0 [y] wi ∧ ArgB wi (.slice ax mx cx) (la ++ lb.take (cutK k lb))) → Calls Try.prog 12 #[.pointer (some ⟨p, 0, none⟩)] wi fun e w' => ∃ an cn, e = .returned (.slice an 1 cn) ∧ Hid (Fin w (la ++ lb.take (cutK k lb)) ax mx cx w')) := fun p y ax mx cx wi h => by
    refine (st_names h.1 (by simp)).mono ?_
    rintro e w' ⟨an, cn, rfl, hb', h'⟩
    exact ⟨an, cn, rfl, h'.1, h.2.below hb'⟩
  have g1 : ¬ (30000 : Int) < la.length := by omega
  have g2 : ¬ (30000 : Int) < (0 : Nat) := by omega
  have hcut : cutK k lb = 0 := by unfold cutK; rw [hl]; simp
  have HAA : Hid (ArgB w (.slice a la.length c) la) := ha
  have HBB : Hid (ArgB w (.slice none 0 0) (lb.take 0)) := by show ArgB _ _ _; rw [hl]; exact ⟨isBytes_nil _ _ _, Or.inl rfl⟩
  rw [hcut] at HX HR HM
  have hadd := add_texts la (lb.take (0)) _ rfl (by omega) (by rw [List.length_take]; omega)
  generalize la ++ lb.take (0) = T at *
  generalize lb.take 0 = B at *
  clear ha hb hL hM hk hcut hl
  go_enter Try.func3, Try.ntmps3
  go_wp2_with (first
    | (go_at_call 5; refine N.mono ?_; rintro e w1 ⟨p, rfl, h1⟩; have C1 := HC.out p w1 h1; clear h1 HC N)
    | (go_at_call 6; refine C1.mono ?_; rintro e w2 ⟨rfl, g, h2⟩; have A1 := HA.out p g w2 h2.out; clear h2 HA C1)
    | (go_at_call 7; refine A1.mono ?_; rintro e w3 ⟨rfl, v3, h3⟩; have S1 := HS.out p g v3 w3 h3.out; clear h3 HS A1)
    | (go_at_call 8; refine S1.mono ?_; rintro e w4 ⟨rfl, h4⟩; have N4 := HN.out p g v3 w4 h4.out; clear h4 HN S1)
    | (go_at_call 9; refine N4.mono ?_; rintro e w5 ⟨rfl, h5⟩; have B5 := HB.out p g v3 w5 h5.out; clear h5 HB N4)
    | (go_at_call 7; refine B5.mono ?_; rintro e w6 ⟨rfl, v6, h6⟩; have D6 := HD.out p g v6 w6 h6.out; clear h6 HD B5)
    | (go_at_call 6; refine D6.mono ?_; rintro e w7 ⟨rfl, g7, h7⟩; have X7 := HX.out p g g7 v6 w7 h7.out; clear h7 HX D6)
    | (go_at_call 10; refine X7.mono ?_; rintro e w8 ⟨rfl, y, h8⟩; have R8 := HR.out p y w8 h8.out; clear h8 HR X7)
    | (go_at_call 11; refine R8.mono ?_; rintro e w9 ⟨ax, mx, cx, rfl, h9⟩; have M9 := HM.out p y ax mx cx w9 h9.out; clear h9 HM R8)
    | (go_at_call 12; refine M9.mono ?_; rintro e w10 ⟨an, cn, rfl, h10⟩; have HF := h10.out; clear h10 M9
       have q1 := fin_conv HF
       have q2 := arg_conv HF.1 HAA.out
       have q3 := arg_conv HF.1 HBB.out
       have HEN : Hid (Below w.heap.size w w10) := HF.1
       clear HF))
  go_quiet (fail)
  go_wp2
  first | exact bodyPost_ret (v := .bool true) (by simp [results, Try.results3, go_sem]) rfl ⟨rfl, below_drew HEN.out nq⟩ | (go_ret; exact ⟨by simp, below_drew HEN.out nq⟩)

set_option maxRecDepth 100000 in
set_option maxHeartbeats 8000000 in
theorem keeps_nil_z (a : Option Addr) (c : Nat) (la lb : Tx) (k : Int) (w : World) (ha : ArgB w (.slice a la.length c) la) (hb : ArgB w (.slice none 0 0) lb) (hl : lb = []) (h0 : k = 0) (hL : la.length ≤ 30000) (hM : lb.length ≤ 30000) (hk : I64 k) :
    Calls Try.prog 3 #[.slice a la.length c, .slice none 0 0, .int .i64 k] w fun e w' => e = .returned (.bool true) ∧ Below w.heap.size w w' := by
  have N := st_new w
  have HC : Hid (∀ p wi, St w p [] [] 0 [] wi → Calls Try.prog 6 #[.pointer (some ⟨p, 0, none⟩), .string ⟨#[97]⟩] wi fun e w' => e = .returned .nilIface ∧ ∃ g, Hid (St w p [(aN, g)] [] 1 [⟨g, .slice none 0 0, [], 0⟩] w')) := fun p wi h => by
    refine (st_create aN h (by decide) (short1 _) ⟨by omega, by omega⟩ (by simp) rfl).mono ?_
    rintro e w' ⟨rfl, g, h'⟩
    exact ⟨rfl, g, h'⟩
  have HA : Hid (∀ p g wi, St w p [(aN, g)] [] 1 [⟨g, .slice none 0 0, [], 0⟩] wi → Calls Try.prog 7 #[.pointer (some ⟨p, 0, none⟩), .string ⟨#[97]⟩, .slice a la.length c] wi fun e w' => e = .returned .nilIface ∧ ∃ v, Hid (St w p [(aN, g)] [] 2 [⟨g, v, la, 0⟩] w')) := fun p g wi h => by
    refine (st_append aN _ la h (by decide) (short1 _) ⟨by omega, by omega⟩ _ (List.mem_singleton.2 rfl) (fk_a g) (ha.below h.1) (by show 0 + la.length ≤ 60000; omega)).mono ?_
    rintro e w' ⟨rfl, v', h'⟩
    rw [upd_one1] at h'
    exact ⟨rfl, v', h'⟩
  have HS : Hid (∀ p g v wi, St w p [(aN, g)] [] 2 [⟨g, v, la, 0⟩] wi → Calls Try.prog 8 #[.pointer (some ⟨p, 0, none⟩), .string ⟨#[97]⟩] wi fun e w' => e = .returned .nilIface ∧ Hid (St w p [(aN, g)] [] 3 [⟨g, v, la, la.length⟩] w')) := fun p g v wi h => by
    refine (st_sync aN h (by decide) (short1 _) ⟨by omega, by omega⟩ _ (List.mem_singleton.2 rfl) (fk_a _)).mono ?_
    rintro e w' ⟨rfl, h'⟩
    rw [upd_one1] at h'
    exact ⟨rfl, h'⟩
  have HN : Hid (∀ p g v wi, St w p [(aN, g)] [] 3 [⟨g, v, la, la.length⟩] wi → Calls Try.prog 9 #[.pointer (some ⟨p, 0, none⟩)] wi fun e w' => e = .returned .nilIface ∧ Hid (Sa w p g v la 4 w')) := fun p g v wi h => by
    refine (st_syncN h ⟨by omega, by omega⟩).mono ?_
    rintro e w' ⟨rfl, h'⟩
    exact ⟨rfl, h'⟩
  have HB : Hid (∀ p g v wi, Sa w p g v la 4 wi → Calls Try.prog 7 #[.pointer (some ⟨p, 0, none⟩), .string ⟨#[97]⟩, .slice none 0 0] wi fun e w' => e = .returned .nilIface ∧ ∃ v, Hid (St w p [(aN, g)] [(aN, g)] 5 [⟨g, v, la ++ lb, la.length⟩] w')) := fun p g v wi h => by
    refine (st_append aN _ lb h (by decide) (short1 _) ⟨by omega, by omega⟩ _ (List.mem_singleton.2 rfl) (fk_a g) (hb.below h.1) (by show la.length + lb.length ≤ 60000; omega)).mono ?_
    rintro e w' ⟨rfl, v', h'⟩
    rw [upd_one1] at h'
    exact ⟨rfl, v', h'⟩
  have HD : Hid (∀ p g v wi, St w p [(aN, g)] [(aN, g)] 5 [⟨g, v, la ++ lb, la.length⟩] wi → Calls Try.prog 6 #[.pointer (some ⟨p, 0, none⟩), .string ⟨#[98]⟩] wi fun e w' => e = .returned .nilIface ∧ ∃ g2, Hid (St w p [(aN, g), (bN, g2)] [(aN, g)] 6 [⟨g, v, la ++ lb, la.length⟩, ⟨g2, .slice none 0 0, [], 0⟩] w')) := fun p g v wi h => by
    refine (st_create bN h (by decide) (short1 _) ⟨by omega, by omega⟩ (by simp) (fk_b g)).mono ?_
    rintro e w' ⟨rfl, g2, h'⟩
    exact ⟨rfl, g2, h'⟩
  have HX : Hid (∀ p g g2 v wi, St w p [(aN, g), (bN, g2)] [(aN, g)] 6 [⟨g, v, la ++ lb, la.length⟩, ⟨g2, .slice none 0 0, [], 0⟩] wi → Calls Try.prog 10 #[.pointer (some ⟨p, 0, none⟩), .int .i64 k] wi fun e w' => e = .returned (.tuple #[]) ∧ ∃ y, Hid (St w p [(aN, y.g)] [(aN, y.g)] 0 [y] w' ∧ y.bs = la ++ lb.take (cutK k lb))) := fun p g g2 v wi h => by
    refine (st_crash k h hk (by simp)).mono ?_
    rintro e w' ⟨rfl, E, h', hp, hm⟩
    obtain ⟨y, rfl, hy⟩ := one_rest hp hm (x := ⟨g, v, la ++ lb, la.length⟩) (by simp) rfl
    exact ⟨rfl, y, h', by rw [hy]; exact lft_two k g v la lb⟩
  have HR : Hid (∀ p y wi, (St w p [(aN, y.g)] [(aN, y.g)] 0 [y] wi ∧ y.bs = la ++ lb.take (cutK k lb)) → Calls Try.prog 11 #[.pointer (some ⟨p, 0, none⟩), .string ⟨#[97]⟩] wi fun e w' => ∃ ax mx cx, e = .returned (.tuple #[.slice ax mx cx, .nilIface]) ∧ Hid (St w p [(aN, y.g)] [(aN, y.g)] 0 [y] w' ∧ ArgB w' (.slice ax mx cx) (la ++ lb.take (cutK k lb)))) := fun p y wi h => by
    refine (st_read aN h.1 (by decide) (short1 _) y (List.mem_singleton.2 rfl) (fk_a _)).mono ?_
    rintro e w' ⟨ax, mx, cx, rfl, h', r, hl⟩
    exact ⟨ax, mx, cx, rfl, h', h.2 ▸ row_arg r hl⟩
  have HM : Hid (∀ p y ax mx cx wi, (St w p [(aN, y.g)] [(aN, y.g)] 0 [y] wi ∧ ArgB wi (.slice ax mx cx) (la ++ lb.take (cutK k lb))) → Calls Try.prog 12 #[.pointer (some ⟨p, 0, none⟩)] wi fun e w' => ∃ an cn, e = .returned (.slice an 1 cn) ∧ Hid (Fin w (la ++ lb.take (cutK k lb)) ax mx cx w')) := fun p y ax mx cx wi h => by
    refine (st_names h.1 (by simp)).mono ?_
    rintro e w' ⟨an, cn, rfl, hb', h'⟩
    exact ⟨an, cn, rfl, h'.1, h.2.below hb'⟩
  have g1 : ¬ (30000 : Int) < la.length := by omega
  have g2 : ¬ (30000 : Int) < (0 : Nat) := by omega
  have hcut : cutK k lb = 0 := by unfold cutK; rw [hl]; simp
  have HAA : Hid (ArgB w (.slice a la.length c) la) := ha
  have HBB : Hid (ArgB w (.slice none 0 0) (lb.take 0)) := by show ArgB _ _ _; rw [hl]; exact ⟨isBytes_nil _ _ _, Or.inl rfl⟩
  rw [hcut] at HX HR HM
  have hadd := add_texts la (lb.take (0)) _ rfl (by omega) (by rw [List.length_take]; omega)
  generalize la ++ lb.take (0) = T at *
  generalize lb.take 0 = B at *
  clear ha hb hL hM hk hcut hl
  subst h0
  go_enter Try.func3, Try.ntmps3
  go_wp2_with (first
    | (go_at_call 5; refine N.mono ?_; rintro e w1 ⟨p, rfl, h1⟩; have C1 := HC.out p w1 h1; clear h1 HC N)
    | (go_at_call 6; refine C1.mono ?_; rintro e w2 ⟨rfl, g, h2⟩; have A1 := HA.out p g w2 h2.out; clear h2 HA C1)
    | (go_at_call 7; refine A1.mono ?_; rintro e w3 ⟨rfl, v3, h3⟩; have S1 := HS.out p g v3 w3 h3.out; clear h3 HS A1)
    | (go_at_call 8; refine S1.mono ?_; rintro e w4 ⟨rfl, h4⟩; have N4 := HN.out p g v3 w4 h4.out; clear h4 HN S1)
    | (go_at_call 9; refine N4.mono ?_; rintro e w5 ⟨rfl, h5⟩; have B5 := HB.out p g v3 w5 h5.out; clear h5 HB N4)
    | (go_at_call 7; refine B5.mono ?_; rintro e w6 ⟨rfl, v6, h6⟩; have D6 := HD.out p g v6 w6 h6.out; clear h6 HD B5)
    | (go_at_call 6; refine D6.mono ?_; rintro e w7 ⟨rfl, g7, h7⟩; have X7 := HX.out p g g7 v6 w7 h7.out; clear h7 HX D6)
    | (go_at_call 10; refine X7.mono ?_; rintro e w8 ⟨rfl, y, h8⟩; have R8 := HR.out p y w8 h8.out; clear h8 HR X7)
    | (go_at_call 11; refine R8.mono ?_; rintro e w9 ⟨ax, mx, cx, rfl, h9⟩; have M9 := HM.out p y ax mx cx w9 h9.out; clear h9 HM R8)
    | (go_at_call 12; refine M9.mono ?_; rintro e w10 ⟨an, cn, rfl, h10⟩; have HF := h10.out; clear h10 M9
       have q1 := fin_conv HF
       have q2 := arg_conv HF.1 HAA.out
       have q3 := arg_conv HF.1 HBB.out
       have HEN : Hid (Below w.heap.size w w10) := HF.1
       clear HF))
  go_quiet (fail)
  go_wp2
  first | exact bodyPost_ret (v := .bool true) (by simp [results, Try.results3, go_sem]) rfl ⟨rfl, below_drew HEN.out nq⟩ | (go_ret; exact ⟨by simp, below_drew HEN.out nq⟩)

set_option maxRecDepth 100000 in
set_option maxHeartbeats 8000000 in
theorem keeps_nil_p (a : Option Addr) (c : Nat) (la lb : Tx) (k : Int) (w : World) (ha : ArgB w (.slice a la.length c) la) (hb : ArgB w (.slice none 0 0) lb) (hl : lb = []) (h0 : 0 < k) (hL : la.length ≤ 30000) (hM : lb.length ≤ 30000) (hk : I64 k) :
    Calls Try.prog 3 #[.slice a la.length c, .slice none 0 0, .int .i64 k] w fun e w' => e = .returned (.bool true) ∧ Below w.heap.size w w' := by
  have N := st_new w
  have HC : Hid (∀ p wi, St w p [] [] 0 [] wi → Calls Try.prog 6 #[.pointer (some ⟨p, 0, none⟩), .string ⟨#[97]⟩] wi fun e w' => e = .returned .nilIface ∧ ∃ g, Hid (St w p [(aN, g)] [] 1 [⟨g, .slice none 0 0, [], 0⟩] w')) := fun p wi h => by
    refine (st_create aN h (by decide) (short1 _) ⟨by omega, by omega⟩ (by simp) rfl).mono ?_
    rintro e w' ⟨rfl, g, h'⟩
    exact ⟨rfl, g, h'⟩
  have HA : Hid (∀ p g wi, St w p [(aN, g)] [] 1 [⟨g, .slice none 0 0, [], 0⟩] wi → Calls Try.prog 7 #[.pointer (some ⟨p, 0, none⟩), .string ⟨#[97]⟩, .slice a la.length c] wi fun e w' => e = .returned .nilIface ∧ ∃ v, Hid (St w p [(aN, g)] [] 2 [⟨g, v, la, 0⟩] w')) := fun p g wi h => by
    refine (st_append aN _ la h (by decide) (short1 _) ⟨by omega, by omega⟩ _ (List.mem_singleton.2 rfl) (fk_a g) (ha.below h.1) (by show 0 + la.length ≤ 60000; omega)).mono ?_
    rintro e w' ⟨rfl, v', h'⟩
    rw [upd_one1] at h'
    exact ⟨rfl, v', h'⟩
  have HS : Hid (∀ p g v wi, St w p [(aN, g)] [] 2 [⟨g, v, la, 0⟩] wi → Calls Try.prog 8 #[.pointer (some ⟨p, 0, none⟩), .string ⟨#[97]⟩] wi fun e w' => e = .returned .nilIface ∧ Hid (St w p [(aN, g)] [] 3 [⟨g, v, la, la.length⟩] w')) := fun p g v wi h => by
    refine (st_sync aN h (by decide) (short1 _) ⟨by omega, by omega⟩ _ (List.mem_singleton.2 rfl) (fk_a _)).mono ?_
    rintro e w' ⟨rfl, h'⟩
    rw [upd_one1] at h'
    exact ⟨rfl, h'⟩
  have HN : Hid (∀ p g v wi, St w p [(aN, g)] [] 3 [⟨g, v, la, la.length⟩] wi → Calls Try.prog 9 #[.pointer (some ⟨p, 0, none⟩)] wi fun e w' => e = .returned .nilIface ∧ Hid (Sa w p g v la 4 w')) := fun p g v wi h => by
    refine (st_syncN h ⟨by omega, by omega⟩).mono ?_
    rintro e w' ⟨rfl, h'⟩
    exact ⟨rfl, h'⟩
  have HB : Hid (∀ p g v wi, Sa w p g v la 4 wi → Calls Try.prog 7 #[.pointer (some ⟨p, 0, none⟩), .string ⟨#[97]⟩, .slice none 0 0] wi fun e w' => e = .returned .nilIface ∧ ∃ v, Hid (St w p [(aN, g)] [(aN, g)] 5 [⟨g, v, la ++ lb, la.length⟩] w')) := fun p g v wi h => by
    refine (st_append aN _ lb h (by decide) (short1 _) ⟨by omega, by omega⟩ _ (List.mem_singleton.2 rfl) (fk_a g) (hb.below h.1) (by show la.length + lb.length ≤ 60000; omega)).mono ?_
    rintro e w' ⟨rfl, v', h'⟩
    rw [upd_one1] at h'
    exact ⟨rfl, v', h'⟩
  have HD : Hid (∀ p g v wi, St w p [(aN, g)] [(aN, g)] 5 [⟨g, v, la ++ lb, la.length⟩] wi → Calls Try.prog 6 #[.pointer (some ⟨p, 0, none⟩), .string ⟨#[98]⟩] wi fun e w' => e = .returned .nilIface ∧ ∃ g2, Hid (St w p [(aN, g), (bN, g2)] [(aN, g)] 6 [⟨g, v, la ++ lb, la.length⟩, ⟨g2, .slice none 0 0, [], 0⟩] w')) := fun p g v wi h => by
    refine (st_create bN h (by decide) (short1 _) ⟨by omega, by omega⟩ (by simp) (fk_b g)).mono ?_
    rintro e w' ⟨rfl, g2, h'⟩
    exact ⟨rfl, g2, h'⟩
  have HX : Hid (∀ p g g2 v wi, St w p [(aN, g), (bN, g2)] [(aN, g)] 6 [⟨g, v, la ++ lb, la.length⟩, ⟨g2, .slice none 0 0, [], 0⟩] wi → Calls Try.prog 10 #[.pointer (some ⟨p, 0, none⟩), .int .i64 k] wi fun e w' => e = .returned (.tuple #[]) ∧ ∃ y, Hid (St w p [(aN, y.g)] [(aN, y.g)] 0 [y] w' ∧ y.bs = la ++ lb.take (cutK k lb))) := fun p g g2 v wi h => by
    refine (st_crash k h hk (by simp)).mono ?_
    rintro e w' ⟨rfl, E, h', hp, hm⟩
    obtain ⟨y, rfl, hy⟩ := one_rest hp hm (x := ⟨g, v, la ++ lb, la.length⟩) (by simp) rfl
    exact ⟨rfl, y, h', by rw [hy]; exact lft_two k g v la lb⟩
  have HR : Hid (∀ p y wi, (St w p [(aN, y.g)] [(aN, y.g)] 0 [y] wi ∧ y.bs = la ++ lb.take (cutK k lb)) → Calls Try.prog 11 #[.pointer (some ⟨p, 0, none⟩), .string ⟨#[97]⟩] wi fun e w' => ∃ ax mx cx, e = .returned (.tuple #[.slice ax mx cx, .nilIface]) ∧ Hid (St w p [(aN, y.g)] [(aN, y.g)] 0 [y] w' ∧ ArgB w' (.slice ax mx cx) (la ++ lb.take (cutK k lb)))) := fun p y wi h => by
    refine (st_read aN h.1 (by decide) (short1 _) y (List.mem_singleton.2 rfl) (fk_a _)).mono ?_
    rintro e w' ⟨ax, mx, cx, rfl, h', r, hl⟩
    exact ⟨ax, mx, cx, rfl, h', h.2 ▸ row_arg r hl⟩
  have HM : Hid (∀ p y ax mx cx wi, (St w p [(aN, y.g)] [(aN, y.g)] 0 [y] wi ∧ ArgB wi (.slice ax mx cx) (la ++ lb.take (cutK k lb))) → Calls Try.prog 12 #[.pointer (some ⟨p, 0, none⟩)] wi fun e w' => ∃ an cn, e = .returned (.slice an 1 cn) ∧ Hid (Fin w (la ++ lb.take (cutK k lb)) ax mx cx w')) := fun p y ax mx cx wi h => by
    refine (st_names h.1 (by simp)).mono ?_
    rintro e w' ⟨an, cn, rfl, hb', h'⟩
    exact ⟨an, cn, rfl, h'.1, h.2.below hb'⟩
  have g1 : ¬ (30000 : Int) < la.length := by omega
  have g2 : ¬ (30000 : Int) < (0 : Nat) := by omega
  have hcut : cutK k lb = 0 := by unfold cutK; rw [hl]; simp
  have HAA : Hid (ArgB w (.slice a la.length c) la) := ha
  have HBB : Hid (ArgB w (.slice none 0 0) (lb.take 0)) := by show ArgB _ _ _; rw [hl]; exact ⟨isBytes_nil _ _ _, Or.inl rfl⟩
  rw [hcut] at HX HR HM
  have hadd := add_texts la (lb.take (0)) _ rfl (by omega) (by rw [List.length_take]; omega)
  generalize la ++ lb.take (0) = T at *
  generalize lb.take 0 = B at *
  clear ha hb hL hM hk hcut hl
  go_enter Try.func3, Try.ntmps3
  go_wp2_with (first
    | (go_at_call 5; refine N.mono ?_; rintro e w1 ⟨p, rfl, h1⟩; have C1 := HC.out p w1 h1; clear h1 HC N)
    | (go_at_call 6; refine C1.mono ?_; rintro e w2 ⟨rfl, g, h2⟩; have A1 := HA.out p g w2 h2.out; clear h2 HA C1)
    | (go_at_call 7; refine A1.mono ?_; rintro e w3 ⟨rfl, v3, h3⟩; have S1 := HS.out p g v3 w3 h3.out; clear h3 HS A1)
    | (go_at_call 8; refine S1.mono ?_; rintro e w4 ⟨rfl, h4⟩; have N4 := HN.out p g v3 w4 h4.out; clear h4 HN S1)
    | (go_at_call 9; refine N4.mono ?_; rintro e w5 ⟨rfl, h5⟩; have B5 := HB.out p g v3 w5 h5.out; clear h5 HB N4)
    | (go_at_call 7; refine B5.mono ?_; rintro e w6 ⟨rfl, v6, h6⟩; have D6 := HD.out p g v6 w6 h6.out; clear h6 HD B5)
    | (go_at_call 6; refine D6.mono ?_; rintro e w7 ⟨rfl, g7, h7⟩; have X7 := HX.out p g g7 v6 w7 h7.out; clear h7 HX D6)
    | (go_at_call 10; refine X7.mono ?_; rintro e w8 ⟨rfl, y, h8⟩; have R8 := HR.out p y w8 h8.out; clear h8 HR X7)
    | (go_at_call 11; refine R8.mono ?_; rintro e w9 ⟨ax, mx, cx, rfl, h9⟩; have M9 := HM.out p y ax mx cx w9 h9.out; clear h9 HM R8)
    | (go_at_call 12; refine M9.mono ?_; rintro e w10 ⟨an, cn, rfl, h10⟩; have HF := h10.out; clear h10 M9
       have q1 := fin_conv HF
       have q2 := arg_conv HF.1 HAA.out
       have q3 := arg_conv HF.1 HBB.out
       have HEN : Hid (Below w.heap.size w w10) := HF.1
       clear HF))
  go_quiet (fail)
  go_wp2
  first | exact bodyPost_ret (v := .bool true) (by simp [results, Try.results3, go_sem]) rfl ⟨rfl, below_drew HEN.out nq⟩ | (go_ret; exact ⟨by simp, below_drew HEN.out nq⟩)

set_option maxRecDepth 100000 in
set_option maxHeartbeats 8000000 in
theorem keeps_some_neg (a : Option Addr) (c : Nat) (la lb : Tx) (k : Int) (w : World) (ha : ArgB w (.slice a la.length c) la) (ad : Addr) (c2 : Nat) (hb : ArgB w (.slice (some ad) lb.length c2) lb) (h0 : k < 0) (hL : la.length ≤ 30000) (hM : lb.length ≤ 30000) (hk : I64 k) :
    Calls Try.prog 3 #[.slice a la.length c, .slice (some ad) lb.length c2, .int .i64 k] w fun e w' => e = .returned (.bool true) ∧ Below w.heap.size w w' := by
  have N := st_new w
  have HC : Hid (∀ p wi, St w p [] [] 0 [] wi → Calls Try.prog 6 #[.pointer (some ⟨p, 0, none⟩), .string ⟨#[97]⟩] wi fun e w' => e = .returned .nilIface ∧ ∃ g, Hid (St w p [(aN, g)] [] 1 [⟨g, .slice none 0 0, [], 0⟩] w')) := fun p wi h => by
    refine (st_create aN h (by decide) (short1 _) ⟨by omega, by omega⟩ (by simp) rfl).mono ?_
    rintro e w' ⟨rfl, g, h'⟩
    exact ⟨rfl, g, h'⟩
  have HA : Hid (∀ p g wi, St w p [(aN, g)] [] 1 [⟨g, .slice none 0 0, [], 0⟩] wi → Calls Try.prog 7 #[.pointer (some ⟨p, 0, none⟩), .string ⟨#[97]⟩, .slice a la.length c] wi fun e w' => e = .returned .nilIface ∧ ∃ v, Hid (St w p [(aN, g)] [] 2 [⟨g, v, la, 0⟩] w')) := fun p g wi h => by
    refine (st_append aN _ la h (by decide) (short1 _) ⟨by omega, by omega⟩ _ (List.mem_singleton.2 rfl) (fk_a g) (ha.below h.1) (by show 0 + la.length ≤ 60000; omega)).mono ?_
    rintro e w' ⟨rfl, v', h'⟩
    rw [upd_one1] at h'
    exact ⟨rfl, v', h'⟩
  have HS : Hid (∀ p g v wi, St w p [(aN, g)] [] 2 [⟨g, v, la, 0⟩] wi → Calls Try.prog 8 #[.pointer (some ⟨p, 0, none⟩), .string ⟨#[97]⟩] wi fun e w' => e = .returned .nilIface ∧ Hid (St w p [(aN, g)] [] 3 [⟨g, v, la, la.length⟩] w')) := fun p g v wi h => by
    refine (st_sync aN h (by decide) (short1 _) ⟨by omega, by omega⟩ _ (List.mem_singleton.2 rfl) (fk_a _)).mono ?_
    rintro e w' ⟨rfl, h'⟩
    rw [upd_one1] at h'
    exact ⟨rfl, h'⟩
  have HN : Hid (∀ p g v wi, St w p [(aN, g)] [] 3 [⟨g, v, la, la.length⟩] wi → Calls Try.prog 9 #[.pointer (some ⟨p, 0, none⟩)] wi fun e w' => e = .returned .nilIface ∧ Hid (Sa w p g v la 4 w')) := fun p g v wi h => by
    refine (st_syncN h ⟨by omega, by omega⟩).mono ?_
    rintro e w' ⟨rfl, h'⟩
    exact ⟨rfl, h'⟩
  have HB : Hid (∀ p g v wi, Sa w p g v la 4 wi → Calls Try.prog 7 #[.pointer (some ⟨p, 0, none⟩), .string ⟨#[97]⟩, .slice (some ad) lb.length c2] wi fun e w' => e = .returned .nilIface ∧ ∃ v, Hid (St w p [(aN, g)] [(aN, g)] 5 [⟨g, v, la ++ lb, la.length⟩] w')) := fun p g v wi h => by
    refine (st_append aN _ lb h (by decide) (short1 _) ⟨by omega, by omega⟩ _ (List.mem_singleton.2 rfl) (fk_a g) (hb.below h.1) (by show la.length + lb.length ≤ 60000; omega)).mono ?_
    rintro e w' ⟨rfl, v', h'⟩
    rw [upd_one1] at h'
    exact ⟨rfl, v', h'⟩
  have HD : Hid (∀ p g v wi, St w p [(aN, g)] [(aN, g)] 5 [⟨g, v, la ++ lb, la.length⟩] wi → Calls Try.prog 6 #[.pointer (some ⟨p, 0, none⟩), .string ⟨#[98]⟩] wi fun e w' => e = .returned .nilIface ∧ ∃ g2, Hid (St w p [(aN, g), (bN, g2)] [(aN, g)] 6 [⟨g, v, la ++ lb, la.length⟩, ⟨g2, .slice none 0 0, [], 0⟩] w')) := fun p g v wi h => by
    refine (st_create bN h (by decide) (short1 _) ⟨by omega, by omega⟩ (by simp) (fk_b g)).mono ?_
    rintro e w' ⟨rfl, g2, h'⟩
    exact ⟨rfl, g2, h'⟩
  have HX : Hid (∀ p g g2 v wi, St w p [(aN, g), (bN, g2)] [(aN, g)] 6 [⟨g, v, la ++ lb, la.length⟩, ⟨g2, .slice none 0 0, [], 0⟩] wi → Calls Try.prog 10 #[.pointer (some ⟨p, 0, none⟩), .int .i64 k] wi fun e w' => e = .returned (.tuple #[]) ∧ ∃ y, Hid (St w p [(aN, y.g)] [(aN, y.g)] 0 [y] w' ∧ y.bs = la ++ lb.take (cutK k lb))) := fun p g g2 v wi h => by
    refine (st_crash k h hk (by simp)).mono ?_
    rintro e w' ⟨rfl, E, h', hp, hm⟩
    obtain ⟨y, rfl, hy⟩ := one_rest hp hm (x := ⟨g, v, la ++ lb, la.length⟩) (by simp) rfl
    exact ⟨rfl, y, h', by rw [hy]; exact lft_two k g v la lb⟩
  have HR : Hid (∀ p y wi, (St w p [(aN, y.g)] [(aN, y.g)] 0 [y] wi ∧ y.bs = la ++ lb.take (cutK k lb)) → Calls Try.prog 11 #[.pointer (some ⟨p, 0, none⟩), .string ⟨#[97]⟩] wi fun e w' => ∃ ax mx cx, e = .returned (.tuple #[.slice ax mx cx, .nilIface]) ∧ Hid (St w p [(aN, y.g)] [(aN, y.g)] 0 [y] w' ∧ ArgB w' (.slice ax mx cx) (la ++ lb.take (cutK k lb)))) := fun p y wi h => by
    refine (st_read aN h.1 (by decide) (short1 _) y (List.mem_singleton.2 rfl) (fk_a _)).mono ?_
    rintro e w' ⟨ax, mx, cx, rfl, h', r, hl⟩
    exact ⟨ax, mx, cx, rfl, h', h.2 ▸ row_arg r hl⟩
  have HM : Hid (∀ p y ax mx cx wi, (St w p [(aN, y.g)] [(aN, y.g)] 0 [y] wi ∧ ArgB wi (.slice ax mx cx) (la ++ lb.take (cutK k lb))) → Calls Try.prog 12 #[.pointer (some ⟨p, 0, none⟩)] wi fun e w' => ∃ an cn, e = .returned (.slice an 1 cn) ∧ Hid (Fin w (la ++ lb.take (cutK k lb)) ax mx cx w')) := fun p y ax mx cx wi h => by
    refine (st_names h.1 (by simp)).mono ?_
    rintro e w' ⟨an, cn, rfl, hb', h'⟩
    exact ⟨an, cn, rfl, h'.1, h.2.below hb'⟩
  have g1 : ¬ (30000 : Int) < la.length := by omega
  have g2 : ¬ (30000 : Int) < (lb.length : Int) := by omega
  have hcut : cutK k lb = 0 := by unfold cutK; omega
  have HAA : Hid (ArgB w (.slice a la.length c) la) := ha
  have HBB : Hid (ArgB w (.slice (some ad) (0) c2) (lb.take (0))) := hb.take _ (by omega) (by simp)
  have hcap : lb.length ≤ c2 := by obtain ⟨⟨_, _, e, h, _⟩, _⟩ := hb; obtain ⟨_, _, rfl⟩ := Value.slice.inj e; exact h
  rw [hcut] at HX HR HM
  have hadd := add_texts la (lb.take (0)) _ rfl (by omega) (by rw [List.length_take]; omega)
  generalize la ++ lb.take (0) = T at *
  generalize lb.take (0) = B at *
  have g4 : ¬ (lb.length : Int) < 0 := by omega
  have g5 : (0 : Int) ≤ c2 := by omega
  clear ha hb hL hM hk hcut hcap
  go_enter Try.func3, Try.ntmps3
  go_wp2_with (first
    | (go_at_call 5; refine N.mono ?_; rintro e w1 ⟨p, rfl, h1⟩; have C1 := HC.out p w1 h1; clear h1 HC N)
    | (go_at_call 6; refine C1.mono ?_; rintro e w2 ⟨rfl, g, h2⟩; have A1 := HA.out p g w2 h2.out; clear h2 HA C1)
    | (go_at_call 7; refine A1.mono ?_; rintro e w3 ⟨rfl, v3, h3⟩; have S1 := HS.out p g v3 w3 h3.out; clear h3 HS A1)
    | (go_at_call 8; refine S1.mono ?_; rintro e w4 ⟨rfl, h4⟩; have N4 := HN.out p g v3 w4 h4.out; clear h4 HN S1)
    | (go_at_call 9; refine N4.mono ?_; rintro e w5 ⟨rfl, h5⟩; have B5 := HB.out p g v3 w5 h5.out; clear h5 HB N4)
    | (go_at_call 7; refine B5.mono ?_; rintro e w6 ⟨rfl, v6, h6⟩; have D6 := HD.out p g v6 w6 h6.out; clear h6 HD B5)
    | (go_at_call 6; refine D6.mono ?_; rintro e w7 ⟨rfl, g7, h7⟩; have X7 := HX.out p g g7 v6 w7 h7.out; clear h7 HX D6)
    | (go_at_call 10; refine X7.mono ?_; rintro e w8 ⟨rfl, y, h8⟩; have R8 := HR.out p y w8 h8.out; clear h8 HR X7)
    | (go_at_call 11; refine R8.mono ?_; rintro e w9 ⟨ax, mx, cx, rfl, h9⟩; have M9 := HM.out p y ax mx cx w9 h9.out; clear h9 HM R8)
    | (go_at_call 12; refine M9.mono ?_; rintro e w10 ⟨an, cn, rfl, h10⟩; have HF := h10.out; clear h10 M9
       have q1 := fin_conv HF
       have q2 := arg_conv HF.1 HAA.out
       have q3 := arg_conv HF.1 HBB.out
       have HEN : Hid (Below w.heap.size w w10) := HF.1
       clear HF))
  go_quiet (fail)
  go_wp2
  first | exact bodyPost_ret (v := .bool true) (by simp [results, Try.results3, go_sem]) rfl ⟨rfl, below_drew HEN.out nq⟩ | (go_ret; exact ⟨by simp, below_drew HEN.out nq⟩)

set_option maxRecDepth 100000 in
set_option maxHeartbeats 8000000 in
theorem keeps_some_mid (a : Option Addr) (c : Nat) (la lb : Tx) (k : Int) (w : World) (ha : ArgB w (.slice a la.length c) la) (ad : Addr) (c2 : Nat) (hb : ArgB w (.slice (some ad) lb.length c2) lb) (m : Nat) (h0 : k = m) (h1 : m ≤ lb.length) (hL : la.length ≤ 30000) (hM : lb.length ≤ 30000) (hk : I64 k) :
    Calls Try.prog 3 #[.slice a la.length c, .slice (some ad) lb.length c2, .int .i64 k] w fun e w' => e = .returned (.bool true) ∧ Below w.heap.size w w' := by
  have N := st_new w
  have HC : Hid (∀ p wi, St w p [] [] 0 [] wi → Calls Try.prog 6 #[.pointer (some ⟨p, 0, none⟩), .string ⟨#[97]⟩] wi fun e w' => e = .returned .nilIface ∧ ∃ g, Hid (St w p [(aN, g)] [] 1 [⟨g, .slice none 0 0, [], 0⟩] w')) := fun p wi h => by
    refine (st_create aN h (by decide) (short1 _) ⟨by omega, by omega⟩ (by simp) rfl).mono ?_
    rintro e w' ⟨rfl, g, h'⟩
    exact ⟨rfl, g, h'⟩
  have HA : Hid (∀ p g wi, St w p [(aN, g)] [] 1 [⟨g, .slice none 0 0, [], 0⟩] wi → Calls Try.prog 7 #[.pointer (some ⟨p, 0, none⟩), .string ⟨#[97]⟩, .slice a la.length c] wi fun e w' => e = .returned .nilIface ∧ ∃ v, Hid (St w p [(aN, g)] [] 2 [⟨g, v, la, 0⟩] w')) := fun p g wi h => by
    refine (st_append aN _ la h (by decide) (short1 _) ⟨by omega, by omega⟩ _ (List.mem_singleton.2 rfl) (fk_a g) (ha.below h.1) (by show 0 + la.length ≤ 60000; omega)).mono ?_
    rintro e w' ⟨rfl, v', h'⟩
    rw [upd_one1] at h'
    exact ⟨rfl, v', h'⟩
  have HS : Hid (∀ p g v wi, St w p [(aN, g)] [] 2 [⟨g, v, la, 0⟩] wi → Calls Try.prog 8 #[.pointer (some ⟨p, 0, none⟩), .string ⟨#[97]⟩] wi fun e w' => e = .returned .nilIface ∧ Hid (St w p [(aN, g)] [] 3 [⟨g, v, la, la.length⟩] w')) := fun p g v wi h => by
    refine (st_sync aN h (by decide) (short1 _) ⟨by omega, by omega⟩ _ (List.mem_singleton.2 rfl) (fk_a _)).mono ?_
    rintro e w' ⟨rfl, h'⟩
    rw [upd_one1] at h'
    exact ⟨rfl, h'⟩
  have HN : Hid (∀ p g v wi, St w p [(aN, g)] [] 3 [⟨g, v, la, la.length⟩] wi → Calls Try.prog 9 #[.pointer (some ⟨p, 0, none⟩)] wi fun e w' => e = .returned .nilIface ∧ Hid (Sa w p g v la 4 w')) := fun p g v wi h => by
    refine (st_syncN h ⟨by omega, by omega⟩).mono ?_
    rintro e w' ⟨rfl, h'⟩
    exact ⟨rfl, h'⟩
  have HB : Hid (∀ p g v wi, Sa w p g v la 4 wi → Calls Try.prog 7 #[.pointer (some ⟨p, 0, none⟩), .string ⟨#[97]⟩, .slice (some ad) lb.length c2] wi fun e w' => e = .returned .nilIface ∧ ∃ v, Hid (St w p [(aN, g)] [(aN, g)] 5 [⟨g, v, la ++ lb, la.length⟩] w')) := fun p g v wi h => by
    refine (st_append aN _ lb h (by decide) (short1 _) ⟨by omega, by omega⟩ _ (List.mem_singleton.2 rfl) (fk_a g) (hb.below h.1) (by show la.length + lb.length ≤ 60000; omega)).mono ?_
    rintro e w' ⟨rfl, v', h'⟩
    rw [upd_one1] at h'
    exact ⟨rfl, v', h'⟩
  have HD : Hid (∀ p g v wi, St w p [(aN, g)] [(aN, g)] 5 [⟨g, v, la ++ lb, la.length⟩] wi → Calls Try.prog 6 #[.pointer (some ⟨p, 0, none⟩), .string ⟨#[98]⟩] wi fun e w' => e = .returned .nilIface ∧ ∃ g2, Hid (St w p [(aN, g), (bN, g2)] [(aN, g)] 6 [⟨g, v, la ++ lb, la.length⟩, ⟨g2, .slice none 0 0, [], 0⟩] w')) := fun p g v wi h => by
    refine (st_create bN h (by decide) (short1 _) ⟨by omega, by omega⟩ (by simp) (fk_b g)).mono ?_
    rintro e w' ⟨rfl, g2, h'⟩
    exact ⟨rfl, g2, h'⟩
  have HX : Hid (∀ p g g2 v wi, St w p [(aN, g), (bN, g2)] [(aN, g)] 6 [⟨g, v, la ++ lb, la.length⟩, ⟨g2, .slice none 0 0, [], 0⟩] wi → Calls Try.prog 10 #[.pointer (some ⟨p, 0, none⟩), .int .i64 k] wi fun e w' => e = .returned (.tuple #[]) ∧ ∃ y, Hid (St w p [(aN, y.g)] [(aN, y.g)] 0 [y] w' ∧ y.bs = la ++ lb.take (cutK k lb))) := fun p g g2 v wi h => by
    refine (st_crash k h hk (by simp)).mono ?_
    rintro e w' ⟨rfl, E, h', hp, hm⟩
    obtain ⟨y, rfl, hy⟩ := one_rest hp hm (x := ⟨g, v, la ++ lb, la.length⟩) (by simp) rfl
    exact ⟨rfl, y, h', by rw [hy]; exact lft_two k g v la lb⟩
  have HR : Hid (∀ p y wi, (St w p [(aN, y.g)] [(aN, y.g)] 0 [y] wi ∧ y.bs = la ++ lb.take (cutK k lb)) → Calls Try.prog 11 #[.pointer (some ⟨p, 0, none⟩), .string ⟨#[97]⟩] wi fun e w' => ∃ ax mx cx, e = .returned (.tuple #[.slice ax mx cx, .nilIface]) ∧ Hid (St w p [(aN, y.g)] [(aN, y.g)] 0 [y] w' ∧ ArgB w' (.slice ax mx cx) (la ++ lb.take (cutK k lb)))) := fun p y wi h => by
    refine (st_read aN h.1 (by decide) (short1 _) y (List.mem_singleton.2 rfl) (fk_a _)).mono ?_
    rintro e w' ⟨ax, mx, cx, rfl, h', r, hl⟩
    exact ⟨ax, mx, cx, rfl, h', h.2 ▸ row_arg r hl⟩
  have HM : Hid (∀ p y ax mx cx wi, (St w p [(aN, y.g)] [(aN, y.g)] 0 [y] wi ∧ ArgB wi (.slice ax mx cx) (la ++ lb.take (cutK k lb))) → Calls Try.prog 12 #[.pointer (some ⟨p, 0, none⟩)] wi fun e w' => ∃ an cn, e = .returned (.slice an 1 cn) ∧ Hid (Fin w (la ++ lb.take (cutK k lb)) ax mx cx w')) := fun p y ax mx cx wi h => by
    refine (st_names h.1 (by simp)).mono ?_
    rintro e w' ⟨an, cn, rfl, hb', h'⟩
    exact ⟨an, cn, rfl, h'.1, h.2.below hb'⟩
  have g1 : ¬ (30000 : Int) < la.length := by omega
  have g2 : ¬ (30000 : Int) < (lb.length : Int) := by omega
  have hcut : cutK k lb = m := by unfold cutK; omega
  have HAA : Hid (ArgB w (.slice a la.length c) la) := ha
  have HBB : Hid (ArgB w (.slice (some ad) (m) c2) (lb.take (m))) := hb.take _ (by omega) (by simp)
  have hcap : lb.length ≤ c2 := by obtain ⟨⟨_, _, e, h, _⟩, _⟩ := hb; obtain ⟨_, _, rfl⟩ := Value.slice.inj e; exact h
  rw [hcut] at HX HR HM
  have hadd := add_texts la (lb.take (m)) _ rfl (by omega) (by rw [List.length_take]; omega)
  generalize la ++ lb.take (m) = T at *
  generalize lb.take (m) = B at *
  subst h0
  have g3 : ¬ (m : Int) < 0 := by omega
  have g4 : ¬ (lb.length : Int) < (m : Int) := by omega
  have g5 : (m : Int) ≤ c2 := by omega
  clear ha hb hL hM hk hcut hcap
  go_enter Try.func3, Try.ntmps3
  go_wp2_with (first
    | (go_at_call 5; refine N.mono ?_; rintro e w1 ⟨p, rfl, h1⟩; have C1 := HC.out p w1 h1; clear h1 HC N)
    | (go_at_call 6; refine C1.mono ?_; rintro e w2 ⟨rfl, g, h2⟩; have A1 := HA.out p g w2 h2.out; clear h2 HA C1)
    | (go_at_call 7; refine A1.mono ?_; rintro e w3 ⟨rfl, v3, h3⟩; have S1 := HS.out p g v3 w3 h3.out; clear h3 HS A1)
    | (go_at_call 8; refine S1.mono ?_; rintro e w4 ⟨rfl, h4⟩; have N4 := HN.out p g v3 w4 h4.out; clear h4 HN S1)
    | (go_at_call 9; refine N4.mono ?_; rintro e w5 ⟨rfl, h5⟩; have B5 := HB.out p g v3 w5 h5.out; clear h5 HB N4)
    | (go_at_call 7; refine B5.mono ?_; rintro e w6 ⟨rfl, v6, h6⟩; have D6 := HD.out p g v6 w6 h6.out; clear h6 HD B5)
    | (go_at_call 6; refine D6.mono ?_; rintro e w7 ⟨rfl, g7, h7⟩; have X7 := HX.out p g g7 v6 w7 h7.out; clear h7 HX D6)
    | (go_at_call 10; refine X7.mono ?_; rintro e w8 ⟨rfl, y, h8⟩; have R8 := HR.out p y w8 h8.out; clear h8 HR X7)
    | (go_at_call 11; refine R8.mono ?_; rintro e w9 ⟨ax, mx, cx, rfl, h9⟩; have M9 := HM.out p y ax mx cx w9 h9.out; clear h9 HM R8)
    | (go_at_call 12; refine M9.mono ?_; rintro e w10 ⟨an, cn, rfl, h10⟩; have HF := h10.out; clear h10 M9
       have q1 := fin_conv HF
       have q2 := arg_conv HF.1 HAA.out
       have q3 := arg_conv HF.1 HBB.out
       have HEN : Hid (Below w.heap.size w w10) := HF.1
       clear HF))
  go_quiet (fail)
  go_wp2
  first | exact bodyPost_ret (v := .bool true) (by simp [results, Try.results3, go_sem]) rfl ⟨rfl, below_drew HEN.out nq⟩ | (go_ret; exact ⟨by simp, below_drew HEN.out nq⟩)

set_option maxRecDepth 100000 in
set_option maxHeartbeats 8000000 in
theorem keeps_some_over (a : Option Addr) (c : Nat) (la lb : Tx) (k : Int) (w : World) (ha : ArgB w (.slice a la.length c) la) (ad : Addr) (c2 : Nat) (hb : ArgB w (.slice (some ad) lb.length c2) lb) (h0 : (lb.length : Int) < k) (hL : la.length ≤ 30000) (hM : lb.length ≤ 30000) (hk : I64 k) :
    Calls Try.prog 3 #[.slice a la.length c, .slice (some ad) lb.length c2, .int .i64 k] w fun e w' => e = .returned (.bool true) ∧ Below w.heap.size w w' := by
  have N := st_new w
  have HC : Hid (∀ p wi, St w p [] [] 0 [] wi → Calls Try.prog 6 #[.pointer (some ⟨p, 0, none⟩), .string ⟨#[97]⟩] wi fun e w' => e = .returned .nilIface ∧ ∃ g, Hid (St w p [(aN, g)] [] 1 [⟨g, .slice none 0 0, [], 0⟩] w')) := fun p wi h => by
    refine (st_create aN h (by decide) (short1 _) ⟨by omega, by omega⟩ (by simp) rfl).mono ?_
    rintro e w' ⟨rfl, g, h'⟩
    exact ⟨rfl, g, h'⟩
  have HA : Hid (∀ p g wi, St w p [(aN, g)] [] 1 [⟨g, .slice none 0 0, [], 0⟩] wi → Calls Try.prog 7 #[.pointer (some ⟨p, 0, none⟩), .string ⟨#[97]⟩, .slice a la.length c] wi fun e w' => e = .returned .nilIface ∧ ∃ v, Hid (St w p [(aN, g)] [] 2 [⟨g, v, la, 0⟩] w')) := fun p g wi h => by
    refine (st_append aN _ la h (by decide) (short1 _) ⟨by omega, by omega⟩ _ (List.mem_singleton.2 rfl) (fk_a g) (ha.below h.1) (by show 0 + la.length ≤ 60000; omega)).mono ?_
    rintro e w' ⟨rfl, v', h'⟩
    rw [upd_one1] at h'
    exact ⟨rfl, v', h'⟩
  have HS : Hid (∀ p g v wi, St w p [(aN, g)] [] 2 [⟨g, v, la, 0⟩] wi → Calls Try.prog 8 #[.pointer (some ⟨p, 0, none⟩), .string ⟨#[97]⟩] wi fun e w' => e = .returned .nilIface ∧ Hid (St w p [(aN, g)] [] 3 [⟨g, v, la, la.length⟩] w')) := fun p g v wi h => by
    refine (st_sync aN h (by decide) (short1 _) ⟨by omega, by omega⟩ _ (List.mem_singleton.2 rfl) (fk_a _)).mono ?_
    rintro e w' ⟨rfl, h'⟩
    rw [upd_one1] at h'
    exact ⟨rfl, h'⟩
  have HN : Hid (∀ p g v wi, St w p [(aN, g)] [] 3 [⟨g, v, la, la.length⟩] wi → Calls Try.prog 9 #[.pointer (some ⟨p, 0, none⟩)] wi fun e w' => e = .returned .nilIface ∧ Hid (Sa w p g v la 4 w')) := fun p g v wi h => by
    refine (st_syncN h ⟨by omega, by omega⟩).mono ?_
    rintro e w' ⟨rfl, h'⟩
    exact ⟨rfl, h'⟩
  have HB : Hid (∀ p g v wi, Sa w p g v la 4 wi → Calls Try.prog 7 #[.pointer (some ⟨p, 0, none⟩), .string ⟨#[97]⟩, .slice (some ad) lb.length c2] wi fun e w' => e = .returned .nilIface ∧ ∃ v, Hid (St w p [(aN, g)] [(aN, g)] 5 [⟨g, v, la ++ lb, la.length⟩] w')) := fun p g v wi h => by
    refine (st_append aN _ lb h (by decide) (short1 _) ⟨by omega, by omega⟩ _ (List.mem_singleton.2 rfl) (fk_a g) (hb.below h.1) (by show la.length + lb.length ≤ 60000; omega)).mono ?_
    rintro e w' ⟨rfl, v', h'⟩
    rw [upd_one1] at h'
    exact ⟨rfl, v', h'⟩
  have HD : Hid (∀ p g v wi, St w p [(aN, g)] [(aN, g)] 5 [⟨g, v, la ++ lb, la.length⟩] wi → Calls Try.prog 6 #[.pointer (some ⟨p, 0, none⟩), .string ⟨#[98]⟩] wi fun e w' => e = .returned .nilIface ∧ ∃ g2, Hid (St w p [(aN, g), (bN, g2)] [(aN, g)] 6 [⟨g, v, la ++ lb, la.length⟩, ⟨g2, .slice none 0 0, [], 0⟩] w')) := fun p g v wi h => by
    refine (st_create bN h (by decide) (short1 _) ⟨by omega, by omega⟩ (by simp) (fk_b g)).mono ?_
    rintro e w' ⟨rfl, g2, h'⟩
    exact ⟨rfl, g2, h'⟩
  have HX : Hid (∀ p g g2 v wi, St w p [(aN, g), (bN, g2)] [(aN, g)] 6 [⟨g, v, la ++ lb, la.length⟩, ⟨g2, .slice none 0 0, [], 0⟩] wi → Calls Try.prog 10 #[.pointer (some ⟨p, 0, none⟩), .int .i64 k] wi fun e w' => e = .returned (.tuple #[]) ∧ ∃ y, Hid (St w p [(aN, y.g)] [(aN, y.g)] 0 [y] w' ∧ y.bs = la ++ lb.take (cutK k lb))) := fun p g g2 v wi h => by
    refine (st_crash k h hk (by simp)).mono ?_
    rintro e w' ⟨rfl, E, h', hp, hm⟩
    obtain ⟨y, rfl, hy⟩ := one_rest hp hm (x := ⟨g, v, la ++ lb, la.length⟩) (by simp) rfl
    exact ⟨rfl, y, h', by rw [hy]; exact lft_two k g v la lb⟩
  have HR : Hid (∀ p y wi, (St w p [(aN, y.g)] [(aN, y.g)] 0 [y] wi ∧ y.bs = la ++ lb.take (cutK k lb)) → Calls Try.prog 11 #[.pointer (some ⟨p, 0, none⟩), .string ⟨#[97]⟩] wi fun e w' => ∃ ax mx cx, e = .returned (.tuple #[.slice ax mx cx, .nilIface]) ∧ Hid (St w p [(aN, y.g)] [(aN, y.g)] 0 [y] w' ∧ ArgB w' (.slice ax mx cx) (la ++ lb.take (cutK k lb)))) := fun p y wi h => by
    refine (st_read aN h.1 (by decide) (short1 _) y (List.mem_singleton.2 rfl) (fk_a _)).mono ?_
    rintro e w' ⟨ax, mx, cx, rfl, h', r, hl⟩
    exact ⟨ax, mx, cx, rfl, h', h.2 ▸ row_arg r hl⟩
  have HM : Hid (∀ p y ax mx cx wi, (St w p [(aN, y.g)] [(aN, y.g)] 0 [y] wi ∧ ArgB wi (.slice ax mx cx) (la ++ lb.take (cutK k lb))) → Calls Try.prog 12 #[.pointer (some ⟨p, 0, none⟩)] wi fun e w' => ∃ an cn, e = .returned (.slice an 1 cn) ∧ Hid (Fin w (la ++ lb.take (cutK k lb)) ax mx cx w')) := fun p y ax mx cx wi h => by
    refine (st_names h.1 (by simp)).mono ?_
    rintro e w' ⟨an, cn, rfl, hb', h'⟩
    exact ⟨an, cn, rfl, h'.1, h.2.below hb'⟩
  have g1 : ¬ (30000 : Int) < la.length := by omega
  have g2 : ¬ (30000 : Int) < (lb.length : Int) := by omega
  have hcut : cutK k lb = lb.length := by unfold cutK; omega
  have HAA : Hid (ArgB w (.slice a la.length c) la) := ha
  have HBB : Hid (ArgB w (.slice (some ad) (lb.length) c2) (lb.take (lb.length))) := hb.take _ (by omega) (by simp)
  have hcap : lb.length ≤ c2 := by obtain ⟨⟨_, _, e, h, _⟩, _⟩ := hb; obtain ⟨_, _, rfl⟩ := Value.slice.inj e; exact h
  rw [hcut] at HX HR HM
  have hadd := add_texts la (lb.take (lb.length)) _ rfl (by omega) (by rw [List.length_take]; omega)
  generalize la ++ lb.take (lb.length) = T at *
  generalize lb.take (lb.length) = B at *
  have g3 : ¬ k < 0 := by omega
  have g5 : (lb.length : Int) ≤ c2 := by omega
  clear ha hb hL hM hk hcut hcap
  go_enter Try.func3, Try.ntmps3
  go_wp2_with (first
    | (go_at_call 5; refine N.mono ?_; rintro e w1 ⟨p, rfl, h1⟩; have C1 := HC.out p w1 h1; clear h1 HC N)
    | (go_at_call 6; refine C1.mono ?_; rintro e w2 ⟨rfl, g, h2⟩; have A1 := HA.out p g w2 h2.out; clear h2 HA C1)
    | (go_at_call 7; refine A1.mono ?_; rintro e w3 ⟨rfl, v3, h3⟩; have S1 := HS.out p g v3 w3 h3.out; clear h3 HS A1)
    | (go_at_call 8; refine S1.mono ?_; rintro e w4 ⟨rfl, h4⟩; have N4 := HN.out p g v3 w4 h4.out; clear h4 HN S1)
    | (go_at_call 9; refine N4.mono ?_; rintro e w5 ⟨rfl, h5⟩; have B5 := HB.out p g v3 w5 h5.out; clear h5 HB N4)
    | (go_at_call 7; refine B5.mono ?_; rintro e w6 ⟨rfl, v6, h6⟩; have D6 := HD.out p g v6 w6 h6.out; clear h6 HD B5)
    | (go_at_call 6; refine D6.mono ?_; rintro e w7 ⟨rfl, g7, h7⟩; have X7 := HX.out p g g7 v6 w7 h7.out; clear h7 HX D6)
    | (go_at_call 10; refine X7.mono ?_; rintro e w8 ⟨rfl, y, h8⟩; have R8 := HR.out p y w8 h8.out; clear h8 HR X7)
    | (go_at_call 11; refine R8.mono ?_; rintro e w9 ⟨ax, mx, cx, rfl, h9⟩; have M9 := HM.out p y ax mx cx w9 h9.out; clear h9 HM R8)
    | (go_at_call 12; refine M9.mono ?_; rintro e w10 ⟨an, cn, rfl, h10⟩; have HF := h10.out; clear h10 M9
       have q1 := fin_conv HF
       have q2 := arg_conv HF.1 HAA.out
       have q3 := arg_conv HF.1 HBB.out
       have HEN : Hid (Below w.heap.size w w10) := HF.1
       clear HF))
  go_quiet (fail)
  go_wp2
  first | exact bodyPost_ret (v := .bool true) (by simp [results, Try.results3, go_sem]) rfl ⟨rfl, below_drew HEN.out nq⟩ | (go_ret; exact ⟨by simp, below_drew HEN.out nq⟩)

end Go.Proofs.Ytcjhopeejimbmaa
