/-
  What is proved: the law DiskNames, called with any bytes, returns true, and nothing that was there has turned.
  Conditions: the arguments lie in memory.
-/
import Derived.Test.YtcjhopeejimbmaaKKeeps
namespace Go.Proofs.Ytcjhopeejimbmaa
open Go.RowKit Go.Maps Go.Sort Go.Shelf

theorem fk_b2 (g h : Nat) : fk [(aN, g), (bN, h)] bN = some h := by simp [fk]
theorem ren_ab (g h : Nat) : renF [(aN, g), (bN, h)] bN aN h = [(aN, h)] := by simp [renF]

/-- What lies in a file once bytes were appended, or were too many. -/
def Aft (l l' : Tx) : Prop := (l.length ≤ 60000 → l' = l) ∧ l'.length ≤ 60000
theorem aft_yes {l : Tx} (h : l.length ≤ 60000) : Aft l l := ⟨fun _ => rfl, h⟩
theorem aft_no {l : Tx} (h : 60000 < l.length) : Aft l [] := ⟨fun h2 => by omega, by simp⟩

theorem st_apart {w wi : World} {p : Nat} {F Z : List (Tx × Nat)} {n : Int} {x z : Fi} (h : St w p F Z n [x, z] wi) : x.g ≠ z.g := by
  obtain ⟨_, _, _, d⟩ := h
  exact ((List.pairwise_cons.1 d.ap).1 z (List.mem_singleton.2 rfl)).1

theorem upd_two1 (x z : Fi) (v : Value) (bs : Tx) (sf : Nat) (h : x.g ≠ z.g) : upd [x, z] ⟨z.g, v, bs, sf⟩ = [x, ⟨z.g, v, bs, sf⟩] := upd_two _ _ _ rfl h

theorem lft_all (g : Nat) (v : Value) (l : Tx) : l.take (lft 0 ⟨g, v, l, l.length⟩) = l := by
  have : lft 0 ⟨g, v, l, l.length⟩ = l.length := by unfold lft; simp
  rw [this, List.take_length]

set_option maxRecDepth 100000 in
set_option maxHeartbeats 8000000 in
theorem names_long (a a2 : Option Addr) (c c2 : Nat) (la lb : Tx) (w : World) (ha : ArgB w (.slice a la.length c) la) (hb : ArgB w (.slice a2 lb.length c2) lb) (hL : 50000 < la.length) :
    Calls Try.prog 4 #[.slice a la.length c, .slice a2 lb.length c2] w fun e w' => e = .returned (.bool true) ∧ Below w.heap.size w w' := by
  have N := st_new w
  have HC : Hid (∀ p wi, St w p [] [] 0 [] wi → Calls Try.prog 6 #[.pointer (some ⟨p, 0, none⟩), .string ⟨#[97]⟩] wi fun e w' => e = .returned .nilIface ∧ ∃ g, Hid (St w p [(aN, g)] [] 1 [⟨g, .slice none 0 0, [], 0⟩] w')) := fun p wi h => by
    refine (st_create aN h (by decide) (short1 _) ⟨by omega, by omega⟩ (by simp) rfl).mono ?_
    rintro e w' ⟨rfl, g, h'⟩
    exact ⟨rfl, g, h'⟩
  have HA : Hid (∀ p g wi, St w p [(aN, g)] [] 1 [⟨g, .slice none 0 0, [], 0⟩] wi → Calls Try.prog 7 #[.pointer (some ⟨p, 0, none⟩), .string ⟨#[97]⟩, .slice a la.length c] wi fun e w' => ∃ r v l n, e = .returned r ∧ Hid (St w p [(aN, g)] [] n [⟨g, v, l, 0⟩] w' ∧ (0 ≤ n ∧ n < 10) ∧ Aft la l)) := fun p g wi h => by
    by_cases hl : la.length ≤ 60000
    · refine (st_append aN _ la h (by decide) (short1 _) ⟨by omega, by omega⟩ _ (List.mem_singleton.2 rfl) (fk_a g) (ha.below h.1) (by show 0 + la.length ≤ 60000; omega)).mono ?_
      rintro e w' ⟨rfl, v', h'⟩
      rw [upd_one1] at h'
      exact ⟨_, v', la, _, rfl, h', ⟨by omega, by omega⟩, aft_yes hl⟩
    · refine (st_appendF aN _ la h (by decide) (short1 _) _ (List.mem_singleton.2 rfl) (fk_a g) (ha.below h.1) (by show 60000 < 0 + la.length; omega)).mono ?_
      rintro e w' ⟨rfl, h'⟩
      exact ⟨_, _, [], _, rfl, h', ⟨by omega, by omega⟩, aft_no (by omega)⟩
  have HS : Hid (∀ p g v l n wi, (0 ≤ n ∧ n < 10) → St w p [(aN, g)] [] n [⟨g, v, l, 0⟩] wi → Calls Try.prog 8 #[.pointer (some ⟨p, 0, none⟩), .string ⟨#[97]⟩] wi fun e w' => e = .returned .nilIface ∧ Hid (St w p [(aN, g)] [] (n + 1) [⟨g, v, l, l.length⟩] w')) := fun p g v l n wi hn h => by
    refine (st_sync aN h (by decide) (short1 _) ⟨by omega, by omega⟩ _ (List.mem_singleton.2 rfl) (fk_a _)).mono ?_
    rintro e w' ⟨rfl, h'⟩
    rw [upd_one1] at h'
    exact ⟨rfl, h'⟩
  have HN : Hid (∀ p g v l n wi, (0 ≤ n ∧ n < 10) → St w p [(aN, g)] [] (n + 1) [⟨g, v, l, l.length⟩] wi → Calls Try.prog 9 #[.pointer (some ⟨p, 0, none⟩)] wi fun e w' => e = .returned .nilIface ∧ Hid (St w p [(aN, g)] [(aN, g)] (n + 1 + 1) [⟨g, v, l, l.length⟩] w')) := fun p g v l n wi hn h => by
    refine (st_syncN h ⟨by omega, by omega⟩).mono ?_
    rintro e w' ⟨rfl, h'⟩
    exact ⟨rfl, h'⟩
  have HD : Hid (∀ p g v l n wi, (0 ≤ n ∧ n < 10) → St w p [(aN, g)] [(aN, g)] (n + 1 + 1) [⟨g, v, l, l.length⟩] wi → Calls Try.prog 6 #[.pointer (some ⟨p, 0, none⟩), .string ⟨#[98]⟩] wi fun e w' => e = .returned .nilIface ∧ ∃ h, Hid (St w p [(aN, g), (bN, h)] [(aN, g)] (n + 1 + 1 + 1) [⟨g, v, l, l.length⟩, ⟨h, .slice none 0 0, [], 0⟩] w')) := fun p g v l n wi hn h => by
    refine (st_create bN h (by decide) (short1 _) ⟨by omega, by omega⟩ (by simp) (fk_b g)).mono ?_
    rintro e w' ⟨rfl, h2, h'⟩
    exact ⟨rfl, h2, h'⟩
  have HB : Hid (∀ p g v l n h wi, (0 ≤ n ∧ n < 10) → St w p [(aN, g), (bN, h)] [(aN, g)] (n + 1 + 1 + 1) [⟨g, v, l, l.length⟩, ⟨h, .slice none 0 0, [], 0⟩] wi → Calls Try.prog 7 #[.pointer (some ⟨p, 0, none⟩), .string ⟨#[98]⟩, .slice a2 lb.length c2] wi fun e w' => ∃ r u k m, e = .returned r ∧ Hid (St w p [(aN, g), (bN, h)] [(aN, g)] m [⟨g, v, l, l.length⟩, ⟨h, u, k, 0⟩] w' ∧ (0 ≤ m ∧ m < 20) ∧ Aft lb k)) := fun p g v l n h wi hn hs => by
    by_cases hl : lb.length ≤ 60000
    · refine (st_append bN _ lb hs (by decide) (short1 _) ⟨by omega, by omega⟩ ⟨h, .slice none 0 0, [], 0⟩ (by simp) (fk_b2 g h) (hb.below hs.1) (by show 0 + lb.length ≤ 60000; omega)).mono ?_
      rintro e w' ⟨rfl, v', h'⟩
      have hne := st_apart hs
      rw [upd_two1 _ _ _ _ _ hne] at h'
      exact ⟨_, v', lb, _, rfl, h', ⟨by omega, by omega⟩, aft_yes hl⟩
    · refine (st_appendF bN _ lb hs (by decide) (short1 _) ⟨h, .slice none 0 0, [], 0⟩ (by simp) (fk_b2 g h) (hb.below hs.1) (by show 60000 < 0 + lb.length; omega)).mono ?_
      rintro e w' ⟨rfl, h'⟩
      exact ⟨_, _, [], _, rfl, h', ⟨by omega, by omega⟩, aft_no (by omega)⟩
  have HT : Hid (∀ p g v l h u k m wi, (0 ≤ m ∧ m < 20) → St w p [(aN, g), (bN, h)] [(aN, g)] m [⟨g, v, l, l.length⟩, ⟨h, u, k, 0⟩] wi → Calls Try.prog 8 #[.pointer (some ⟨p, 0, none⟩), .string ⟨#[98]⟩] wi fun e w' => e = .returned .nilIface ∧ Hid (St w p [(aN, g), (bN, h)] [(aN, g)] (m + 1) [⟨g, v, l, l.length⟩, ⟨h, u, k, k.length⟩] w')) := fun p g v l h u k m wi hm hs => by
    refine (st_sync bN hs (by decide) (short1 _) ⟨by omega, by omega⟩ ⟨h, u, k, 0⟩ (by simp) (fk_b2 g h)).mono ?_
    rintro e w' ⟨rfl, h'⟩
    have hne := st_apart hs
    rw [upd_two1 _ _ _ _ _ hne] at h'
    exact ⟨rfl, h'⟩
  have HR : Hid (∀ p g v l h u k m wi, (0 ≤ m ∧ m < 20) → St w p [(aN, g), (bN, h)] [(aN, g)] (m + 1) [⟨g, v, l, l.length⟩, ⟨h, u, k, k.length⟩] wi → Calls Try.prog 13 #[.pointer (some ⟨p, 0, none⟩), .string ⟨#[98]⟩, .string ⟨#[97]⟩] wi fun e w' => e = .returned .nilIface ∧ Hid (St w p [(aN, h)] [(aN, g)] (m + 1 + 1) [⟨g, v, l, l.length⟩, ⟨h, u, k, k.length⟩] w')) := fun p g v l h u k m wi hm hs => by
    refine (st_rename bN aN h hs (by decide) (by decide) (short1 _) (short1 _) ⟨by omega, by omega⟩ (by simp) (fk_b2 g h)).mono ?_
    rintro e w' ⟨rfl, h'⟩
    rw [ren_ab] at h'
    exact ⟨rfl, h'⟩
  have HE : Hid (∀ p g v l h u k m wi, St w p [(aN, h)] [(aN, g)] (m + 1 + 1) [⟨g, v, l, l.length⟩, ⟨h, u, k, k.length⟩] wi → Calls Try.prog 11 #[.pointer (some ⟨p, 0, none⟩), .string ⟨#[97]⟩] wi fun e w' => ∃ ax mx cx, e = .returned (.tuple #[.slice ax mx cx, .nilIface]) ∧ Hid (St w p [(aN, h)] [(aN, g)] (m + 1 + 1) [⟨g, v, l, l.length⟩, ⟨h, u, k, k.length⟩] w' ∧ ArgB w' (.slice ax mx cx) k)) := fun p g v l h u k m wi hs => by
    refine (st_read aN hs (by decide) (short1 _) ⟨h, u, k, k.length⟩ (by simp) (fk_a _)).mono ?_
    rintro e w' ⟨ax, mx, cx, rfl, h', r, hl⟩
    exact ⟨ax, mx, cx, rfl, h', row_arg r hl⟩
  have g1 : (50000 : Int) < la.length := by omega
  clear ha hb hL
  go_enter Try.func4, Try.ntmps4
  go_wp2_with (first
    | (go_at_call 5; refine N.mono ?_; rintro e w1 ⟨p, rfl, h1⟩; have C1 := HC.out p w1 h1; clear h1 HC N)
    | (go_at_call 6; refine C1.mono ?_; rintro e w2 ⟨rfl, g, h2⟩; have A1 := HA.out p g w2 h2.out; clear h2 HA C1)
    | (go_at_call 7; refine A1.mono ?_; rintro e w3 ⟨r3, v3, l3, n3, rfl, h3⟩; have HN3 : Hid (0 ≤ n3 ∧ n3 < 10) := h3.out.2.1; have HL3 : Hid (Aft la l3) := h3.out.2.2; have S1 := HS.out p g v3 l3 n3 w3 HN3.out h3.out.1; clear h3 HS A1)
    | (go_at_call 8; refine S1.mono ?_; rintro e w4 ⟨rfl, h4⟩; have N4 := HN.out p g v3 l3 n3 w4 HN3.out h4.out; clear h4 HN S1)
    | (go_at_call 9; refine N4.mono ?_; rintro e w5 ⟨rfl, h5⟩; have D5 := HD.out p g v3 l3 n3 w5 HN3.out h5.out; clear h5 HD N4)
    | (go_at_call 6; refine D5.mono ?_; rintro e w6 ⟨rfl, gh, h6⟩; have B6 := HB.out p g v3 l3 n3 gh w6 HN3.out h6.out; clear h6 HB D5)
    | (go_at_call 7; refine B6.mono ?_; rintro e w7 ⟨r7, v7, l7, n7, rfl, h7⟩; have HN7 : Hid (0 ≤ n7 ∧ n7 < 20) := h7.out.2.1; have HL7 : Hid (Aft lb l7) := h7.out.2.2; have T7 := HT.out p g v3 l3 gh v7 l7 n7 w7 HN7.out h7.out.1; clear h7 HT B6)
    | (go_at_call 8; refine T7.mono ?_; rintro e w8 ⟨rfl, h8⟩; have R8 := HR.out p g v3 l3 gh v7 l7 n7 w8 HN7.out h8.out; clear h8 HR T7)
    | (go_at_call 13; refine R8.mono ?_; rintro e w9 ⟨rfl, h9⟩; have E9 := HE.out p g v3 l3 gh v7 l7 n7 w9 h9.out; clear h9 HE R8)
    | (go_at_call 11; refine E9.mono ?_; rintro e w10 ⟨ax, mx, cx, rfl, h10⟩; have HEN : Hid (Below w.heap.size w w10) := h10.out.1.1; clear h10 E9))
  go_ret
  exact ⟨rfl, HEN.out⟩

set_option maxRecDepth 100000 in
set_option maxHeartbeats 8000000 in
theorem names_mid (a a2 : Option Addr) (c c2 : Nat) (la lb : Tx) (w : World) (ha : ArgB w (.slice a la.length c) la) (hb : ArgB w (.slice a2 lb.length c2) lb) (hL : la.length ≤ 50000) (hM : 50000 < lb.length) :
    Calls Try.prog 4 #[.slice a la.length c, .slice a2 lb.length c2] w fun e w' => e = .returned (.bool true) ∧ Below w.heap.size w w' := by
  have N := st_new w
  have HC : Hid (∀ p wi, St w p [] [] 0 [] wi → Calls Try.prog 6 #[.pointer (some ⟨p, 0, none⟩), .string ⟨#[97]⟩] wi fun e w' => e = .returned .nilIface ∧ ∃ g, Hid (St w p [(aN, g)] [] 1 [⟨g, .slice none 0 0, [], 0⟩] w')) := fun p wi h => by
    refine (st_create aN h (by decide) (short1 _) ⟨by omega, by omega⟩ (by simp) rfl).mono ?_
    rintro e w' ⟨rfl, g, h'⟩
    exact ⟨rfl, g, h'⟩
  have HA : Hid (∀ p g wi, St w p [(aN, g)] [] 1 [⟨g, .slice none 0 0, [], 0⟩] wi → Calls Try.prog 7 #[.pointer (some ⟨p, 0, none⟩), .string ⟨#[97]⟩, .slice a la.length c] wi fun e w' => ∃ r v l n, e = .returned r ∧ Hid (St w p [(aN, g)] [] n [⟨g, v, l, 0⟩] w' ∧ (0 ≤ n ∧ n < 10) ∧ Aft la l)) := fun p g wi h => by
    by_cases hl : la.length ≤ 60000
    · refine (st_append aN _ la h (by decide) (short1 _) ⟨by omega, by omega⟩ _ (List.mem_singleton.2 rfl) (fk_a g) (ha.below h.1) (by show 0 + la.length ≤ 60000; omega)).mono ?_
      rintro e w' ⟨rfl, v', h'⟩
      rw [upd_one1] at h'
      exact ⟨_, v', la, _, rfl, h', ⟨by omega, by omega⟩, aft_yes hl⟩
    · refine (st_appendF aN _ la h (by decide) (short1 _) _ (List.mem_singleton.2 rfl) (fk_a g) (ha.below h.1) (by show 60000 < 0 + la.length; omega)).mono ?_
      rintro e w' ⟨rfl, h'⟩
      exact ⟨_, _, [], _, rfl, h', ⟨by omega, by omega⟩, aft_no (by omega)⟩
  have HS : Hid (∀ p g v l n wi, (0 ≤ n ∧ n < 10) → St w p [(aN, g)] [] n [⟨g, v, l, 0⟩] wi → Calls Try.prog 8 #[.pointer (some ⟨p, 0, none⟩), .string ⟨#[97]⟩] wi fun e w' => e = .returned .nilIface ∧ Hid (St w p [(aN, g)] [] (n + 1) [⟨g, v, l, l.length⟩] w')) := fun p g v l n wi hn h => by
    refine (st_sync aN h (by decide) (short1 _) ⟨by omega, by omega⟩ _ (List.mem_singleton.2 rfl) (fk_a _)).mono ?_
    rintro e w' ⟨rfl, h'⟩
    rw [upd_one1] at h'
    exact ⟨rfl, h'⟩
  have HN : Hid (∀ p g v l n wi, (0 ≤ n ∧ n < 10) → St w p [(aN, g)] [] (n + 1) [⟨g, v, l, l.length⟩] wi → Calls Try.prog 9 #[.pointer (some ⟨p, 0, none⟩)] wi fun e w' => e = .returned .nilIface ∧ Hid (St w p [(aN, g)] [(aN, g)] (n + 1 + 1) [⟨g, v, l, l.length⟩] w')) := fun p g v l n wi hn h => by
    refine (st_syncN h ⟨by omega, by omega⟩).mono ?_
    rintro e w' ⟨rfl, h'⟩
    exact ⟨rfl, h'⟩
  have HD : Hid (∀ p g v l n wi, (0 ≤ n ∧ n < 10) → St w p [(aN, g)] [(aN, g)] (n + 1 + 1) [⟨g, v, l, l.length⟩] wi → Calls Try.prog 6 #[.pointer (some ⟨p, 0, none⟩), .string ⟨#[98]⟩] wi fun e w' => e = .returned .nilIface ∧ ∃ h, Hid (St w p [(aN, g), (bN, h)] [(aN, g)] (n + 1 + 1 + 1) [⟨g, v, l, l.length⟩, ⟨h, .slice none 0 0, [], 0⟩] w')) := fun p g v l n wi hn h => by
    refine (st_create bN h (by decide) (short1 _) ⟨by omega, by omega⟩ (by simp) (fk_b g)).mono ?_
    rintro e w' ⟨rfl, h2, h'⟩
    exact ⟨rfl, h2, h'⟩
  have HB : Hid (∀ p g v l n h wi, (0 ≤ n ∧ n < 10) → St w p [(aN, g), (bN, h)] [(aN, g)] (n + 1 + 1 + 1) [⟨g, v, l, l.length⟩, ⟨h, .slice none 0 0, [], 0⟩] wi → Calls Try.prog 7 #[.pointer (some ⟨p, 0, none⟩), .string ⟨#[98]⟩, .slice a2 lb.length c2] wi fun e w' => ∃ r u k m, e = .returned r ∧ Hid (St w p [(aN, g), (bN, h)] [(aN, g)] m [⟨g, v, l, l.length⟩, ⟨h, u, k, 0⟩] w' ∧ (0 ≤ m ∧ m < 20) ∧ Aft lb k)) := fun p g v l n h wi hn hs => by
    by_cases hl : lb.length ≤ 60000
    · refine (st_append bN _ lb hs (by decide) (short1 _) ⟨by omega, by omega⟩ ⟨h, .slice none 0 0, [], 0⟩ (by simp) (fk_b2 g h) (hb.below hs.1) (by show 0 + lb.length ≤ 60000; omega)).mono ?_
      rintro e w' ⟨rfl, v', h'⟩
      have hne := st_apart hs
      rw [upd_two1 _ _ _ _ _ hne] at h'
      exact ⟨_, v', lb, _, rfl, h', ⟨by omega, by omega⟩, aft_yes hl⟩
    · refine (st_appendF bN _ lb hs (by decide) (short1 _) ⟨h, .slice none 0 0, [], 0⟩ (by simp) (fk_b2 g h) (hb.below hs.1) (by show 60000 < 0 + lb.length; omega)).mono ?_
      rintro e w' ⟨rfl, h'⟩
      exact ⟨_, _, [], _, rfl, h', ⟨by omega, by omega⟩, aft_no (by omega)⟩
  have HT : Hid (∀ p g v l h u k m wi, (0 ≤ m ∧ m < 20) → St w p [(aN, g), (bN, h)] [(aN, g)] m [⟨g, v, l, l.length⟩, ⟨h, u, k, 0⟩] wi → Calls Try.prog 8 #[.pointer (some ⟨p, 0, none⟩), .string ⟨#[98]⟩] wi fun e w' => e = .returned .nilIface ∧ Hid (St w p [(aN, g), (bN, h)] [(aN, g)] (m + 1) [⟨g, v, l, l.length⟩, ⟨h, u, k, k.length⟩] w')) := fun p g v l h u k m wi hm hs => by
    refine (st_sync bN hs (by decide) (short1 _) ⟨by omega, by omega⟩ ⟨h, u, k, 0⟩ (by simp) (fk_b2 g h)).mono ?_
    rintro e w' ⟨rfl, h'⟩
    have hne := st_apart hs
    rw [upd_two1 _ _ _ _ _ hne] at h'
    exact ⟨rfl, h'⟩
  have HR : Hid (∀ p g v l h u k m wi, (0 ≤ m ∧ m < 20) → St w p [(aN, g), (bN, h)] [(aN, g)] (m + 1) [⟨g, v, l, l.length⟩, ⟨h, u, k, k.length⟩] wi → Calls Try.prog 13 #[.pointer (some ⟨p, 0, none⟩), .string ⟨#[98]⟩, .string ⟨#[97]⟩] wi fun e w' => e = .returned .nilIface ∧ Hid (St w p [(aN, h)] [(aN, g)] (m + 1 + 1) [⟨g, v, l, l.length⟩, ⟨h, u, k, k.length⟩] w')) := fun p g v l h u k m wi hm hs => by
    refine (st_rename bN aN h hs (by decide) (by decide) (short1 _) (short1 _) ⟨by omega, by omega⟩ (by simp) (fk_b2 g h)).mono ?_
    rintro e w' ⟨rfl, h'⟩
    rw [ren_ab] at h'
    exact ⟨rfl, h'⟩
  have HE : Hid (∀ p g v l h u k m wi, St w p [(aN, h)] [(aN, g)] (m + 1 + 1) [⟨g, v, l, l.length⟩, ⟨h, u, k, k.length⟩] wi → Calls Try.prog 11 #[.pointer (some ⟨p, 0, none⟩), .string ⟨#[97]⟩] wi fun e w' => ∃ ax mx cx, e = .returned (.tuple #[.slice ax mx cx, .nilIface]) ∧ Hid (St w p [(aN, h)] [(aN, g)] (m + 1 + 1) [⟨g, v, l, l.length⟩, ⟨h, u, k, k.length⟩] w' ∧ ArgB w' (.slice ax mx cx) k)) := fun p g v l h u k m wi hs => by
    refine (st_read aN hs (by decide) (short1 _) ⟨h, u, k, k.length⟩ (by simp) (fk_a _)).mono ?_
    rintro e w' ⟨ax, mx, cx, rfl, h', r, hl⟩
    exact ⟨ax, mx, cx, rfl, h', row_arg r hl⟩
  have g1 : ¬ (50000 : Int) < la.length := by omega
  have g2 : (50000 : Int) < lb.length := by omega
  clear ha hb hL hM
  go_enter Try.func4, Try.ntmps4
  go_wp2_with (first
    | (go_at_call 5; refine N.mono ?_; rintro e w1 ⟨p, rfl, h1⟩; have C1 := HC.out p w1 h1; clear h1 HC N)
    | (go_at_call 6; refine C1.mono ?_; rintro e w2 ⟨rfl, g, h2⟩; have A1 := HA.out p g w2 h2.out; clear h2 HA C1)
    | (go_at_call 7; refine A1.mono ?_; rintro e w3 ⟨r3, v3, l3, n3, rfl, h3⟩; have HN3 : Hid (0 ≤ n3 ∧ n3 < 10) := h3.out.2.1; have HL3 : Hid (Aft la l3) := h3.out.2.2; have S1 := HS.out p g v3 l3 n3 w3 HN3.out h3.out.1; clear h3 HS A1)
    | (go_at_call 8; refine S1.mono ?_; rintro e w4 ⟨rfl, h4⟩; have N4 := HN.out p g v3 l3 n3 w4 HN3.out h4.out; clear h4 HN S1)
    | (go_at_call 9; refine N4.mono ?_; rintro e w5 ⟨rfl, h5⟩; have D5 := HD.out p g v3 l3 n3 w5 HN3.out h5.out; clear h5 HD N4)
    | (go_at_call 6; refine D5.mono ?_; rintro e w6 ⟨rfl, gh, h6⟩; have B6 := HB.out p g v3 l3 n3 gh w6 HN3.out h6.out; clear h6 HB D5)
    | (go_at_call 7; refine B6.mono ?_; rintro e w7 ⟨r7, v7, l7, n7, rfl, h7⟩; have HN7 : Hid (0 ≤ n7 ∧ n7 < 20) := h7.out.2.1; have HL7 : Hid (Aft lb l7) := h7.out.2.2; have T7 := HT.out p g v3 l3 gh v7 l7 n7 w7 HN7.out h7.out.1; clear h7 HT B6)
    | (go_at_call 8; refine T7.mono ?_; rintro e w8 ⟨rfl, h8⟩; have R8 := HR.out p g v3 l3 gh v7 l7 n7 w8 HN7.out h8.out; clear h8 HR T7)
    | (go_at_call 13; refine R8.mono ?_; rintro e w9 ⟨rfl, h9⟩; have E9 := HE.out p g v3 l3 gh v7 l7 n7 w9 h9.out; clear h9 HE R8)
    | (go_at_call 11; refine E9.mono ?_; rintro e w10 ⟨ax, mx, cx, rfl, h10⟩; have HEN : Hid (Below w.heap.size w w10) := h10.out.1.1; clear h10 E9))
  go_ret
  exact ⟨rfl, HEN.out⟩

set_option maxRecDepth 100000 in
set_option maxHeartbeats 8000000 in
theorem names_short (a a2 : Option Addr) (c c2 : Nat) (la lb : Tx) (w : World) (ha : ArgB w (.slice a la.length c) la) (hb : ArgB w (.slice a2 lb.length c2) lb) (hL : la.length ≤ 50000) (hM : lb.length ≤ 50000) :
    Calls Try.prog 4 #[.slice a la.length c, .slice a2 lb.length c2] w fun e w' => e = .returned (.bool true) ∧ Below w.heap.size w w' := by
  have N := st_new w
  have HC : Hid (∀ p wi, St w p [] [] 0 [] wi → Calls Try.prog 6 #[.pointer (some ⟨p, 0, none⟩), .string ⟨#[97]⟩] wi fun e w' => e = .returned .nilIface ∧ ∃ g, Hid (St w p [(aN, g)] [] 1 [⟨g, .slice none 0 0, [], 0⟩] w')) := fun p wi h => by
    refine (st_create aN h (by decide) (short1 _) ⟨by omega, by omega⟩ (by simp) rfl).mono ?_
    rintro e w' ⟨rfl, g, h'⟩
    exact ⟨rfl, g, h'⟩
  have HA : Hid (∀ p g wi, St w p [(aN, g)] [] 1 [⟨g, .slice none 0 0, [], 0⟩] wi → Calls Try.prog 7 #[.pointer (some ⟨p, 0, none⟩), .string ⟨#[97]⟩, .slice a la.length c] wi fun e w' => ∃ r v l n, e = .returned r ∧ Hid (St w p [(aN, g)] [] n [⟨g, v, l, 0⟩] w' ∧ (0 ≤ n ∧ n < 10) ∧ Aft la l)) := fun p g wi h => by
    by_cases hl : la.length ≤ 60000
    · refine (st_append aN _ la h (by decide) (short1 _) ⟨by omega, by omega⟩ _ (List.mem_singleton.2 rfl) (fk_a g) (ha.below h.1) (by show 0 + la.length ≤ 60000; omega)).mono ?_
      rintro e w' ⟨rfl, v', h'⟩
      rw [upd_one1] at h'
      exact ⟨_, v', la, _, rfl, h', ⟨by omega, by omega⟩, aft_yes hl⟩
    · refine (st_appendF aN _ la h (by decide) (short1 _) _ (List.mem_singleton.2 rfl) (fk_a g) (ha.below h.1) (by show 60000 < 0 + la.length; omega)).mono ?_
      rintro e w' ⟨rfl, h'⟩
      exact ⟨_, _, [], _, rfl, h', ⟨by omega, by omega⟩, aft_no (by omega)⟩
  have HS : Hid (∀ p g v l n wi, (0 ≤ n ∧ n < 10) → St w p [(aN, g)] [] n [⟨g, v, l, 0⟩] wi → Calls Try.prog 8 #[.pointer (some ⟨p, 0, none⟩), .string ⟨#[97]⟩] wi fun e w' => e = .returned .nilIface ∧ Hid (St w p [(aN, g)] [] (n + 1) [⟨g, v, l, l.length⟩] w')) := fun p g v l n wi hn h => by
    refine (st_sync aN h (by decide) (short1 _) ⟨by omega, by omega⟩ _ (List.mem_singleton.2 rfl) (fk_a _)).mono ?_
    rintro e w' ⟨rfl, h'⟩
    rw [upd_one1] at h'
    exact ⟨rfl, h'⟩
  have HN : Hid (∀ p g v l n wi, (0 ≤ n ∧ n < 10) → St w p [(aN, g)] [] (n + 1) [⟨g, v, l, l.length⟩] wi → Calls Try.prog 9 #[.pointer (some ⟨p, 0, none⟩)] wi fun e w' => e = .returned .nilIface ∧ Hid (St w p [(aN, g)] [(aN, g)] (n + 1 + 1) [⟨g, v, l, l.length⟩] w')) := fun p g v l n wi hn h => by
    refine (st_syncN h ⟨by omega, by omega⟩).mono ?_
    rintro e w' ⟨rfl, h'⟩
    exact ⟨rfl, h'⟩
  have HD : Hid (∀ p g v l n wi, (0 ≤ n ∧ n < 10) → St w p [(aN, g)] [(aN, g)] (n + 1 + 1) [⟨g, v, l, l.length⟩] wi → Calls Try.prog 6 #[.pointer (some ⟨p, 0, none⟩), .string ⟨#[98]⟩] wi fun e w' => e = .returned .nilIface ∧ ∃ h, Hid (St w p [(aN, g), (bN, h)] [(aN, g)] (n + 1 + 1 + 1) [⟨g, v, l, l.length⟩, ⟨h, .slice none 0 0, [], 0⟩] w')) := fun p g v l n wi hn h => by
    refine (st_create bN h (by decide) (short1 _) ⟨by omega, by omega⟩ (by simp) (fk_b g)).mono ?_
    rintro e w' ⟨rfl, h2, h'⟩
    exact ⟨rfl, h2, h'⟩
  have HB : Hid (∀ p g v l n h wi, (0 ≤ n ∧ n < 10) → St w p [(aN, g), (bN, h)] [(aN, g)] (n + 1 + 1 + 1) [⟨g, v, l, l.length⟩, ⟨h, .slice none 0 0, [], 0⟩] wi → Calls Try.prog 7 #[.pointer (some ⟨p, 0, none⟩), .string ⟨#[98]⟩, .slice a2 lb.length c2] wi fun e w' => ∃ r u k m, e = .returned r ∧ Hid (St w p [(aN, g), (bN, h)] [(aN, g)] m [⟨g, v, l, l.length⟩, ⟨h, u, k, 0⟩] w' ∧ (0 ≤ m ∧ m < 20) ∧ Aft lb k)) := fun p g v l n h wi hn hs => by
    by_cases hl : lb.length ≤ 60000
    · refine (st_append bN _ lb hs (by decide) (short1 _) ⟨by omega, by omega⟩ ⟨h, .slice none 0 0, [], 0⟩ (by simp) (fk_b2 g h) (hb.below hs.1) (by show 0 + lb.length ≤ 60000; omega)).mono ?_
      rintro e w' ⟨rfl, v', h'⟩
      have hne := st_apart hs
      rw [upd_two1 _ _ _ _ _ hne] at h'
      exact ⟨_, v', lb, _, rfl, h', ⟨by omega, by omega⟩, aft_yes hl⟩
    · refine (st_appendF bN _ lb hs (by decide) (short1 _) ⟨h, .slice none 0 0, [], 0⟩ (by simp) (fk_b2 g h) (hb.below hs.1) (by show 60000 < 0 + lb.length; omega)).mono ?_
      rintro e w' ⟨rfl, h'⟩
      exact ⟨_, _, [], _, rfl, h', ⟨by omega, by omega⟩, aft_no (by omega)⟩
  have HT : Hid (∀ p g v l h u k m wi, (0 ≤ m ∧ m < 20) → St w p [(aN, g), (bN, h)] [(aN, g)] m [⟨g, v, l, l.length⟩, ⟨h, u, k, 0⟩] wi → Calls Try.prog 8 #[.pointer (some ⟨p, 0, none⟩), .string ⟨#[98]⟩] wi fun e w' => e = .returned .nilIface ∧ Hid (St w p [(aN, g), (bN, h)] [(aN, g)] (m + 1) [⟨g, v, l, l.length⟩, ⟨h, u, k, k.length⟩] w')) := fun p g v l h u k m wi hm hs => by
    refine (st_sync bN hs (by decide) (short1 _) ⟨by omega, by omega⟩ ⟨h, u, k, 0⟩ (by simp) (fk_b2 g h)).mono ?_
    rintro e w' ⟨rfl, h'⟩
    have hne := st_apart hs
    rw [upd_two1 _ _ _ _ _ hne] at h'
    exact ⟨rfl, h'⟩
  have HR : Hid (∀ p g v l h u k m wi, (0 ≤ m ∧ m < 20) → St w p [(aN, g), (bN, h)] [(aN, g)] (m + 1) [⟨g, v, l, l.length⟩, ⟨h, u, k, k.length⟩] wi → Calls Try.prog 13 #[.pointer (some ⟨p, 0, none⟩), .string ⟨#[98]⟩, .string ⟨#[97]⟩] wi fun e w' => e = .returned .nilIface ∧ Hid (St w p [(aN, h)] [(aN, g)] (m + 1 + 1) [⟨g, v, l, l.length⟩, ⟨h, u, k, k.length⟩] w')) := fun p g v l h u k m wi hm hs => by
    refine (st_rename bN aN h hs (by decide) (by decide) (short1 _) (short1 _) ⟨by omega, by omega⟩ (by simp) (fk_b2 g h)).mono ?_
    rintro e w' ⟨rfl, h'⟩
    rw [ren_ab] at h'
    exact ⟨rfl, h'⟩
  have HE : Hid (∀ p g v l h u k m wi, St w p [(aN, h)] [(aN, g)] (m + 1 + 1) [⟨g, v, l, l.length⟩, ⟨h, u, k, k.length⟩] wi → Calls Try.prog 11 #[.pointer (some ⟨p, 0, none⟩), .string ⟨#[97]⟩] wi fun e w' => ∃ ax mx cx, e = .returned (.tuple #[.slice ax mx cx, .nilIface]) ∧ Hid (St w p [(aN, h)] [(aN, g)] (m + 1 + 1) [⟨g, v, l, l.length⟩, ⟨h, u, k, k.length⟩] w' ∧ ArgB w' (.slice ax mx cx) k)) := fun p g v l h u k m wi hs => by
    refine (st_read aN hs (by decide) (short1 _) ⟨h, u, k, k.length⟩ (by simp) (fk_a _)).mono ?_
    rintro e w' ⟨ax, mx, cx, rfl, h', r, hl⟩
    exact ⟨ax, mx, cx, rfl, h', row_arg r hl⟩
  have HX : Hid (∀ p g v l h u k m wi, St w p [(aN, h)] [(aN, g)] m [⟨g, v, l, l.length⟩, ⟨h, u, k, k.length⟩] wi → Calls Try.prog 10 #[.pointer (some ⟨p, 0, none⟩), .int .i64 0] wi fun e w' => e = .returned (.tuple #[]) ∧ ∃ y, Hid (St w p [(aN, y.g)] [(aN, y.g)] 0 [y] w' ∧ y.bs = l)) := fun p g v l h u k m wi hs => by
    refine (st_crash 0 hs (by unfold I64; omega) (by simp)).mono ?_
    rintro e w' ⟨rfl, E, h', hp, hm⟩
    obtain ⟨y, rfl, hy⟩ := one_rest hp hm (x := ⟨g, v, l, l.length⟩) (by simp) rfl
    exact ⟨rfl, y, h', by rw [hy]; exact lft_all g v l⟩
  have HY : Hid (∀ p y l wi, (St w p [(aN, y.g)] [(aN, y.g)] 0 [y] wi ∧ y.bs = l) → Calls Try.prog 11 #[.pointer (some ⟨p, 0, none⟩), .string ⟨#[97]⟩] wi fun e w' => ∃ ax mx cx, e = .returned (.tuple #[.slice ax mx cx, .nilIface]) ∧ Hid (St w p [(aN, y.g)] [(aN, y.g)] 0 [y] w' ∧ ArgB w' (.slice ax mx cx) l)) := fun p y l wi h => by
    refine (st_read aN h.1 (by decide) (short1 _) y (List.mem_singleton.2 rfl) (fk_a _)).mono ?_
    rintro e w' ⟨ax, mx, cx, rfl, h', r, hl⟩
    exact ⟨ax, mx, cx, rfl, h', h.2 ▸ row_arg r hl⟩
  have HM : Hid (∀ p y l ax mx cx wi, (St w p [(aN, y.g)] [(aN, y.g)] 0 [y] wi ∧ ArgB wi (.slice ax mx cx) l) → Calls Try.prog 12 #[.pointer (some ⟨p, 0, none⟩)] wi fun e w' => ∃ an cn, e = .returned (.slice an 1 cn) ∧ Hid (Below w.heap.size w w' ∧ ArgB w' (.slice ax mx cx) l)) := fun p y l ax mx cx wi h => by
    refine (st_names h.1 (by simp)).mono ?_
    rintro e w' ⟨an, cn, rfl, hb', h'⟩
    exact ⟨an, cn, rfl, h'.1, h.2.below hb'⟩
  have HAA : Hid (ArgB w (.slice a la.length c) la ∧ la.length ≤ 60000) := ⟨ha, by omega⟩
  have HBB : Hid (ArgB w (.slice a2 lb.length c2) lb ∧ lb.length ≤ 60000) := ⟨hb, by omega⟩
  have g1 : ¬ (50000 : Int) < la.length := by omega
  have g2 : ¬ (50000 : Int) < lb.length := by omega
  clear ha hb hL hM
  go_enter Try.func4, Try.ntmps4
  go_wp2_with (first
    | (go_at_call 5; refine N.mono ?_; rintro e w1 ⟨p, rfl, h1⟩; have C1 := HC.out p w1 h1; clear h1 HC N)
    | (go_at_call 6; refine C1.mono ?_; rintro e w2 ⟨rfl, g, h2⟩; have A1 := HA.out p g w2 h2.out; clear h2 HA C1)
    | (go_at_call 7; refine A1.mono ?_; rintro e w3 ⟨r3, v3, l3, n3, rfl, h3⟩; have HN3 : Hid (0 ≤ n3 ∧ n3 < 10) := h3.out.2.1; have HL3 : Hid (Aft la l3) := h3.out.2.2; have S1 := HS.out p g v3 l3 n3 w3 HN3.out h3.out.1; clear h3 HS A1)
    | (go_at_call 8; refine S1.mono ?_; rintro e w4 ⟨rfl, h4⟩; have N4 := HN.out p g v3 l3 n3 w4 HN3.out h4.out; clear h4 HN S1)
    | (go_at_call 9; refine N4.mono ?_; rintro e w5 ⟨rfl, h5⟩; have D5 := HD.out p g v3 l3 n3 w5 HN3.out h5.out; clear h5 HD N4)
    | (go_at_call 6; refine D5.mono ?_; rintro e w6 ⟨rfl, gh, h6⟩; have B6 := HB.out p g v3 l3 n3 gh w6 HN3.out h6.out; clear h6 HB D5)
    | (go_at_call 7; refine B6.mono ?_; rintro e w7 ⟨r7, v7, l7, n7, rfl, h7⟩; have HN7 : Hid (0 ≤ n7 ∧ n7 < 20) := h7.out.2.1; have HL7 : Hid (Aft lb l7) := h7.out.2.2; have T7 := HT.out p g v3 l3 gh v7 l7 n7 w7 HN7.out h7.out.1; clear h7 HT B6)
    | (go_at_call 8; refine T7.mono ?_; rintro e w8 ⟨rfl, h8⟩; have R8 := HR.out p g v3 l3 gh v7 l7 n7 w8 HN7.out h8.out; clear h8 HR T7)
    | (go_at_call 13; refine R8.mono ?_; rintro e w9 ⟨rfl, h9⟩; have E9 := HE.out p g v3 l3 gh v7 l7 n7 w9 h9.out; clear h9 HE R8)
    | (go_at_call 11; refine E9.mono ?_; rintro e w10 ⟨ax, mx, cx, rfl, h10⟩
       have hl3 : l3 = la := HL3.out.1 HAA.out.2
       have hl7 : l7 = lb := HL7.out.1 HBB.out.2
       subst hl3 hl7
       have q1 := conv_any h10.out.2
       have q2 := conv_any (HBB.out.1.below h10.out.1.1)
       have X10 := HX.out p g v3 l3 gh v7 l7 (n7 + 1 + 1) w10 h10.out.1
       clear h10 E9 HL3 HL7 HX)
    | (go_at_call 10; refine X10.mono ?_; rintro e w12 ⟨rfl, y, h12⟩; have Y12 := HY.out p y l3 w12 h12.out; clear h12 HY X10)
    | (go_at_call 11; refine Y12.mono ?_; rintro e w13 ⟨ay, my, cy, rfl, h13⟩; have M13 := HM.out p y l3 ay my cy w13 h13.out; clear h13 HM Y12)
    | (go_at_call 12; refine M13.mono ?_; rintro e w14 ⟨an, cn, rfl, h14⟩
       have q3 := conv_any h14.out.2
       have q4 := conv_any (HAA.out.1.below h14.out.1)
       have HEN : Hid (Below w.heap.size w w14) := h14.out.1
       clear h14 M13))
  go_ret
  exact ⟨by simp, HEN.out⟩
end Go.Proofs.Ytcjhopeejimbmaa
