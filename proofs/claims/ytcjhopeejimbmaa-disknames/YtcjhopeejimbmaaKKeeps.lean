/-
  What is proved: the law DiskKeeps, called with any bytes and any number, returns true, and nothing that was there has turned.
  Conditions: the arguments lie in memory.
-/
import Derived.Test.YtcjhopeejimbmaaKSt
namespace Go.Proofs.Ytcjhopeejimbmaa
open Go.RowKit Go.Maps Go.Sort Go.Shelf

abbrev aN : Tx := [97]
abbrev bN : Tx := [98]
theorem short1 (c : UInt8) : T64 [c] := by unfold T64 maxLen; simp

/-- After a, synced, and its name. -/
def Sa (w : World) (p g : Nat) (v : Value) (l : Tx) (n : Int) (wi : World) : Prop := St w p [(aN, g)] [(aN, g)] n [⟨g, v, l, l.length⟩] wi

theorem fk_a (g : Nat) : fk [(aN, g)] aN = some g := by simp [fk]
theorem fk_b (g : Nat) : fk [(aN, g)] bN = none := by simp [fk]

theorem one_rest {G : List Fi} {k : Int} {E : List Rst} {g : Nat} {x : Fi} (hp : (E.map (·.1)).Perm ([(aN, g)].map (·.1))) (hm : Made [(aN, g)] G k E) (hx : x ∈ G) (hg : x.g = g) : ∃ y, E = [(aN, g, y)] ∧ y.bs = x.bs.take (lft k x) := by
  have hl := hp.length_eq
  rw [List.length_map] at hl
  match E, hl with
  | [q], _ =>
    obtain ⟨s, h, y⟩ := q
    have h1 := hm (s, h, y) (List.mem_singleton.2 rfl)
    have h2 := List.mem_singleton.1 h1.1
    have e1 : s = aN := congrArg Prod.fst h2
    have e2 : h = g := congrArg Prod.snd h2
    subst e1 e2
    exact ⟨y, rfl, (h1.2 x hx hg).1⟩

set_option maxRecDepth 100000 in
set_option maxHeartbeats 8000000 in
theorem keeps_long (va vb : Value) (la lb : Tx) (k : Int) (w : World) (ha : ArgB w va la) (hb : ArgB w vb lb) (hL : 30000 < la.length) :
    Calls Try.prog 3 #[va, vb, .int .i64 k] w fun e w' => e = .returned (.bool true) ∧ Below w.heap.size w w' := by
  have N := st_new w
  obtain ⟨a, c, rfl⟩ := ha.form
  obtain ⟨a2, c2, rfl⟩ := hb.form
  have HC : Hid (∀ p wi, St w p [] [] 0 [] wi → Calls Try.prog 6 #[.pointer (some ⟨p, 0, none⟩), .string ⟨#[97]⟩] wi fun e w' => e = .returned .nilIface ∧ ∃ g, Hid (St w p [(aN, g)] [] 1 [⟨g, .slice none 0 0, [], 0⟩] w')) := fun p wi h => by
    refine (st_create aN h (by decide) (short1 _) ⟨by omega, by omega⟩ (by simp) rfl).mono ?_
    rintro e w' ⟨rfl, g, h'⟩
    exact ⟨rfl, g, h'⟩
  have HA : Hid (∀ p g wi, St w p [(aN, g)] [] 1 [⟨g, .slice none 0 0, [], 0⟩] wi → Calls Try.prog 7 #[.pointer (some ⟨p, 0, none⟩), .string ⟨#[97]⟩, .slice a la.length c] wi fun e w' => ∃ r x n, e = .returned r ∧ Hid (St w p [(aN, g)] [] n [x] w' ∧ 0 ≤ n ∧ n < 10 ∧ x.g = g)) := fun p g wi h => by
    by_cases hl : la.length ≤ 60000
    · refine (st_append aN _ la h (by decide) (short1 _) ⟨by omega, by omega⟩ _ (List.mem_singleton.2 rfl) (fk_a g) (ha.below h.1) (by simpa using hl)).mono ?_
      rintro e w' ⟨rfl, v', h'⟩
      rw [upd_one1] at h'
      exact ⟨_, _, _, rfl, h', by omega, by omega, rfl⟩
    · refine (st_appendF aN _ la h (by decide) (short1 _) _ (List.mem_singleton.2 rfl) (fk_a g) (ha.below h.1) (by simpa using hl)).mono ?_
      rintro e w' ⟨rfl, h'⟩
      exact ⟨_, _, _, rfl, h', by omega, by omega, rfl⟩
  have HS : Hid (∀ p g x n wi, (St w p [(aN, g)] [] n [x] wi ∧ 0 ≤ n ∧ n < 10 ∧ x.g = g) → Calls Try.prog 8 #[.pointer (some ⟨p, 0, none⟩), .string ⟨#[97]⟩] wi fun e w' => e = .returned .nilIface ∧ Hid (∃ x, St w p [(aN, g)] [] (n + 1) [x] w')) := fun p g x n wi h => by
    obtain ⟨h, n0, n1, rfl⟩ := h
    refine (st_sync aN h (by decide) (short1 _) ⟨by omega, by omega⟩ x (List.mem_singleton.2 rfl) (fk_a _)).mono ?_
    rintro e w' ⟨rfl, h'⟩
    rw [upd_one1] at h'
    exact ⟨rfl, _, h'⟩
  have HN : Hid (∀ p g n wi, 0 ≤ n → n < 10 → (∃ x, St w p [(aN, g)] [] (n + 1) [x] wi) → Calls Try.prog 9 #[.pointer (some ⟨p, 0, none⟩)] wi fun e w' => e = .returned .nilIface ∧ Hid (Below w.heap.size w w')) := fun p g n wi n0 n1 h => by
    obtain ⟨x, h⟩ := h
    refine (st_syncN h ⟨by omega, by omega⟩).mono ?_
    rintro e w' ⟨rfl, h'⟩
    exact ⟨rfl, h'.1⟩
  have g1 : (30000 : Int) < la.length := by omega
  clear ha hb hL
  generalize la.length = L at *
  generalize lb.length = M at *
  go_enter Try.func3, Try.ntmps3
  go_wp2_with (first
    | (go_at_call 5; refine N.mono ?_; rintro e w1 ⟨p, rfl, h1⟩; have C1 := HC.out p w1 h1; clear h1 HC)
    | (go_at_call 6; refine C1.mono ?_; rintro e w2 ⟨rfl, g, h2⟩; have A1 := HA.out p g w2 h2.out; clear h2 HA)
    | (go_at_call 7; refine A1.mono ?_; rintro e w3 ⟨r, x, n, rfl, h3⟩; have S1 := HS.out p g x n w3 h3.out; have HN3 : Hid (0 ≤ n ∧ n < 10) := ⟨h3.out.2.1, h3.out.2.2.1⟩; clear h3 HS)
    | (go_at_call 8; refine S1.mono ?_; rintro e w4 ⟨rfl, h4⟩; have N4 := HN.out p g n w4 HN3.out.1 HN3.out.2 h4.out; clear h4 HN)
    | (go_at_call 9; refine N4.mono ?_; rintro e w5 ⟨rfl, h5⟩))
  go_ret
  exact ⟨rfl, h5.out⟩
end Go.Proofs.Ytcjhopeejimbmaa
