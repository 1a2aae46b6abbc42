/-
  What is proved: the law JsonParses, called with any text, returns true, and nothing that was there has turned.
  Conditions: package variables lie as the text lays them.
-/
import Derived.Test.YtnmdhbejjjmdeaaGreatDoorJHP
import Derived.Test.YtnmdhbejjjmdeaaGreatDoorP26
namespace Go.Proofs.YtnmdhbejjjmdeaaGreatDoor
open Go.RowKit Go.Sort

set_option maxRecDepth 100000 in
set_option maxHeartbeats 16000000 in
theorem parses_any (s : ByteArray) (w : World) (hV : Vr w) (hE : Et w) :
    Calls Tryz.prog 3 #[.string s] w fun e w' => e = .returned (.bool true) ∧ Below w.heap.size w w' := by
  have E1 := hparse_any s w
  have HV : Hid (Vr w ∧ Et w) := ⟨hV, hE⟩
  clear hV hE
  go_enter Tryz.func3, Tryz.ntmps3
  go_wp2_with fail
  refine Calls.mono E1 ?_
  rintro e w1 ⟨hP, b1⟩
  clear E1
  rcases hP with ⟨k, x, rfl, hx, hp⟩ | ⟨u, T, rfl, hI, hp⟩
  · dsimp only [tval, zU]
    have bA : Below w1.heap.size w1 (w1.alloc (.cells #[.int .i64 0, .int .i64 0, .string ⟨#[]⟩, .int .i64 0, .int .i64 0, .slice none 0 0, .slice none 0 0] 29)) := (Below.refl _ _).alloc (Nat.le_refl _) _
    have HB2 : Hid (Below w.heap.size w (w1.alloc (.cells #[.int .i64 0, .int .i64 0, .string ⟨#[]⟩, .int .i64 0, .int .i64 0, .slice none 0 0, .slice none 0 0] 29))) := b1.trans (bA.mono b1.size)
    have HN2 : Hid ((w1.alloc (.cells #[.int .i64 0, .int .i64 0, .string ⟨#[]⟩, .int .i64 0, .int .i64 0, .slice none 0 0, .slice none 0 0] 29)).heap[w1.heap.size]? = some (.cells #[.int .i64 0, .int .i64 0, .string ⟨#[]⟩, .int .i64 0, .int .i64 0, .slice none 0 0, .slice none 0 0] 29)) := one_new w1 _
    have HIA : Hid (IsT w (tval ((⟨0, 0, ⟨#[]⟩, 0, 0⟩, .slice none 0 0, .slice none 0 0) : TV)) zJ) := zJ_at _
    have E2 := parse_any s (w1.alloc (.cells #[.int .i64 0, .int .i64 0, .string ⟨#[]⟩, .int .i64 0, .int .i64 0, .slice none 0 0, .slice none 0 0] 29)) (HV.out.1.below HB2.out)
    have HPR : Hid (prs s = .error (k, x) ∧ x ≠ 0) := ⟨hp, hx⟩
    clear hp hx
    clear b1 bA
    go_wp2_with fail
    refine Calls.mono E2 ?_
    rintro e w2 ⟨hQ, b2⟩
    clear E2
    rcases hQ with ⟨k', x', rfl, hq⟩ | ⟨u, T, rfl, _, _, hq⟩
    rotate_left
    · rw [HPR.out.1] at hq
      cases hq
    obtain ⟨rfl, rfl⟩ : k = k' ∧ x = x' := by
      rw [HPR.out.1] at hq
      injection hq with hq
      injection hq with h1 h2
      exact ⟨h1, h2⟩
    clear hq
    dsimp only [tval, zU]
    have bC : Below w2.heap.size w2 (w2.alloc (.cells #[.int .i64 0, .int .i64 0, .string ⟨#[]⟩, .int .i64 0, .int .i64 0, .slice none 0 0, .slice none 0 0] 29)) := (Below.refl _ _).alloc (Nat.le_refl _) _
    have hw2 : Below w.heap.size w w2 := HB2.out.trans (b2.mono HB2.out.size)
    have hn2 := (b2.block _ (lt_of_heap HN2.out)).trans HN2.out
    have HB3 : Hid (Below w.heap.size w (w2.alloc (.cells #[.int .i64 0, .int .i64 0, .string ⟨#[]⟩, .int .i64 0, .int .i64 0, .slice none 0 0, .slice none 0 0] 29))) := hw2.trans (bC.mono hw2.size)
    have N3 : (w2.alloc (.cells #[.int .i64 0, .int .i64 0, .string ⟨#[]⟩, .int .i64 0, .int .i64 0, .slice none 0 0, .slice none 0 0] 29)).heap[w1.heap.size]? = some (.cells #[.int .i64 0, .int .i64 0, .string ⟨#[]⟩, .int .i64 0, .int .i64 0, .slice none 0 0, .slice none 0 0] 29) := (bC.block _ (lt_of_heap hn2)).trans hn2
    have M3 : (w2.alloc (.cells #[.int .i64 0, .int .i64 0, .string ⟨#[]⟩, .int .i64 0, .int .i64 0, .slice none 0 0, .slice none 0 0] 29)).heap[w2.heap.size]? = some (.cells #[.int .i64 0, .int .i64 0, .string ⟨#[]⟩, .int .i64 0, .int .i64 0, .slice none 0 0, .slice none 0 0] 29) := one_new w2 _
    have HIA3 : Hid (IsT (w2.alloc (.cells #[.int .i64 0, .int .i64 0, .string ⟨#[]⟩, .int .i64 0, .int .i64 0, .slice none 0 0, .slice none 0 0] 29)) (tval ((⟨0, 0, ⟨#[]⟩, 0, 0⟩, .slice none 0 0, .slice none 0 0) : TV)) zJ) := zJ_at _
    have HIB : Hid (IsT (w2.alloc (.cells #[.int .i64 0, .int .i64 0, .string ⟨#[]⟩, .int .i64 0, .int .i64 0, .slice none 0 0, .slice none 0 0] 29)) (tval ((⟨0, 0, ⟨#[]⟩, 0, 0⟩, .slice none 0 0, .slice none 0 0) : TV)) zJ) := zJ_at _
    have E3 := tree_any x (w2.alloc (.cells #[.int .i64 0, .int .i64 0, .string ⟨#[]⟩, .int .i64 0, .int .i64 0, .slice none 0 0, .slice none 0 0] 29)) HIB.out HIA3.out (HV.out.2.below HB3.out)
    have hev : errV x = .iface 43 (.int .i64 x) := by unfold errV; rw [if_neg HPR.out.2]
    rw [hev] at E3
    clear hev
    obtain ⟨k0, k1, k2, k3, k4, k5, k6⟩ := tboxed (u := ((⟨0, 0, ⟨#[]⟩, 0, 0⟩, .slice none 0 0, .slice none 0 0) : TV)) N3
    obtain ⟨l0, l1, l2, l3, l4, l5, l6⟩ := tboxed (u := ((⟨0, 0, ⟨#[]⟩, 0, 0⟩, .slice none 0 0, .slice none 0 0) : TV)) M3
    dsimp only [tval] at E3 k0 k1 k2 k3 k4 k5 k6 l0 l1 l2 l3 l4 l5 l6 ⊢
    clear b2 bC hw2 hn2 N3 M3
    go_wp2_with fail
    go_fit E3
    rintro r w4 ⟨rfl, b4⟩
    have HB4 : Hid (Below w.heap.size w w4) := HB3.out.trans (b4.mono HB3.out.size)
    clear b4 E3 k0 k1 k2 k3 k4 k5 k6 l0 l1 l2 l3 l4 l5 l6
    go_wp2
    go_ret
    exact ⟨rfl, HB4.out⟩
  · obtain ⟨yk, yn, yt, yo, ya, y1, y2, y3, y4, y5, y6, rfl⟩ := slU_parts (slU_of hI)
    dsimp only [tval]
    have bA : Below w1.heap.size w1 (w1.alloc (.cells #[.int .i64 yk, .int .i64 yn, .string yt, .int .i64 yo, .int .i64 ya, .slice y1 y2 y3, .slice y4 y5 y6] 29)) := (Below.refl _ _).alloc (Nat.le_refl _) _
    have HB2 : Hid (Below w.heap.size w (w1.alloc (.cells #[.int .i64 yk, .int .i64 yn, .string yt, .int .i64 yo, .int .i64 ya, .slice y1 y2 y3, .slice y4 y5 y6] 29))) := b1.trans (bA.mono b1.size)
    have HN2 : Hid ((w1.alloc (.cells #[.int .i64 yk, .int .i64 yn, .string yt, .int .i64 yo, .int .i64 ya, .slice y1 y2 y3, .slice y4 y5 y6] 29)).heap[w1.heap.size]? = some (.cells #[.int .i64 yk, .int .i64 yn, .string yt, .int .i64 yo, .int .i64 ya, .slice y1 y2 y3, .slice y4 y5 y6] 29)) := one_new w1 _
    have HIA : Hid (IsT (w1.alloc (.cells #[.int .i64 yk, .int .i64 yn, .string yt, .int .i64 yo, .int .i64 ya, .slice y1 y2 y3, .slice y4 y5 y6] 29)) (tval ((⟨yk, yn, yt, yo, ya⟩, .slice y1 y2 y3, .slice y4 y5 y6) : TV)) T) := hI.plain.stay bA
    have E2 := parse_any s (w1.alloc (.cells #[.int .i64 yk, .int .i64 yn, .string yt, .int .i64 yo, .int .i64 ya, .slice y1 y2 y3, .slice y4 y5 y6] 29)) (HV.out.1.below HB2.out)
    have HPR : Hid (prs s = .ok T) := hp
    clear hp hI
    clear b1 bA
    go_wp2_with fail
    refine Calls.mono E2 ?_
    rintro e w2 ⟨hQ, b2⟩
    clear E2
    rcases hQ with ⟨k', x', rfl, hq⟩ | ⟨u, T', rfl, hJ, _, hq⟩
    · rw [HPR.out] at hq
      cases hq
    obtain rfl : T = T' := by
      rw [HPR.out] at hq
      injection hq with hq
    clear hq
    obtain ⟨zk, zn, zt, zo, za, z1, z2, z3, z4, z5, z6, rfl⟩ := slU_parts (slU_of hJ)
    dsimp only [tval]
    have bC : Below w2.heap.size w2 (w2.alloc (.cells #[.int .i64 zk, .int .i64 zn, .string zt, .int .i64 zo, .int .i64 za, .slice z1 z2 z3, .slice z4 z5 z6] 29)) := (Below.refl _ _).alloc (Nat.le_refl _) _
    have hw2 : Below w.heap.size w w2 := HB2.out.trans (b2.mono HB2.out.size)
    have hn2 := (b2.block _ (lt_of_heap HN2.out)).trans HN2.out
    have HB3 : Hid (Below w.heap.size w (w2.alloc (.cells #[.int .i64 zk, .int .i64 zn, .string zt, .int .i64 zo, .int .i64 za, .slice z1 z2 z3, .slice z4 z5 z6] 29))) := hw2.trans (bC.mono hw2.size)
    have N3 : (w2.alloc (.cells #[.int .i64 zk, .int .i64 zn, .string zt, .int .i64 zo, .int .i64 za, .slice z1 z2 z3, .slice z4 z5 z6] 29)).heap[w1.heap.size]? = some (.cells #[.int .i64 yk, .int .i64 yn, .string yt, .int .i64 yo, .int .i64 ya, .slice y1 y2 y3, .slice y4 y5 y6] 29) := (bC.block _ (lt_of_heap hn2)).trans hn2
    have M3 : (w2.alloc (.cells #[.int .i64 zk, .int .i64 zn, .string zt, .int .i64 zo, .int .i64 za, .slice z1 z2 z3, .slice z4 z5 z6] 29)).heap[w2.heap.size]? = some (.cells #[.int .i64 zk, .int .i64 zn, .string zt, .int .i64 zo, .int .i64 za, .slice z1 z2 z3, .slice z4 z5 z6] 29) := one_new w2 _
    have HIA3 : Hid (IsT (w2.alloc (.cells #[.int .i64 zk, .int .i64 zn, .string zt, .int .i64 zo, .int .i64 za, .slice z1 z2 z3, .slice z4 z5 z6] 29)) (tval ((⟨yk, yn, yt, yo, ya⟩, .slice y1 y2 y3, .slice y4 y5 y6) : TV)) T) := (HIA.out.stay b2).stay bC
    have HIB : Hid (IsT (w2.alloc (.cells #[.int .i64 zk, .int .i64 zn, .string zt, .int .i64 zo, .int .i64 za, .slice z1 z2 z3, .slice z4 z5 z6] 29)) (tval ((⟨zk, zn, zt, zo, za⟩, .slice z1 z2 z3, .slice z4 z5 z6) : TV)) T) := hJ.plain.stay bC
    clear hJ
    have E3 := tree_any 0 (w2.alloc (.cells #[.int .i64 zk, .int .i64 zn, .string zt, .int .i64 zo, .int .i64 za, .slice z1 z2 z3, .slice z4 z5 z6] 29)) HIB.out HIA3.out (HV.out.2.below HB3.out)
    have hev : errV 0 = .nilIface := by unfold errV; rw [if_pos rfl]
    rw [hev] at E3
    clear hev
    obtain ⟨k0, k1, k2, k3, k4, k5, k6⟩ := tboxed (u := ((⟨yk, yn, yt, yo, ya⟩, .slice y1 y2 y3, .slice y4 y5 y6) : TV)) N3
    obtain ⟨l0, l1, l2, l3, l4, l5, l6⟩ := tboxed (u := ((⟨zk, zn, zt, zo, za⟩, .slice z1 z2 z3, .slice z4 z5 z6) : TV)) M3
    dsimp only [tval] at E3 k0 k1 k2 k3 k4 k5 k6 l0 l1 l2 l3 l4 l5 l6 ⊢
    clear b2 bC hw2 hn2 N3 M3
    go_wp2_with fail
    go_fit E3
    rintro r w4 ⟨rfl, b4⟩
    have HB4 : Hid (Below w.heap.size w w4) := HB3.out.trans (b4.mono HB3.out.size)
    clear b4 E3 k0 k1 k2 k3 k4 k5 k6 l0 l1 l2 l3 l4 l5 l6
    go_wp2
    go_ret
    exact ⟨rfl, HB4.out⟩
end Go.Proofs.YtnmdhbejjjmdeaaGreatDoor
