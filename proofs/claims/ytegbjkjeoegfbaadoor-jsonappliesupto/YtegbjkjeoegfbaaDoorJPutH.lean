/-
  What is proved: bookref3's put, called with a tree, an index, and another tree, answers the tree with that one in the place of a kid, or between its kids, or with a kid taken out.
  Conditions: both trees lie in memory; the index is one; of a map there are as many keys as kids.
-/
import Derived.Test.YtegbjkjeoegfbaaDoorJPutM
import Derived.Laws.EntriesVeiled
namespace Go.Proofs.YtegbjkjeoegfbaaDoor
open Go.RowKit Go.Sort

/-- What put answers. -/
def PutP (P : Nat → Prop) (w : World) (x : V) (ks : List ByteArray) (ts : List JT) (e : Ending) (w' : World) : Prop := ∃ u, e = .returned (tval u) ∧ IsTP (fun b => P b ∨ w.heap.size + 3 ≤ b) w' (tval u) (.node x ks ts) ∧ Below w.heap.size w w'

set_option maxRecDepth 100000 in
set_option maxHeartbeats 8000000 in
theorem put_set5 {P : Nat → Prop} {v vx : Value} {T X : JT} (k : Nat) (key : ByteArray) (w : World) (hT : IsTP P w v T) (hX : IsTP P w vx X) (h5 : T.x.k = 5) (hk : k + 1 ≤ T.ts.length) (hlk : T.ks.length = T.ts.length) (hs : T.ks.length ≤ 1000 ∧ T.ts.length ≤ 1000) :
    Calls Tryd.prog 19 #[v, .int .i64 k, vx, .bool false, .bool false, .string key] w fun e w' => PutP P w T.x ((T.ks.take k ++ [key]) ++ T.ks.drop (k + 1)) ((T.ts.take k ++ [X]) ++ T.ts.drop (k + 1)) e w' := by
  obtain ⟨ux, rfl⟩ := hX.plain.of_val
  obtain ⟨eT, uk, a2, c2, us, rfl, nk0, nl, nc, nz, nr0, ni⟩ := hT.inv
  have nr := nr0.row
  have nk := nk0.strs
  obtain ⟨a1, c1, rfl, -, -, -⟩ := id nk
  clear eT nk0 nr0
  have hall : AllT P w us T.ts := ⟨nl, ni⟩
  obtain ⟨⟨yk, yn, yt, yo, ya⟩, d1, e1, f1, d2, e2, f2, hux⟩ := hX.plain.parts
  subst hux
  obtain ⟨tn, htn⟩ : ∃ tn, tn = T.ts.length := ⟨_, rfl⟩
  obtain ⟨kn, hkn⟩ : ∃ kn, kn = T.ks.length := ⟨_, rfl⟩
  have HN : Hid (tn = T.ts.length ∧ kn = T.ks.length) := ⟨htn, hkn⟩
  obtain ⟨post, hpost⟩ : ∃ post, post = PutP P w T.x ((T.ks.take k ++ [key]) ++ T.ks.drop (k + 1)) ((T.ts.take k ++ [X]) ++ T.ts.drop (k + 1)) := ⟨_, rfl⟩
  rw [← hpost]
  have HPO : Hid (post = PutP P w T.x ((T.ks.take k ++ [key]) ++ T.ks.drop (k + 1)) ((T.ts.take k ++ [X]) ++ T.ts.drop (k + 1))) := hpost
  clear hpost
  rw [← htn, ← hkn]
  rw [← hkn] at nk
  obtain ⟨xx, hxx⟩ : ∃ xx, T.x = xx := ⟨_, rfl⟩
  rw [hxx] at HPO h5 ⊢
  obtain ⟨xk, xn, xt, xo, xa⟩ := xx
  clear hxx
  dsimp only at h5
  obtain ⟨r, hr⟩ : ∃ r, r = k + 1 := ⟨_, rfl⟩
  rw [← hr] at HPO hk
  have hkl : k ≤ T.ts.length := by omega
  -- the boxes
  obtain ⟨B1, B2, b12⟩ := two_boxes w (.cells #[.int .i64 xk, .int .i64 xn, .string xt, .int .i64 xo, .int .i64 xa, .slice a1 kn c1, .slice a2 tn c2] 29) (.cells #[.int .i64 yk, .int .i64 yn, .string yt, .int .i64 yo, .int .i64 ya, .slice d1 e1 f1, .slice d2 e2 f2] 29)
  have hz2 : ((w.alloc (.cells #[.int .i64 xk, .int .i64 xn, .string xt, .int .i64 xo, .int .i64 xa, .slice a1 kn c1, .slice a2 tn c2] 29)).alloc (.cells #[.int .i64 yk, .int .i64 yn, .string yt, .int .i64 yo, .int .i64 ya, .slice d1 e1 f1, .slice d2 e2 f2] 29)).heap.size = w.heap.size + 2 := by simp
  have b3 := b12.alloc b12.size (.cells #[.int .i64 0, .int .i64 0, .string ⟨#[]⟩, .int .i64 0, .int .i64 0, .slice none 0 0, .slice none 0 0] 29)
  have c3 := (Below.refl (w.heap.size + 2) ((w.alloc (.cells #[.int .i64 xk, .int .i64 xn, .string xt, .int .i64 xo, .int .i64 xa, .slice a1 kn c1, .slice a2 tn c2] 29)).alloc (.cells #[.int .i64 yk, .int .i64 yn, .string yt, .int .i64 yo, .int .i64 ya, .slice d1 e1 f1, .slice d2 e2 f2] 29))).alloc (by omega) (.cells #[.int .i64 0, .int .i64 0, .string ⟨#[]⟩, .int .i64 0, .int .i64 0, .slice none 0 0, .slice none 0 0] 29)
  have B3 := (MapKept.heap_alloc ((w.alloc (.cells #[.int .i64 xk, .int .i64 xn, .string xt, .int .i64 xo, .int .i64 xa, .slice a1 kn c1, .slice a2 tn c2] 29)).alloc (.cells #[.int .i64 yk, .int .i64 yn, .string yt, .int .i64 yo, .int .i64 ya, .slice d1 e1 f1, .slice d2 e2 f2] 29)) (.cells #[.int .i64 0, .int .i64 0, .string ⟨#[]⟩, .int .i64 0, .int .i64 0, .slice none 0 0, .slice none 0 0] 29)).1
  rw [hz2] at B3
  have X0 := (c3.block w.heap.size (by omega)).trans B1
  have Y0 := (c3.block (w.heap.size + 1) (by omega)).trans B2
  have hz3 : (((w.alloc (.cells #[.int .i64 xk, .int .i64 xn, .string xt, .int .i64 xo, .int .i64 xa, .slice a1 kn c1, .slice a2 tn c2] 29)).alloc (.cells #[.int .i64 yk, .int .i64 yn, .string yt, .int .i64 yo, .int .i64 ya, .slice d1 e1 f1, .slice d2 e2 f2] 29)).alloc (.cells #[.int .i64 0, .int .i64 0, .string ⟨#[]⟩, .int .i64 0, .int .i64 0, .slice none 0 0, .slice none 0 0] 29)).heap.size = w.heap.size + 3 := by simp
  obtain ⟨W0, hW0⟩ : ∃ W0, ((w.alloc (.cells #[.int .i64 xk, .int .i64 xn, .string xt, .int .i64 xo, .int .i64 xa, .slice a1 kn c1, .slice a2 tn c2] 29)).alloc (.cells #[.int .i64 yk, .int .i64 yn, .string yt, .int .i64 yo, .int .i64 ya, .slice d1 e1 f1, .slice d2 e2 f2] 29)).alloc (.cells #[.int .i64 0, .int .i64 0, .string ⟨#[]⟩, .int .i64 0, .int .i64 0, .slice none 0 0, .slice none 0 0] 29) = W0 := ⟨_, rfl⟩
  rw [hW0] at b3 B3 X0 Y0 hz3
  have s1 := src_take nr b3 (k := k) (by omega) nc.2 (by omega)
  obtain ⟨v1, W1, q1, o1, g1, l1⟩ := appT 27 W0 (w.heap.size + 3) (by omega) (.slice none 0 0) [] (World.ownsRow_nil W0 (w.heap.size + 3) 29 7) a2 c2 (us.take k) s1.1 s1.2 (hall.take k).cells (by simp; omega)
  rw [List.nil_append] at o1
  have ek : (us.take k).length = k := by rw [List.length_take]; omega
  rw [ek] at q1
  have m1 : Below (w.heap.size) w W1 := b3.trans (l1.mono (by omega))
  have X1 := (l1.block w.heap.size (by omega)).trans X0
  have Y1 := (l1.block (w.heap.size + 1) (by omega)).trans Y0
  have Z1 := (l1.block (w.heap.size + 2) (by omega)).trans B3
  have z1 := l1.size
  have p1 := (Below.refl W1.heap.size W1).alloc (Nat.le_refl _) (.cells #[.int .i64 yk, .int .i64 yn, .string yt, .int .i64 yo, .int .i64 ya, .slice d1 e1 f1, .slice d2 e2 f2] 29)
  have n1 : (W1.alloc (.cells #[.int .i64 yk, .int .i64 yn, .string yt, .int .i64 yo, .int .i64 ya, .slice d1 e1 f1, .slice d2 e2 f2] 29)).heap[W1.heap.size]? = some (.cells #[.int .i64 yk, .int .i64 yn, .string yt, .int .i64 yo, .int .i64 ya, .slice d1 e1 f1, .slice d2 e2 f2] 29) := (MapKept.heap_alloc W1 _).1
  obtain ⟨v2, W2, q2, o2, g2, l2⟩ := appT 27 (W1.alloc (.cells #[.int .i64 yk, .int .i64 yn, .string yt, .int .i64 yo, .int .i64 ya, .slice d1 e1 f1, .slice d2 e2 f2] 29)) (w.heap.size + 3) (by have := p1.size; omega) v1 (us.take k) (own_below o1 p1 (Nat.le_refl _)) (some ⟨W1.heap.size, 0, none⟩) 1 [((⟨yk, yn, yt, yo, ya⟩, .slice d1 e1 f1, .slice d2 e2 f2) : TV)] (fun e => by cases e) (fun ad e j u hj => by
      obtain rfl := Option.some.inj e
      rw [add_at, Nat.zero_add]
      rw [← hj, ← List.getElem?_toArray]
      exact Lib.cell_of_heap n1 j) (AllT.one hX).cells (by simp; omega)
  have m2 : Below (w.heap.size) w W2 := (m1.trans (p1.mono m1.size)).trans (l2.mono (by omega))
  have X2 := (l2.block w.heap.size (by omega)).trans ((p1.block w.heap.size (by omega)).trans X1)
  have Z2 := (l2.block (w.heap.size + 2) (by omega)).trans ((p1.block (w.heap.size + 2) (by omega)).trans Z1)
  have z2 : w.heap.size + 3 ≤ W2.heap.size := by have := p1.size; have := l2.size; omega
  obtain ⟨A2, hA2⟩ : ∃ A2, (if c2 = r then a2 else Option.map (fun x => x.add (r * 7)) a2) = A2 := ⟨_, rfl⟩
  have s3 := src_drop nr m2 (k := r) (by omega) nc.2 (by omega)
  rw [hA2] at s3
  obtain ⟨v3, W3, q3, o3, g3, l3⟩ := appT 27 W2 (w.heap.size + 3) (by omega) v2 (us.take k ++ [((⟨yk, yn, yt, yo, ya⟩, .slice d1 e1 f1, .slice d2 e2 f2) : TV)]) o2 A2 (c2 - r) (us.drop r) s3.1 s3.2 (hall.drop r).cells (by simp; omega)
  have ed : (us.drop r).length = tn - r := by rw [List.length_drop]; omega
  rw [ed] at q3
  have m3 : Below (w.heap.size) w W3 := m2.trans (l3.mono (by omega))
  have X3 := (l3.block w.heap.size (by omega)).trans X2
  have Z3 := (l3.block (w.heap.size + 2) (by omega)).trans Z2
  have z3 : w.heap.size + 3 ≤ W3.heap.size := by have := l3.size; omega
  obtain ⟨ta3, tc3, hv3⟩ := slice_of o3
  have hallF : AllT P w ((us.take k ++ [((⟨yk, yn, yt, yo, ya⟩, .slice d1 e1 f1, .slice d2 e2 f2) : TV)]) ++ us.drop r) ((T.ts.take k ++ [X]) ++ T.ts.drop r) := ((hall.take k).app (AllT.one hX)).app (hall.drop r)
  have s4 := strs_take nk m3 (k := k) (by omega)
  obtain ⟨v4, W4, q4, o4, g4, l4⟩ := appS 26 W3 (w.heap.size + 3) (by omega) (.slice none 0 0) [] (World.ownsRow_nil W3 (w.heap.size + 3) 9 1) a1 c1 (T.ks.take k) s4.1 s4.2 (by simp; omega)
  rw [List.nil_append] at o4
  have ekk : (T.ks.take k).length = k := by rw [List.length_take]; omega
  rw [ekk] at q4
  have m4 : Below (w.heap.size) w W4 := m3.trans (l4.mono (by omega))
  have X4 := (l4.block w.heap.size (by omega)).trans X3
  have Z4 := (l4.block (w.heap.size + 2) (by omega)).trans Z3
  have z4 : w.heap.size + 3 ≤ W4.heap.size := by have := l4.size; omega
  have t4 := own_grown' o3 g4 (World.ownsRow_nil W3 (w.heap.size + 3) 9 1) (by decide)
  have p4 := (Below.refl W4.heap.size W4).alloc (Nat.le_refl _) (.cells #[.string key] 9)
  have n4 : (W4.alloc (.cells #[.string key] 9)).heap[W4.heap.size]? = some (.cells #[.string key] 9) := (MapKept.heap_alloc W4 _).1
  have o4' := own_below o4 p4 (Nat.le_refl _)
  obtain ⟨v5, W5, q5, o5, g5, l5⟩ := appS 26 (W4.alloc (.cells #[.string key] 9)) (w.heap.size + 3) (by have := p4.size; omega) v4 (T.ks.take k) o4' (some ⟨W4.heap.size, 0, none⟩) 1 [key] (fun e => by cases e) (fun ad e j u hj => by
      obtain rfl := Option.some.inj e
      rw [add_at, Nat.zero_add]
      rw [← hj, ← List.getElem?_toArray]
      exact Lib.cell_of_heap n4 j) (by simp; omega)
  have m5 : Below (w.heap.size) w W5 := (m4.trans (p4.mono m4.size)).trans (l5.mono (by omega))
  have X5 := (l5.block w.heap.size (by omega)).trans ((p4.block w.heap.size (by omega)).trans X4)
  have Z5 := (l5.block (w.heap.size + 2) (by omega)).trans ((p4.block (w.heap.size + 2) (by omega)).trans Z4)
  have z5 : w.heap.size + 3 ≤ W5.heap.size := by have := p4.size; have := l5.size; omega
  have t5 := own_grown' (own_below t4 p4 (Nat.le_refl _)) g5 o4' (by decide)
  obtain ⟨A1, hA1⟩ : ∃ A1, (if c1 = r then a1 else Option.map (fun x => x.add r) a1) = A1 := ⟨_, rfl⟩
  have s6 := strs_drop nk m5 (k := r) (by omega)
  rw [hA1] at s6
  obtain ⟨v6, W6, q6, o6, g6, l6⟩ := appS 26 W5 (w.heap.size + 3) (by omega) v5 (T.ks.take k ++ [key]) o5 A1 (c1 - r) (T.ks.drop r) s6.1 s6.2 (by simp; omega)
  have edk : (T.ks.drop r).length = kn - r := by rw [List.length_drop]; omega
  rw [edk] at q6
  have m6 : Below (w.heap.size) w W6 := m5.trans (l6.mono (by omega))
  have X6 := (l6.block w.heap.size (by omega)).trans X5
  have Z6 := (l6.block (w.heap.size + 2) (by omega)).trans Z5
  have z6 : w.heap.size + 3 ≤ W6.heap.size := by have := l6.size; omega
  have t6 := own_grown' t5 g6 o5 (by decide)
  obtain ⟨ka6, kc6, hv6⟩ := slice_of o6
  have HIS : Hid (∀ W', From (w.heap.size + 3) W6 W' → Below w.heap.size w W' → IsTP (fun b => P b ∨ w.heap.size + 3 ≤ b) W' (tval (⟨xk, xn, xt, xo, xa⟩, v6, v3)) (.node ⟨xk, xn, xt, xo, xa⟩ ((T.ks.take k ++ [key]) ++ T.ks.drop r) ((T.ts.take k ++ [X]) ++ T.ts.drop r))) := by
    intro W' hW' hB'
    have hkf : World.ownsRow W' (w.heap.size + 3) 9 1 (v6) ((T.ks.take k ++ [key]) ++ T.ks.drop r).length (scells ((T.ks.take k ++ [key]) ++ T.ks.drop r)) := own_from o6 hW'
    have htf : World.ownsRow W' (w.heap.size + 3) 29 7 v3 ((us.take k ++ [((⟨yk, yn, yt, yo, ya⟩, .slice d1 e1 f1, .slice d2 e2 f2) : TV)]) ++ us.drop r).length (tcs ((us.take k ++ [((⟨yk, yn, yt, yo, ya⟩, .slice d1 e1 f1, .slice d2 e2 f2) : TV)]) ++ us.drop r)) := own_from t6 hW'
    exact tree_of hkf htf (hallF.move hB' (fun _ h => Or.inl h)) (by simp; try omega) (by simp; try omega) (fun _ h => Or.inr h)
  obtain ⟨tl, htl⟩ : ∃ tl, ((us.take k ++ [((⟨yk, yn, yt, yo, ya⟩, .slice d1 e1 f1, .slice d2 e2 f2) : TV)]) ++ us.drop r).length = tl := ⟨_, rfl⟩
  rw [htl] at hv3
  subst hv3
  obtain ⟨kl, hkl2⟩ : ∃ kl, ((T.ks.take k ++ [key]) ++ T.ks.drop r).length = kl := ⟨_, rfl⟩
  rw [hkl2] at hv6
  subst hv6
  have HX7 : Hid (((W6.setCell ⟨w.heap.size, 6, none⟩ (.slice ta3 tl tc3)).setCell ⟨w.heap.size, 5, none⟩ (.slice ka6 kl kc6)).heap[w.heap.size]? = some (.cells #[.int .i64 xk, .int .i64 xn, .string xt, .int .i64 xo, .int .i64 xa, .slice ka6 kl kc6, .slice ta3 tl tc3] 29)) := by
    show _ = _
    rw [set_at (set_at X6 6 _) 5 _]
    simp
  have HZ7 : Hid (((W6.setCell ⟨w.heap.size, 6, none⟩ (.slice ta3 tl tc3)).setCell ⟨w.heap.size, 5, none⟩ (.slice ka6 kl kc6)).heap[w.heap.size + 2]? = some (.cells #[.int .i64 0, .int .i64 0, .string ⟨#[]⟩, .int .i64 0, .int .i64 0, .slice none 0 0, .slice none 0 0] 29)) := heap_set_other (heap_set_other Z6 (by omega)) (by omega)
  have HF7 : Hid (From (w.heap.size + 3) W6 ((W6.setCell ⟨w.heap.size, 6, none⟩ (.slice ta3 tl tc3)).setCell ⟨w.heap.size, 5, none⟩ (.slice ka6 kl kc6))) := (From.set (by omega)).trans (From.set (by omega))
  have HB7 : Hid (Below w.heap.size w ((W6.setCell ⟨w.heap.size, 6, none⟩ (.slice ta3 tl tc3)).setCell ⟨w.heap.size, 5, none⟩ (.slice ka6 kl kc6))) := (m6.setCell (Nat.le_refl _) _).setCell (Nat.le_refl _) _
  have fa6 : W0.cell? ⟨w.heap.size, 6, none⟩ = some (.slice a2 tn c2) := Lib.cell_of_heap X0 6
  have fb0 : W1.cell? ⟨w.heap.size + 1, 0, none⟩ = some (.int .i64 yk) := Lib.cell_of_heap Y1 0
  have fb1 : W1.cell? ⟨w.heap.size + 1, 1, none⟩ = some (.int .i64 yn) := Lib.cell_of_heap Y1 1
  have fb2 : W1.cell? ⟨w.heap.size + 1, 2, none⟩ = some (.string yt) := Lib.cell_of_heap Y1 2
  have fb3 : W1.cell? ⟨w.heap.size + 1, 3, none⟩ = some (.int .i64 yo) := Lib.cell_of_heap Y1 3
  have fb4 : W1.cell? ⟨w.heap.size + 1, 4, none⟩ = some (.int .i64 ya) := Lib.cell_of_heap Y1 4
  have fb5 : W1.cell? ⟨w.heap.size + 1, 5, none⟩ = some (.slice d1 e1 f1) := Lib.cell_of_heap Y1 5
  have fb6 : W1.cell? ⟨w.heap.size + 1, 6, none⟩ = some (.slice d2 e2 f2) := Lib.cell_of_heap Y1 6
  have fc6 : W2.cell? ⟨w.heap.size, 6, none⟩ = some (.slice a2 tn c2) := Lib.cell_of_heap X2 6
  have fd0 : W3.cell? ⟨w.heap.size, 0, none⟩ = some (.int .i64 xk) := Lib.cell_of_heap X3 0
  have fd5 : W3.cell? ⟨w.heap.size, 5, none⟩ = some (.slice a1 kn c1) := Lib.cell_of_heap X3 5
  have fe5 : W5.cell? ⟨w.heap.size, 5, none⟩ = some (.slice a1 kn c1) := Lib.cell_of_heap X5 5
  have ff0 : W6.cell? ⟨w.heap.size, 0, none⟩ = some (.int .i64 xk) := Lib.cell_of_heap X6 0
  have ff1 : W6.cell? ⟨w.heap.size, 1, none⟩ = some (.int .i64 xn) := Lib.cell_of_heap X6 1
  have ff2 : W6.cell? ⟨w.heap.size, 2, none⟩ = some (.string xt) := Lib.cell_of_heap X6 2
  have ff3 : W6.cell? ⟨w.heap.size, 3, none⟩ = some (.int .i64 xo) := Lib.cell_of_heap X6 3
  have ff4 : W6.cell? ⟨w.heap.size, 4, none⟩ = some (.int .i64 xa) := Lib.cell_of_heap X6 4
  have ff5 : W6.cell? ⟨w.heap.size, 5, none⟩ = some (.slice a1 kn c1) := Lib.cell_of_heap X6 5
  have ff6 : W6.cell? ⟨w.heap.size, 6, none⟩ = some (.slice a2 tn c2) := Lib.cell_of_heap X6 6
  have fff := Lib.frozen_of_heap X6
  have g1' : (k : Int) ≤ c2 := by have := nc.1; omega
  have g2' : (r : Int) ≤ tn := by omega
  have g3' : (k : Int) ≤ c1 := by obtain ⟨_, _, e, h9, _⟩ := nk; have := (Value.slice.inj e).2.2; omega
  have g4' : (r : Int) ≤ kn := by omega
  subst h5
  have hw : wrap64 ((k : Int) + 1) = (r : Int) := by unfold wrap64; omega
  clear hT hX nk nl nz nr ni hall HN htn hkn hs b12 hz2 b3 c3 B1 B2 B3 X0 Y0 hz3 s1 o1 g1 l1 m1 X1 Y1 Z1 z1 hkl s3 o3 g3 l3 ed m3 X3 Z3 z3 hallF htl ek hk nc p1 n1 o2 g2 l2 m2 X2 Z2 z2 s4 o4 g4 l4 ekk m4 X4 Z4 z4 t4 s6 o6 g6 l6 edk m6 X6 Z6 z6 t6 hkl2 hlk p4 n4 o4' o5 g5 l5 m5 X5 Z5 z5 t5 hr
  unfold tval
  dsimp only
  go_enter Tryd.func19, Tryd.ntmps19
  go_upto_region 3 with fail
  try rw [hW0]
  clear hW0
  go_upto_region 17 with (first | (at_builtin; refine wp_append rfl _ _ 27 rfl _ _ _ _ rfl rfl q1 ?_) | (at_builtin; refine wp_append rfl _ _ 27 rfl _ _ _ _ rfl rfl q2 ?_) | (at_builtin; refine wp_append rfl _ _ 27 rfl _ _ _ _ rfl rfl q3 ?_) | (at_builtin; refine wp_append rfl _ _ 26 rfl _ _ _ _ rfl rfl q4 ?_) | (at_builtin; refine wp_append rfl _ _ 26 rfl _ _ _ _ rfl rfl q5 ?_) | (at_builtin; refine wp_append rfl _ _ 26 rfl _ _ _ _ rfl rfl q6 ?_))
  clear q1 q3 q2 q4 q6 q5
  generalize (W6.setCell ⟨w.heap.size, 6, none⟩ (.slice ta3 tl tc3)).setCell ⟨w.heap.size, 5, none⟩ (.slice ka6 kl kc6) = W7 at *
  have x0 : W7.cell? ⟨w.heap.size, 0, none⟩ = some (.int .i64 5) := Lib.cell_of_heap HX7.out 0
  have x1 : W7.cell? ⟨w.heap.size, 1, none⟩ = some (.int .i64 xn) := Lib.cell_of_heap HX7.out 1
  have x2 : W7.cell? ⟨w.heap.size, 2, none⟩ = some (.string xt) := Lib.cell_of_heap HX7.out 2
  have x3 : W7.cell? ⟨w.heap.size, 3, none⟩ = some (.int .i64 xo) := Lib.cell_of_heap HX7.out 3
  have x4 : W7.cell? ⟨w.heap.size, 4, none⟩ = some (.int .i64 xa) := Lib.cell_of_heap HX7.out 4
  have x5 : W7.cell? ⟨w.heap.size, 5, none⟩ = some (.slice ka6 kl kc6) := Lib.cell_of_heap HX7.out 5
  have x6 : W7.cell? ⟨w.heap.size, 6, none⟩ = some (.slice ta3 tl tc3) := Lib.cell_of_heap HX7.out 6
  have z0 : W7.cell? ⟨w.heap.size + 2, 0, none⟩ = some (.int .i64 0) := Lib.cell_of_heap HZ7.out 0
  have z1 : W7.cell? ⟨w.heap.size + 2, 1, none⟩ = some (.int .i64 0) := Lib.cell_of_heap HZ7.out 1
  have z2 : W7.cell? ⟨w.heap.size + 2, 2, none⟩ = some (.string ⟨#[]⟩) := Lib.cell_of_heap HZ7.out 2
  have z3 : W7.cell? ⟨w.heap.size + 2, 3, none⟩ = some (.int .i64 0) := Lib.cell_of_heap HZ7.out 3
  have z4 : W7.cell? ⟨w.heap.size + 2, 4, none⟩ = some (.int .i64 0) := Lib.cell_of_heap HZ7.out 4
  have z5 : W7.cell? ⟨w.heap.size + 2, 5, none⟩ = some (.slice none 0 0) := Lib.cell_of_heap HZ7.out 5
  have z6 : W7.cell? ⟨w.heap.size + 2, 6, none⟩ = some (.slice none 0 0) := Lib.cell_of_heap HZ7.out 6
  have zf := Lib.frozen_of_heap HZ7.out
  have HBF : Hid (Below w.heap.size w (put7 W7 (w.heap.size + 2) 0 (⟨5, xn, xt, xo, xa⟩, .slice ka6 kl kc6, .slice ta3 tl tc3))) := put7_below HB7.out _ _ _ (by omega)
  have HHF : Hid ((put7 W7 (w.heap.size + 2) 0 (⟨5, xn, xt, xo, xa⟩, .slice ka6 kl kc6, .slice ta3 tl tc3)).heap[w.heap.size + 2]? = some _) := set7 HZ7.out (.int .i64 5) (.int .i64 xn) (.string xt) (.int .i64 xo) (.int .i64 xa) (.slice ka6 kl kc6) (.slice ta3 tl tc3)
  have HFF : Hid (From (w.heap.size + 3) W7 (put7 W7 (w.heap.size + 2) 0 (⟨5, xn, xt, xo, xa⟩, .slice ka6 kl kc6, .slice ta3 tl tc3))) := ⟨(put7_below (Below.refl 0 W7) _ _ _ (Nat.zero_le _)).size, fun k hk _ => put7_other W7 _ _ _ k (by omega)⟩
  go_wp2
  clear x0 x1 x2 x3 x4 x5 x6 z0 z1 z2 z3 z4 z5 z6 zf
  dsimp only [put7, Nat.zero_add] at HFF HBF HHF
  generalize ((((((W7.setCell ⟨w.heap.size + 2, 0, none⟩ (.int .i64 5)).setCell ⟨w.heap.size + 2, 1, none⟩ (.int .i64 xn)).setCell ⟨w.heap.size + 2, 2, none⟩ (.string xt)).setCell ⟨w.heap.size + 2, 3, none⟩ (.int .i64 xo)).setCell ⟨w.heap.size + 2, 4, none⟩ (.int .i64 xa)).setCell ⟨w.heap.size + 2, 5, none⟩ (.slice ka6 kl kc6)).setCell ⟨w.heap.size + 2, 6, none⟩ (.slice ta3 tl tc3) = VV at *
  obtain ⟨q0, q1, q2, q3, q4, q5, q6⟩ := tboxed (u := (⟨5, xn, xt, xo, xa⟩, .slice ka6 kl kc6, .slice ta3 tl tc3)) HHF.out
  dsimp only at q0 q1 q2 q3 q4 q5 q6
  refine bodyPost_ret (v := tval (⟨5, xn, xt, xo, xa⟩, .slice ka6 kl kc6, .slice ta3 tl tc3)) (by simp [tval, results, Tryd.results19, go_sem, q0, q1, q2, q3, q4, q5, q6]) rfl ?_
  rw [HPO.out]
  exact ⟨_, rfl, HIS.out VV (HF7.out.trans HFF.out) HBF.out, HBF.out⟩

set_option maxRecDepth 100000 in
set_option maxHeartbeats 8000000 in
theorem put_set {P : Nat → Prop} {v vx : Value} {T X : JT} (k : Nat) (key : ByteArray) (w : World) (hT : IsTP P w v T) (hX : IsTP P w vx X) (h5 : T.x.k ≠ 5) (hk : k + 1 ≤ T.ts.length) (hs : T.ks.length ≤ 1000 ∧ T.ts.length ≤ 1000) :
    Calls Tryd.prog 19 #[v, .int .i64 k, vx, .bool false, .bool false, .string key] w fun e w' => PutP P w T.x (([] : List ByteArray)) ((T.ts.take k ++ [X]) ++ T.ts.drop (k + 1)) e w' := by
  obtain ⟨ux, rfl⟩ := hX.plain.of_val
  obtain ⟨eT, uk, a2, c2, us, rfl, nk0, nl, nc, nz, nr0, ni⟩ := hT.inv
  have nr := nr0.row
  have nk := nk0.strs
  obtain ⟨a1, c1, rfl, -, -, -⟩ := id nk
  clear eT nk0 nr0
  have hall : AllT P w us T.ts := ⟨nl, ni⟩
  obtain ⟨⟨yk, yn, yt, yo, ya⟩, d1, e1, f1, d2, e2, f2, hux⟩ := hX.plain.parts
  subst hux
  obtain ⟨tn, htn⟩ : ∃ tn, tn = T.ts.length := ⟨_, rfl⟩
  obtain ⟨kn, hkn⟩ : ∃ kn, kn = T.ks.length := ⟨_, rfl⟩
  have HN : Hid (tn = T.ts.length ∧ kn = T.ks.length) := ⟨htn, hkn⟩
  obtain ⟨post, hpost⟩ : ∃ post, post = PutP P w T.x (([] : List ByteArray)) ((T.ts.take k ++ [X]) ++ T.ts.drop (k + 1)) := ⟨_, rfl⟩
  rw [← hpost]
  have HPO : Hid (post = PutP P w T.x (([] : List ByteArray)) ((T.ts.take k ++ [X]) ++ T.ts.drop (k + 1))) := hpost
  clear hpost
  rw [← htn, ← hkn]
  rw [← hkn] at nk
  obtain ⟨xx, hxx⟩ : ∃ xx, T.x = xx := ⟨_, rfl⟩
  rw [hxx] at HPO h5 ⊢
  obtain ⟨xk, xn, xt, xo, xa⟩ := xx
  clear hxx
  dsimp only at h5
  obtain ⟨r, hr⟩ : ∃ r, r = k + 1 := ⟨_, rfl⟩
  rw [← hr] at HPO hk
  have hkl : k ≤ T.ts.length := by omega
  -- the boxes
  obtain ⟨B1, B2, b12⟩ := two_boxes w (.cells #[.int .i64 xk, .int .i64 xn, .string xt, .int .i64 xo, .int .i64 xa, .slice a1 kn c1, .slice a2 tn c2] 29) (.cells #[.int .i64 yk, .int .i64 yn, .string yt, .int .i64 yo, .int .i64 ya, .slice d1 e1 f1, .slice d2 e2 f2] 29)
  have hz2 : ((w.alloc (.cells #[.int .i64 xk, .int .i64 xn, .string xt, .int .i64 xo, .int .i64 xa, .slice a1 kn c1, .slice a2 tn c2] 29)).alloc (.cells #[.int .i64 yk, .int .i64 yn, .string yt, .int .i64 yo, .int .i64 ya, .slice d1 e1 f1, .slice d2 e2 f2] 29)).heap.size = w.heap.size + 2 := by simp
  have b3 := b12.alloc b12.size (.cells #[.int .i64 0, .int .i64 0, .string ⟨#[]⟩, .int .i64 0, .int .i64 0, .slice none 0 0, .slice none 0 0] 29)
  have c3 := (Below.refl (w.heap.size + 2) ((w.alloc (.cells #[.int .i64 xk, .int .i64 xn, .string xt, .int .i64 xo, .int .i64 xa, .slice a1 kn c1, .slice a2 tn c2] 29)).alloc (.cells #[.int .i64 yk, .int .i64 yn, .string yt, .int .i64 yo, .int .i64 ya, .slice d1 e1 f1, .slice d2 e2 f2] 29))).alloc (by omega) (.cells #[.int .i64 0, .int .i64 0, .string ⟨#[]⟩, .int .i64 0, .int .i64 0, .slice none 0 0, .slice none 0 0] 29)
  have B3 := (MapKept.heap_alloc ((w.alloc (.cells #[.int .i64 xk, .int .i64 xn, .string xt, .int .i64 xo, .int .i64 xa, .slice a1 kn c1, .slice a2 tn c2] 29)).alloc (.cells #[.int .i64 yk, .int .i64 yn, .string yt, .int .i64 yo, .int .i64 ya, .slice d1 e1 f1, .slice d2 e2 f2] 29)) (.cells #[.int .i64 0, .int .i64 0, .string ⟨#[]⟩, .int .i64 0, .int .i64 0, .slice none 0 0, .slice none 0 0] 29)).1
  rw [hz2] at B3
  have X0 := (c3.block w.heap.size (by omega)).trans B1
  have Y0 := (c3.block (w.heap.size + 1) (by omega)).trans B2
  have hz3 : (((w.alloc (.cells #[.int .i64 xk, .int .i64 xn, .string xt, .int .i64 xo, .int .i64 xa, .slice a1 kn c1, .slice a2 tn c2] 29)).alloc (.cells #[.int .i64 yk, .int .i64 yn, .string yt, .int .i64 yo, .int .i64 ya, .slice d1 e1 f1, .slice d2 e2 f2] 29)).alloc (.cells #[.int .i64 0, .int .i64 0, .string ⟨#[]⟩, .int .i64 0, .int .i64 0, .slice none 0 0, .slice none 0 0] 29)).heap.size = w.heap.size + 3 := by simp
  obtain ⟨W0, hW0⟩ : ∃ W0, ((w.alloc (.cells #[.int .i64 xk, .int .i64 xn, .string xt, .int .i64 xo, .int .i64 xa, .slice a1 kn c1, .slice a2 tn c2] 29)).alloc (.cells #[.int .i64 yk, .int .i64 yn, .string yt, .int .i64 yo, .int .i64 ya, .slice d1 e1 f1, .slice d2 e2 f2] 29)).alloc (.cells #[.int .i64 0, .int .i64 0, .string ⟨#[]⟩, .int .i64 0, .int .i64 0, .slice none 0 0, .slice none 0 0] 29) = W0 := ⟨_, rfl⟩
  rw [hW0] at b3 B3 X0 Y0 hz3
  have s1 := src_take nr b3 (k := k) (by omega) nc.2 (by omega)
  obtain ⟨v1, W1, q1, o1, g1, l1⟩ := appT 27 W0 (w.heap.size + 3) (by omega) (.slice none 0 0) [] (World.ownsRow_nil W0 (w.heap.size + 3) 29 7) a2 c2 (us.take k) s1.1 s1.2 (hall.take k).cells (by simp; omega)
  rw [List.nil_append] at o1
  have ek : (us.take k).length = k := by rw [List.length_take]; omega
  rw [ek] at q1
  have m1 : Below (w.heap.size) w W1 := b3.trans (l1.mono (by omega))
  have X1 := (l1.block w.heap.size (by omega)).trans X0
  have Y1 := (l1.block (w.heap.size + 1) (by omega)).trans Y0
  have Z1 := (l1.block (w.heap.size + 2) (by omega)).trans B3
  have z1 := l1.size
  have p1 := (Below.refl W1.heap.size W1).alloc (Nat.le_refl _) (.cells #[.int .i64 yk, .int .i64 yn, .string yt, .int .i64 yo, .int .i64 ya, .slice d1 e1 f1, .slice d2 e2 f2] 29)
  have n1 : (W1.alloc (.cells #[.int .i64 yk, .int .i64 yn, .string yt, .int .i64 yo, .int .i64 ya, .slice d1 e1 f1, .slice d2 e2 f2] 29)).heap[W1.heap.size]? = some (.cells #[.int .i64 yk, .int .i64 yn, .string yt, .int .i64 yo, .int .i64 ya, .slice d1 e1 f1, .slice d2 e2 f2] 29) := (MapKept.heap_alloc W1 _).1
  obtain ⟨v2, W2, q2, o2, g2, l2⟩ := appT 27 (W1.alloc (.cells #[.int .i64 yk, .int .i64 yn, .string yt, .int .i64 yo, .int .i64 ya, .slice d1 e1 f1, .slice d2 e2 f2] 29)) (w.heap.size + 3) (by have := p1.size; omega) v1 (us.take k) (own_below o1 p1 (Nat.le_refl _)) (some ⟨W1.heap.size, 0, none⟩) 1 [((⟨yk, yn, yt, yo, ya⟩, .slice d1 e1 f1, .slice d2 e2 f2) : TV)] (fun e => by cases e) (fun ad e j u hj => by
      obtain rfl := Option.some.inj e
      rw [add_at, Nat.zero_add]
      rw [← hj, ← List.getElem?_toArray]
      exact Lib.cell_of_heap n1 j) (AllT.one hX).cells (by simp; omega)
  have m2 : Below (w.heap.size) w W2 := (m1.trans (p1.mono m1.size)).trans (l2.mono (by omega))
  have X2 := (l2.block w.heap.size (by omega)).trans ((p1.block w.heap.size (by omega)).trans X1)
  have Z2 := (l2.block (w.heap.size + 2) (by omega)).trans ((p1.block (w.heap.size + 2) (by omega)).trans Z1)
  have z2 : w.heap.size + 3 ≤ W2.heap.size := by have := p1.size; have := l2.size; omega
  obtain ⟨A2, hA2⟩ : ∃ A2, (if c2 = r then a2 else Option.map (fun x => x.add (r * 7)) a2) = A2 := ⟨_, rfl⟩
  have s3 := src_drop nr m2 (k := r) (by omega) nc.2 (by omega)
  rw [hA2] at s3
  obtain ⟨v3, W3, q3, o3, g3, l3⟩ := appT 27 W2 (w.heap.size + 3) (by omega) v2 (us.take k ++ [((⟨yk, yn, yt, yo, ya⟩, .slice d1 e1 f1, .slice d2 e2 f2) : TV)]) o2 A2 (c2 - r) (us.drop r) s3.1 s3.2 (hall.drop r).cells (by simp; omega)
  have ed : (us.drop r).length = tn - r := by rw [List.length_drop]; omega
  rw [ed] at q3
  have m3 : Below (w.heap.size) w W3 := m2.trans (l3.mono (by omega))
  have X3 := (l3.block w.heap.size (by omega)).trans X2
  have Z3 := (l3.block (w.heap.size + 2) (by omega)).trans Z2
  have z3 : w.heap.size + 3 ≤ W3.heap.size := by have := l3.size; omega
  obtain ⟨ta3, tc3, hv3⟩ := slice_of o3
  have hallF : AllT P w ((us.take k ++ [((⟨yk, yn, yt, yo, ya⟩, .slice d1 e1 f1, .slice d2 e2 f2) : TV)]) ++ us.drop r) ((T.ts.take k ++ [X]) ++ T.ts.drop r) := ((hall.take k).app (AllT.one hX)).app (hall.drop r)
  have HIS : Hid (∀ W', From (w.heap.size + 3) W3 W' → Below w.heap.size w W' → IsTP (fun b => P b ∨ w.heap.size + 3 ≤ b) W' (tval (⟨xk, xn, xt, xo, xa⟩, .slice none 0 0, v3)) (.node ⟨xk, xn, xt, xo, xa⟩ (([] : List ByteArray)) ((T.ts.take k ++ [X]) ++ T.ts.drop r))) := by
    intro W' hW' hB'
    have hkf : World.ownsRow W' (w.heap.size + 3) 9 1 (.slice none 0 0) (([] : List ByteArray)).length (scells (([] : List ByteArray))) := own_from (World.ownsRow_nil W3 (w.heap.size + 3) 9 1) hW'
    have htf : World.ownsRow W' (w.heap.size + 3) 29 7 v3 ((us.take k ++ [((⟨yk, yn, yt, yo, ya⟩, .slice d1 e1 f1, .slice d2 e2 f2) : TV)]) ++ us.drop r).length (tcs ((us.take k ++ [((⟨yk, yn, yt, yo, ya⟩, .slice d1 e1 f1, .slice d2 e2 f2) : TV)]) ++ us.drop r)) := own_from o3 hW'
    exact tree_of hkf htf (hallF.move hB' (fun _ h => Or.inl h)) (by simp; try omega) (by simp; try omega) (fun _ h => Or.inr h)
  obtain ⟨tl, htl⟩ : ∃ tl, ((us.take k ++ [((⟨yk, yn, yt, yo, ya⟩, .slice d1 e1 f1, .slice d2 e2 f2) : TV)]) ++ us.drop r).length = tl := ⟨_, rfl⟩
  rw [htl] at hv3
  subst hv3
  have HX7 : Hid (((W3.setCell ⟨w.heap.size, 6, none⟩ (.slice ta3 tl tc3)).setCell ⟨w.heap.size, 5, none⟩ (.slice none 0 0)).heap[w.heap.size]? = some (.cells #[.int .i64 xk, .int .i64 xn, .string xt, .int .i64 xo, .int .i64 xa, .slice none 0 0, .slice ta3 tl tc3] 29)) := by
    show _ = _
    rw [set_at (set_at X3 6 _) 5 _]
    simp
  have HZ7 : Hid (((W3.setCell ⟨w.heap.size, 6, none⟩ (.slice ta3 tl tc3)).setCell ⟨w.heap.size, 5, none⟩ (.slice none 0 0)).heap[w.heap.size + 2]? = some (.cells #[.int .i64 0, .int .i64 0, .string ⟨#[]⟩, .int .i64 0, .int .i64 0, .slice none 0 0, .slice none 0 0] 29)) := heap_set_other (heap_set_other Z3 (by omega)) (by omega)
  have HF7 : Hid (From (w.heap.size + 3) W3 ((W3.setCell ⟨w.heap.size, 6, none⟩ (.slice ta3 tl tc3)).setCell ⟨w.heap.size, 5, none⟩ (.slice none 0 0))) := (From.set (by omega)).trans (From.set (by omega))
  have HB7 : Hid (Below w.heap.size w ((W3.setCell ⟨w.heap.size, 6, none⟩ (.slice ta3 tl tc3)).setCell ⟨w.heap.size, 5, none⟩ (.slice none 0 0))) := (m3.setCell (Nat.le_refl _) _).setCell (Nat.le_refl _) _
  have fa6 : W0.cell? ⟨w.heap.size, 6, none⟩ = some (.slice a2 tn c2) := Lib.cell_of_heap X0 6
  have fb0 : W1.cell? ⟨w.heap.size + 1, 0, none⟩ = some (.int .i64 yk) := Lib.cell_of_heap Y1 0
  have fb1 : W1.cell? ⟨w.heap.size + 1, 1, none⟩ = some (.int .i64 yn) := Lib.cell_of_heap Y1 1
  have fb2 : W1.cell? ⟨w.heap.size + 1, 2, none⟩ = some (.string yt) := Lib.cell_of_heap Y1 2
  have fb3 : W1.cell? ⟨w.heap.size + 1, 3, none⟩ = some (.int .i64 yo) := Lib.cell_of_heap Y1 3
  have fb4 : W1.cell? ⟨w.heap.size + 1, 4, none⟩ = some (.int .i64 ya) := Lib.cell_of_heap Y1 4
  have fb5 : W1.cell? ⟨w.heap.size + 1, 5, none⟩ = some (.slice d1 e1 f1) := Lib.cell_of_heap Y1 5
  have fb6 : W1.cell? ⟨w.heap.size + 1, 6, none⟩ = some (.slice d2 e2 f2) := Lib.cell_of_heap Y1 6
  have fc6 : W2.cell? ⟨w.heap.size, 6, none⟩ = some (.slice a2 tn c2) := Lib.cell_of_heap X2 6
  have fd0 : W3.cell? ⟨w.heap.size, 0, none⟩ = some (.int .i64 xk) := Lib.cell_of_heap X3 0
  have fd5 : W3.cell? ⟨w.heap.size, 5, none⟩ = some (.slice a1 kn c1) := Lib.cell_of_heap X3 5
  have ff0 : W3.cell? ⟨w.heap.size, 0, none⟩ = some (.int .i64 xk) := Lib.cell_of_heap X3 0
  have ff1 : W3.cell? ⟨w.heap.size, 1, none⟩ = some (.int .i64 xn) := Lib.cell_of_heap X3 1
  have ff2 : W3.cell? ⟨w.heap.size, 2, none⟩ = some (.string xt) := Lib.cell_of_heap X3 2
  have ff3 : W3.cell? ⟨w.heap.size, 3, none⟩ = some (.int .i64 xo) := Lib.cell_of_heap X3 3
  have ff4 : W3.cell? ⟨w.heap.size, 4, none⟩ = some (.int .i64 xa) := Lib.cell_of_heap X3 4
  have ff5 : W3.cell? ⟨w.heap.size, 5, none⟩ = some (.slice a1 kn c1) := Lib.cell_of_heap X3 5
  have ff6 : W3.cell? ⟨w.heap.size, 6, none⟩ = some (.slice a2 tn c2) := Lib.cell_of_heap X3 6
  have fff := Lib.frozen_of_heap X3
  have g1' : (k : Int) ≤ c2 := by have := nc.1; omega
  have g2' : (r : Int) ≤ tn := by omega
  have h5' : (xk == 5) = false := by simpa using h5
  clear h5
  have hw : wrap64 ((k : Int) + 1) = (r : Int) := by unfold wrap64; omega
  clear hT hX nk nl nz nr ni hall HN htn hkn hs b12 hz2 b3 c3 B1 B2 B3 X0 Y0 hz3 s1 o1 g1 l1 m1 X1 Y1 Z1 z1 hkl s3 o3 g3 l3 ed m3 X3 Z3 z3 hallF htl ek hk nc p1 n1 o2 g2 l2 m2 X2 Z2 z2 hr
  unfold tval
  dsimp only
  go_enter Tryd.func19, Tryd.ntmps19
  go_upto_region 3 with fail
  try rw [hW0]
  clear hW0
  go_upto_region 17 with (first | (at_builtin; refine wp_append rfl _ _ 27 rfl _ _ _ _ rfl rfl q1 ?_) | (at_builtin; refine wp_append rfl _ _ 27 rfl _ _ _ _ rfl rfl q2 ?_) | (at_builtin; refine wp_append rfl _ _ 27 rfl _ _ _ _ rfl rfl q3 ?_))
  clear q1 q3 q2
  generalize (W3.setCell ⟨w.heap.size, 6, none⟩ (.slice ta3 tl tc3)).setCell ⟨w.heap.size, 5, none⟩ (.slice none 0 0) = W7 at *
  have x0 : W7.cell? ⟨w.heap.size, 0, none⟩ = some (.int .i64 xk) := Lib.cell_of_heap HX7.out 0
  have x1 : W7.cell? ⟨w.heap.size, 1, none⟩ = some (.int .i64 xn) := Lib.cell_of_heap HX7.out 1
  have x2 : W7.cell? ⟨w.heap.size, 2, none⟩ = some (.string xt) := Lib.cell_of_heap HX7.out 2
  have x3 : W7.cell? ⟨w.heap.size, 3, none⟩ = some (.int .i64 xo) := Lib.cell_of_heap HX7.out 3
  have x4 : W7.cell? ⟨w.heap.size, 4, none⟩ = some (.int .i64 xa) := Lib.cell_of_heap HX7.out 4
  have x5 : W7.cell? ⟨w.heap.size, 5, none⟩ = some (.slice none 0 0) := Lib.cell_of_heap HX7.out 5
  have x6 : W7.cell? ⟨w.heap.size, 6, none⟩ = some (.slice ta3 tl tc3) := Lib.cell_of_heap HX7.out 6
  have z0 : W7.cell? ⟨w.heap.size + 2, 0, none⟩ = some (.int .i64 0) := Lib.cell_of_heap HZ7.out 0
  have z1 : W7.cell? ⟨w.heap.size + 2, 1, none⟩ = some (.int .i64 0) := Lib.cell_of_heap HZ7.out 1
  have z2 : W7.cell? ⟨w.heap.size + 2, 2, none⟩ = some (.string ⟨#[]⟩) := Lib.cell_of_heap HZ7.out 2
  have z3 : W7.cell? ⟨w.heap.size + 2, 3, none⟩ = some (.int .i64 0) := Lib.cell_of_heap HZ7.out 3
  have z4 : W7.cell? ⟨w.heap.size + 2, 4, none⟩ = some (.int .i64 0) := Lib.cell_of_heap HZ7.out 4
  have z5 : W7.cell? ⟨w.heap.size + 2, 5, none⟩ = some (.slice none 0 0) := Lib.cell_of_heap HZ7.out 5
  have z6 : W7.cell? ⟨w.heap.size + 2, 6, none⟩ = some (.slice none 0 0) := Lib.cell_of_heap HZ7.out 6
  have zf := Lib.frozen_of_heap HZ7.out
  have HBF : Hid (Below w.heap.size w (put7 W7 (w.heap.size + 2) 0 (⟨xk, xn, xt, xo, xa⟩, .slice none 0 0, .slice ta3 tl tc3))) := put7_below HB7.out _ _ _ (by omega)
  have HHF : Hid ((put7 W7 (w.heap.size + 2) 0 (⟨xk, xn, xt, xo, xa⟩, .slice none 0 0, .slice ta3 tl tc3)).heap[w.heap.size + 2]? = some _) := set7 HZ7.out (.int .i64 xk) (.int .i64 xn) (.string xt) (.int .i64 xo) (.int .i64 xa) (.slice none 0 0) (.slice ta3 tl tc3)
  have HFF : Hid (From (w.heap.size + 3) W7 (put7 W7 (w.heap.size + 2) 0 (⟨xk, xn, xt, xo, xa⟩, .slice none 0 0, .slice ta3 tl tc3))) := ⟨(put7_below (Below.refl 0 W7) _ _ _ (Nat.zero_le _)).size, fun k hk _ => put7_other W7 _ _ _ k (by omega)⟩
  go_wp2
  clear x0 x1 x2 x3 x4 x5 x6 z0 z1 z2 z3 z4 z5 z6 zf
  dsimp only [put7, Nat.zero_add] at HFF HBF HHF
  generalize ((((((W7.setCell ⟨w.heap.size + 2, 0, none⟩ (.int .i64 xk)).setCell ⟨w.heap.size + 2, 1, none⟩ (.int .i64 xn)).setCell ⟨w.heap.size + 2, 2, none⟩ (.string xt)).setCell ⟨w.heap.size + 2, 3, none⟩ (.int .i64 xo)).setCell ⟨w.heap.size + 2, 4, none⟩ (.int .i64 xa)).setCell ⟨w.heap.size + 2, 5, none⟩ (.slice none 0 0)).setCell ⟨w.heap.size + 2, 6, none⟩ (.slice ta3 tl tc3) = VV at *
  obtain ⟨q0, q1, q2, q3, q4, q5, q6⟩ := tboxed (u := (⟨xk, xn, xt, xo, xa⟩, .slice none 0 0, .slice ta3 tl tc3)) HHF.out
  dsimp only at q0 q1 q2 q3 q4 q5 q6
  refine bodyPost_ret (v := tval (⟨xk, xn, xt, xo, xa⟩, .slice none 0 0, .slice ta3 tl tc3)) (by simp [tval, results, Tryd.results19, go_sem, q0, q1, q2, q3, q4, q5, q6]) rfl ?_
  rw [HPO.out]
  exact ⟨_, rfl, HIS.out VV (HF7.out.trans HFF.out) HBF.out, HBF.out⟩

set_option maxRecDepth 100000 in
set_option maxHeartbeats 8000000 in
theorem put_ins5 {P : Nat → Prop} {v vx : Value} {T X : JT} (k : Nat) (key : ByteArray) (w : World) (hT : IsTP P w v T) (hX : IsTP P w vx X) (h5 : T.x.k = 5) (hk : k ≤ T.ts.length) (hlk : T.ks.length = T.ts.length) (hs : T.ks.length ≤ 1000 ∧ T.ts.length ≤ 1000) :
    Calls Tryd.prog 19 #[v, .int .i64 k, vx, .bool true, .bool false, .string key] w fun e w' => PutP P w T.x ((T.ks.take k ++ [key]) ++ T.ks.drop (k)) ((T.ts.take k ++ [X]) ++ T.ts.drop (k)) e w' := by
  obtain ⟨ux, rfl⟩ := hX.plain.of_val
  obtain ⟨eT, uk, a2, c2, us, rfl, nk0, nl, nc, nz, nr0, ni⟩ := hT.inv
  have nr := nr0.row
  have nk := nk0.strs
  obtain ⟨a1, c1, rfl, -, -, -⟩ := id nk
  clear eT nk0 nr0
  have hall : AllT P w us T.ts := ⟨nl, ni⟩
  obtain ⟨⟨yk, yn, yt, yo, ya⟩, d1, e1, f1, d2, e2, f2, hux⟩ := hX.plain.parts
  subst hux
  obtain ⟨tn, htn⟩ : ∃ tn, tn = T.ts.length := ⟨_, rfl⟩
  obtain ⟨kn, hkn⟩ : ∃ kn, kn = T.ks.length := ⟨_, rfl⟩
  have HN : Hid (tn = T.ts.length ∧ kn = T.ks.length) := ⟨htn, hkn⟩
  obtain ⟨post, hpost⟩ : ∃ post, post = PutP P w T.x ((T.ks.take k ++ [key]) ++ T.ks.drop (k)) ((T.ts.take k ++ [X]) ++ T.ts.drop (k)) := ⟨_, rfl⟩
  rw [← hpost]
  have HPO : Hid (post = PutP P w T.x ((T.ks.take k ++ [key]) ++ T.ks.drop (k)) ((T.ts.take k ++ [X]) ++ T.ts.drop (k))) := hpost
  clear hpost
  rw [← htn, ← hkn]
  rw [← hkn] at nk
  obtain ⟨xx, hxx⟩ : ∃ xx, T.x = xx := ⟨_, rfl⟩
  rw [hxx] at HPO h5 ⊢
  obtain ⟨xk, xn, xt, xo, xa⟩ := xx
  clear hxx
  dsimp only at h5
  obtain ⟨r, hr⟩ : ∃ r, r = k := ⟨_, rfl⟩
  rw [← hr] at HPO hk
  have hkl : k ≤ T.ts.length := by omega
  -- the boxes
  obtain ⟨B1, B2, b12⟩ := two_boxes w (.cells #[.int .i64 xk, .int .i64 xn, .string xt, .int .i64 xo, .int .i64 xa, .slice a1 kn c1, .slice a2 tn c2] 29) (.cells #[.int .i64 yk, .int .i64 yn, .string yt, .int .i64 yo, .int .i64 ya, .slice d1 e1 f1, .slice d2 e2 f2] 29)
  have hz2 : ((w.alloc (.cells #[.int .i64 xk, .int .i64 xn, .string xt, .int .i64 xo, .int .i64 xa, .slice a1 kn c1, .slice a2 tn c2] 29)).alloc (.cells #[.int .i64 yk, .int .i64 yn, .string yt, .int .i64 yo, .int .i64 ya, .slice d1 e1 f1, .slice d2 e2 f2] 29)).heap.size = w.heap.size + 2 := by simp
  have b3 := b12.alloc b12.size (.cells #[.int .i64 0, .int .i64 0, .string ⟨#[]⟩, .int .i64 0, .int .i64 0, .slice none 0 0, .slice none 0 0] 29)
  have c3 := (Below.refl (w.heap.size + 2) ((w.alloc (.cells #[.int .i64 xk, .int .i64 xn, .string xt, .int .i64 xo, .int .i64 xa, .slice a1 kn c1, .slice a2 tn c2] 29)).alloc (.cells #[.int .i64 yk, .int .i64 yn, .string yt, .int .i64 yo, .int .i64 ya, .slice d1 e1 f1, .slice d2 e2 f2] 29))).alloc (by omega) (.cells #[.int .i64 0, .int .i64 0, .string ⟨#[]⟩, .int .i64 0, .int .i64 0, .slice none 0 0, .slice none 0 0] 29)
  have B3 := (MapKept.heap_alloc ((w.alloc (.cells #[.int .i64 xk, .int .i64 xn, .string xt, .int .i64 xo, .int .i64 xa, .slice a1 kn c1, .slice a2 tn c2] 29)).alloc (.cells #[.int .i64 yk, .int .i64 yn, .string yt, .int .i64 yo, .int .i64 ya, .slice d1 e1 f1, .slice d2 e2 f2] 29)) (.cells #[.int .i64 0, .int .i64 0, .string ⟨#[]⟩, .int .i64 0, .int .i64 0, .slice none 0 0, .slice none 0 0] 29)).1
  rw [hz2] at B3
  have X0 := (c3.block w.heap.size (by omega)).trans B1
  have Y0 := (c3.block (w.heap.size + 1) (by omega)).trans B2
  have hz3 : (((w.alloc (.cells #[.int .i64 xk, .int .i64 xn, .string xt, .int .i64 xo, .int .i64 xa, .slice a1 kn c1, .slice a2 tn c2] 29)).alloc (.cells #[.int .i64 yk, .int .i64 yn, .string yt, .int .i64 yo, .int .i64 ya, .slice d1 e1 f1, .slice d2 e2 f2] 29)).alloc (.cells #[.int .i64 0, .int .i64 0, .string ⟨#[]⟩, .int .i64 0, .int .i64 0, .slice none 0 0, .slice none 0 0] 29)).heap.size = w.heap.size + 3 := by simp
  obtain ⟨W0, hW0⟩ : ∃ W0, ((w.alloc (.cells #[.int .i64 xk, .int .i64 xn, .string xt, .int .i64 xo, .int .i64 xa, .slice a1 kn c1, .slice a2 tn c2] 29)).alloc (.cells #[.int .i64 yk, .int .i64 yn, .string yt, .int .i64 yo, .int .i64 ya, .slice d1 e1 f1, .slice d2 e2 f2] 29)).alloc (.cells #[.int .i64 0, .int .i64 0, .string ⟨#[]⟩, .int .i64 0, .int .i64 0, .slice none 0 0, .slice none 0 0] 29) = W0 := ⟨_, rfl⟩
  rw [hW0] at b3 B3 X0 Y0 hz3
  have s1 := src_take nr b3 (k := k) (by omega) nc.2 (by omega)
  obtain ⟨v1, W1, q1, o1, g1, l1⟩ := appT 27 W0 (w.heap.size + 3) (by omega) (.slice none 0 0) [] (World.ownsRow_nil W0 (w.heap.size + 3) 29 7) a2 c2 (us.take k) s1.1 s1.2 (hall.take k).cells (by simp; omega)
  rw [List.nil_append] at o1
  have ek : (us.take k).length = k := by rw [List.length_take]; omega
  rw [ek] at q1
  have m1 : Below (w.heap.size) w W1 := b3.trans (l1.mono (by omega))
  have X1 := (l1.block w.heap.size (by omega)).trans X0
  have Y1 := (l1.block (w.heap.size + 1) (by omega)).trans Y0
  have Z1 := (l1.block (w.heap.size + 2) (by omega)).trans B3
  have z1 := l1.size
  have p1 := (Below.refl W1.heap.size W1).alloc (Nat.le_refl _) (.cells #[.int .i64 yk, .int .i64 yn, .string yt, .int .i64 yo, .int .i64 ya, .slice d1 e1 f1, .slice d2 e2 f2] 29)
  have n1 : (W1.alloc (.cells #[.int .i64 yk, .int .i64 yn, .string yt, .int .i64 yo, .int .i64 ya, .slice d1 e1 f1, .slice d2 e2 f2] 29)).heap[W1.heap.size]? = some (.cells #[.int .i64 yk, .int .i64 yn, .string yt, .int .i64 yo, .int .i64 ya, .slice d1 e1 f1, .slice d2 e2 f2] 29) := (MapKept.heap_alloc W1 _).1
  obtain ⟨v2, W2, q2, o2, g2, l2⟩ := appT 27 (W1.alloc (.cells #[.int .i64 yk, .int .i64 yn, .string yt, .int .i64 yo, .int .i64 ya, .slice d1 e1 f1, .slice d2 e2 f2] 29)) (w.heap.size + 3) (by have := p1.size; omega) v1 (us.take k) (own_below o1 p1 (Nat.le_refl _)) (some ⟨W1.heap.size, 0, none⟩) 1 [((⟨yk, yn, yt, yo, ya⟩, .slice d1 e1 f1, .slice d2 e2 f2) : TV)] (fun e => by cases e) (fun ad e j u hj => by
      obtain rfl := Option.some.inj e
      rw [add_at, Nat.zero_add]
      rw [← hj, ← List.getElem?_toArray]
      exact Lib.cell_of_heap n1 j) (AllT.one hX).cells (by simp; omega)
  have m2 : Below (w.heap.size) w W2 := (m1.trans (p1.mono m1.size)).trans (l2.mono (by omega))
  have X2 := (l2.block w.heap.size (by omega)).trans ((p1.block w.heap.size (by omega)).trans X1)
  have Z2 := (l2.block (w.heap.size + 2) (by omega)).trans ((p1.block (w.heap.size + 2) (by omega)).trans Z1)
  have z2 : w.heap.size + 3 ≤ W2.heap.size := by have := p1.size; have := l2.size; omega
  obtain ⟨A2, hA2⟩ : ∃ A2, (if c2 = r then a2 else Option.map (fun x => x.add (r * 7)) a2) = A2 := ⟨_, rfl⟩
  have s3 := src_drop nr m2 (k := r) (by omega) nc.2 (by omega)
  rw [hA2] at s3
  obtain ⟨v3, W3, q3, o3, g3, l3⟩ := appT 27 W2 (w.heap.size + 3) (by omega) v2 (us.take k ++ [((⟨yk, yn, yt, yo, ya⟩, .slice d1 e1 f1, .slice d2 e2 f2) : TV)]) o2 A2 (c2 - r) (us.drop r) s3.1 s3.2 (hall.drop r).cells (by simp; omega)
  have ed : (us.drop r).length = tn - r := by rw [List.length_drop]; omega
  rw [ed] at q3
  have m3 : Below (w.heap.size) w W3 := m2.trans (l3.mono (by omega))
  have X3 := (l3.block w.heap.size (by omega)).trans X2
  have Z3 := (l3.block (w.heap.size + 2) (by omega)).trans Z2
  have z3 : w.heap.size + 3 ≤ W3.heap.size := by have := l3.size; omega
  obtain ⟨ta3, tc3, hv3⟩ := slice_of o3
  have hallF : AllT P w ((us.take k ++ [((⟨yk, yn, yt, yo, ya⟩, .slice d1 e1 f1, .slice d2 e2 f2) : TV)]) ++ us.drop r) ((T.ts.take k ++ [X]) ++ T.ts.drop r) := ((hall.take k).app (AllT.one hX)).app (hall.drop r)
  have s4 := strs_take nk m3 (k := k) (by omega)
  obtain ⟨v4, W4, q4, o4, g4, l4⟩ := appS 26 W3 (w.heap.size + 3) (by omega) (.slice none 0 0) [] (World.ownsRow_nil W3 (w.heap.size + 3) 9 1) a1 c1 (T.ks.take k) s4.1 s4.2 (by simp; omega)
  rw [List.nil_append] at o4
  have ekk : (T.ks.take k).length = k := by rw [List.length_take]; omega
  rw [ekk] at q4
  have m4 : Below (w.heap.size) w W4 := m3.trans (l4.mono (by omega))
  have X4 := (l4.block w.heap.size (by omega)).trans X3
  have Z4 := (l4.block (w.heap.size + 2) (by omega)).trans Z3
  have z4 : w.heap.size + 3 ≤ W4.heap.size := by have := l4.size; omega
  have t4 := own_grown' o3 g4 (World.ownsRow_nil W3 (w.heap.size + 3) 9 1) (by decide)
  have p4 := (Below.refl W4.heap.size W4).alloc (Nat.le_refl _) (.cells #[.string key] 9)
  have n4 : (W4.alloc (.cells #[.string key] 9)).heap[W4.heap.size]? = some (.cells #[.string key] 9) := (MapKept.heap_alloc W4 _).1
  have o4' := own_below o4 p4 (Nat.le_refl _)
  obtain ⟨v5, W5, q5, o5, g5, l5⟩ := appS 26 (W4.alloc (.cells #[.string key] 9)) (w.heap.size + 3) (by have := p4.size; omega) v4 (T.ks.take k) o4' (some ⟨W4.heap.size, 0, none⟩) 1 [key] (fun e => by cases e) (fun ad e j u hj => by
      obtain rfl := Option.some.inj e
      rw [add_at, Nat.zero_add]
      rw [← hj, ← List.getElem?_toArray]
      exact Lib.cell_of_heap n4 j) (by simp; omega)
  have m5 : Below (w.heap.size) w W5 := (m4.trans (p4.mono m4.size)).trans (l5.mono (by omega))
  have X5 := (l5.block w.heap.size (by omega)).trans ((p4.block w.heap.size (by omega)).trans X4)
  have Z5 := (l5.block (w.heap.size + 2) (by omega)).trans ((p4.block (w.heap.size + 2) (by omega)).trans Z4)
  have z5 : w.heap.size + 3 ≤ W5.heap.size := by have := p4.size; have := l5.size; omega
  have t5 := own_grown' (own_below t4 p4 (Nat.le_refl _)) g5 o4' (by decide)
  obtain ⟨A1, hA1⟩ : ∃ A1, (if c1 = r then a1 else Option.map (fun x => x.add r) a1) = A1 := ⟨_, rfl⟩
  have s6 := strs_drop nk m5 (k := r) (by omega)
  rw [hA1] at s6
  obtain ⟨v6, W6, q6, o6, g6, l6⟩ := appS 26 W5 (w.heap.size + 3) (by omega) v5 (T.ks.take k ++ [key]) o5 A1 (c1 - r) (T.ks.drop r) s6.1 s6.2 (by simp; omega)
  have edk : (T.ks.drop r).length = kn - r := by rw [List.length_drop]; omega
  rw [edk] at q6
  have m6 : Below (w.heap.size) w W6 := m5.trans (l6.mono (by omega))
  have X6 := (l6.block w.heap.size (by omega)).trans X5
  have Z6 := (l6.block (w.heap.size + 2) (by omega)).trans Z5
  have z6 : w.heap.size + 3 ≤ W6.heap.size := by have := l6.size; omega
  have t6 := own_grown' t5 g6 o5 (by decide)
  obtain ⟨ka6, kc6, hv6⟩ := slice_of o6
  have HIS : Hid (∀ W', From (w.heap.size + 3) W6 W' → Below w.heap.size w W' → IsTP (fun b => P b ∨ w.heap.size + 3 ≤ b) W' (tval (⟨xk, xn, xt, xo, xa⟩, v6, v3)) (.node ⟨xk, xn, xt, xo, xa⟩ ((T.ks.take k ++ [key]) ++ T.ks.drop r) ((T.ts.take k ++ [X]) ++ T.ts.drop r))) := by
    intro W' hW' hB'
    have hkf : World.ownsRow W' (w.heap.size + 3) 9 1 (v6) ((T.ks.take k ++ [key]) ++ T.ks.drop r).length (scells ((T.ks.take k ++ [key]) ++ T.ks.drop r)) := own_from o6 hW'
    have htf : World.ownsRow W' (w.heap.size + 3) 29 7 v3 ((us.take k ++ [((⟨yk, yn, yt, yo, ya⟩, .slice d1 e1 f1, .slice d2 e2 f2) : TV)]) ++ us.drop r).length (tcs ((us.take k ++ [((⟨yk, yn, yt, yo, ya⟩, .slice d1 e1 f1, .slice d2 e2 f2) : TV)]) ++ us.drop r)) := own_from t6 hW'
    exact tree_of hkf htf (hallF.move hB' (fun _ h => Or.inl h)) (by simp; try omega) (by simp; try omega) (fun _ h => Or.inr h)
  obtain ⟨tl, htl⟩ : ∃ tl, ((us.take k ++ [((⟨yk, yn, yt, yo, ya⟩, .slice d1 e1 f1, .slice d2 e2 f2) : TV)]) ++ us.drop r).length = tl := ⟨_, rfl⟩
  rw [htl] at hv3
  subst hv3
  obtain ⟨kl, hkl2⟩ : ∃ kl, ((T.ks.take k ++ [key]) ++ T.ks.drop r).length = kl := ⟨_, rfl⟩
  rw [hkl2] at hv6
  subst hv6
  have HX7 : Hid (((W6.setCell ⟨w.heap.size, 6, none⟩ (.slice ta3 tl tc3)).setCell ⟨w.heap.size, 5, none⟩ (.slice ka6 kl kc6)).heap[w.heap.size]? = some (.cells #[.int .i64 xk, .int .i64 xn, .string xt, .int .i64 xo, .int .i64 xa, .slice ka6 kl kc6, .slice ta3 tl tc3] 29)) := by
    show _ = _
    rw [set_at (set_at X6 6 _) 5 _]
    simp
  have HZ7 : Hid (((W6.setCell ⟨w.heap.size, 6, none⟩ (.slice ta3 tl tc3)).setCell ⟨w.heap.size, 5, none⟩ (.slice ka6 kl kc6)).heap[w.heap.size + 2]? = some (.cells #[.int .i64 0, .int .i64 0, .string ⟨#[]⟩, .int .i64 0, .int .i64 0, .slice none 0 0, .slice none 0 0] 29)) := heap_set_other (heap_set_other Z6 (by omega)) (by omega)
  have HF7 : Hid (From (w.heap.size + 3) W6 ((W6.setCell ⟨w.heap.size, 6, none⟩ (.slice ta3 tl tc3)).setCell ⟨w.heap.size, 5, none⟩ (.slice ka6 kl kc6))) := (From.set (by omega)).trans (From.set (by omega))
  have HB7 : Hid (Below w.heap.size w ((W6.setCell ⟨w.heap.size, 6, none⟩ (.slice ta3 tl tc3)).setCell ⟨w.heap.size, 5, none⟩ (.slice ka6 kl kc6))) := (m6.setCell (Nat.le_refl _) _).setCell (Nat.le_refl _) _
  have fa6 : W0.cell? ⟨w.heap.size, 6, none⟩ = some (.slice a2 tn c2) := Lib.cell_of_heap X0 6
  have fb0 : W1.cell? ⟨w.heap.size + 1, 0, none⟩ = some (.int .i64 yk) := Lib.cell_of_heap Y1 0
  have fb1 : W1.cell? ⟨w.heap.size + 1, 1, none⟩ = some (.int .i64 yn) := Lib.cell_of_heap Y1 1
  have fb2 : W1.cell? ⟨w.heap.size + 1, 2, none⟩ = some (.string yt) := Lib.cell_of_heap Y1 2
  have fb3 : W1.cell? ⟨w.heap.size + 1, 3, none⟩ = some (.int .i64 yo) := Lib.cell_of_heap Y1 3
  have fb4 : W1.cell? ⟨w.heap.size + 1, 4, none⟩ = some (.int .i64 ya) := Lib.cell_of_heap Y1 4
  have fb5 : W1.cell? ⟨w.heap.size + 1, 5, none⟩ = some (.slice d1 e1 f1) := Lib.cell_of_heap Y1 5
  have fb6 : W1.cell? ⟨w.heap.size + 1, 6, none⟩ = some (.slice d2 e2 f2) := Lib.cell_of_heap Y1 6
  have fc6 : W2.cell? ⟨w.heap.size, 6, none⟩ = some (.slice a2 tn c2) := Lib.cell_of_heap X2 6
  have fd0 : W3.cell? ⟨w.heap.size, 0, none⟩ = some (.int .i64 xk) := Lib.cell_of_heap X3 0
  have fd5 : W3.cell? ⟨w.heap.size, 5, none⟩ = some (.slice a1 kn c1) := Lib.cell_of_heap X3 5
  have fe5 : W5.cell? ⟨w.heap.size, 5, none⟩ = some (.slice a1 kn c1) := Lib.cell_of_heap X5 5
  have ff0 : W6.cell? ⟨w.heap.size, 0, none⟩ = some (.int .i64 xk) := Lib.cell_of_heap X6 0
  have ff1 : W6.cell? ⟨w.heap.size, 1, none⟩ = some (.int .i64 xn) := Lib.cell_of_heap X6 1
  have ff2 : W6.cell? ⟨w.heap.size, 2, none⟩ = some (.string xt) := Lib.cell_of_heap X6 2
  have ff3 : W6.cell? ⟨w.heap.size, 3, none⟩ = some (.int .i64 xo) := Lib.cell_of_heap X6 3
  have ff4 : W6.cell? ⟨w.heap.size, 4, none⟩ = some (.int .i64 xa) := Lib.cell_of_heap X6 4
  have ff5 : W6.cell? ⟨w.heap.size, 5, none⟩ = some (.slice a1 kn c1) := Lib.cell_of_heap X6 5
  have ff6 : W6.cell? ⟨w.heap.size, 6, none⟩ = some (.slice a2 tn c2) := Lib.cell_of_heap X6 6
  have fff := Lib.frozen_of_heap X6
  have g1' : (k : Int) ≤ c2 := by have := nc.1; omega
  have g2' : (r : Int) ≤ tn := by omega
  have g3' : (k : Int) ≤ c1 := by obtain ⟨_, _, e, h9, _⟩ := nk; have := (Value.slice.inj e).2.2; omega
  have g4' : (r : Int) ≤ kn := by omega
  subst h5
  subst hr
  clear hT hX nk nl nz nr ni hall HN htn hkn hs b12 hz2 b3 c3 B1 B2 B3 X0 Y0 hz3 s1 o1 g1 l1 m1 X1 Y1 Z1 z1 hkl s3 o3 g3 l3 ed m3 X3 Z3 z3 hallF htl ek hk nc p1 n1 o2 g2 l2 m2 X2 Z2 z2 s4 o4 g4 l4 ekk m4 X4 Z4 z4 t4 s6 o6 g6 l6 edk m6 X6 Z6 z6 t6 hkl2 hlk p4 n4 o4' o5 g5 l5 m5 X5 Z5 z5 t5
  unfold tval
  dsimp only
  go_enter Tryd.func19, Tryd.ntmps19
  go_upto_region 3 with fail
  try rw [hW0]
  clear hW0
  go_upto_region 17 with (first | (at_builtin; refine wp_append rfl _ _ 27 rfl _ _ _ _ rfl rfl q1 ?_) | (at_builtin; refine wp_append rfl _ _ 27 rfl _ _ _ _ rfl rfl q2 ?_) | (at_builtin; refine wp_append rfl _ _ 27 rfl _ _ _ _ rfl rfl q3 ?_) | (at_builtin; refine wp_append rfl _ _ 26 rfl _ _ _ _ rfl rfl q4 ?_) | (at_builtin; refine wp_append rfl _ _ 26 rfl _ _ _ _ rfl rfl q5 ?_) | (at_builtin; refine wp_append rfl _ _ 26 rfl _ _ _ _ rfl rfl q6 ?_))
  clear q1 q3 q2 q4 q6 q5
  generalize (W6.setCell ⟨w.heap.size, 6, none⟩ (.slice ta3 tl tc3)).setCell ⟨w.heap.size, 5, none⟩ (.slice ka6 kl kc6) = W7 at *
  have x0 : W7.cell? ⟨w.heap.size, 0, none⟩ = some (.int .i64 5) := Lib.cell_of_heap HX7.out 0
  have x1 : W7.cell? ⟨w.heap.size, 1, none⟩ = some (.int .i64 xn) := Lib.cell_of_heap HX7.out 1
  have x2 : W7.cell? ⟨w.heap.size, 2, none⟩ = some (.string xt) := Lib.cell_of_heap HX7.out 2
  have x3 : W7.cell? ⟨w.heap.size, 3, none⟩ = some (.int .i64 xo) := Lib.cell_of_heap HX7.out 3
  have x4 : W7.cell? ⟨w.heap.size, 4, none⟩ = some (.int .i64 xa) := Lib.cell_of_heap HX7.out 4
  have x5 : W7.cell? ⟨w.heap.size, 5, none⟩ = some (.slice ka6 kl kc6) := Lib.cell_of_heap HX7.out 5
  have x6 : W7.cell? ⟨w.heap.size, 6, none⟩ = some (.slice ta3 tl tc3) := Lib.cell_of_heap HX7.out 6
  have z0 : W7.cell? ⟨w.heap.size + 2, 0, none⟩ = some (.int .i64 0) := Lib.cell_of_heap HZ7.out 0
  have z1 : W7.cell? ⟨w.heap.size + 2, 1, none⟩ = some (.int .i64 0) := Lib.cell_of_heap HZ7.out 1
  have z2 : W7.cell? ⟨w.heap.size + 2, 2, none⟩ = some (.string ⟨#[]⟩) := Lib.cell_of_heap HZ7.out 2
  have z3 : W7.cell? ⟨w.heap.size + 2, 3, none⟩ = some (.int .i64 0) := Lib.cell_of_heap HZ7.out 3
  have z4 : W7.cell? ⟨w.heap.size + 2, 4, none⟩ = some (.int .i64 0) := Lib.cell_of_heap HZ7.out 4
  have z5 : W7.cell? ⟨w.heap.size + 2, 5, none⟩ = some (.slice none 0 0) := Lib.cell_of_heap HZ7.out 5
  have z6 : W7.cell? ⟨w.heap.size + 2, 6, none⟩ = some (.slice none 0 0) := Lib.cell_of_heap HZ7.out 6
  have zf := Lib.frozen_of_heap HZ7.out
  have HBF : Hid (Below w.heap.size w (put7 W7 (w.heap.size + 2) 0 (⟨5, xn, xt, xo, xa⟩, .slice ka6 kl kc6, .slice ta3 tl tc3))) := put7_below HB7.out _ _ _ (by omega)
  have HHF : Hid ((put7 W7 (w.heap.size + 2) 0 (⟨5, xn, xt, xo, xa⟩, .slice ka6 kl kc6, .slice ta3 tl tc3)).heap[w.heap.size + 2]? = some _) := set7 HZ7.out (.int .i64 5) (.int .i64 xn) (.string xt) (.int .i64 xo) (.int .i64 xa) (.slice ka6 kl kc6) (.slice ta3 tl tc3)
  have HFF : Hid (From (w.heap.size + 3) W7 (put7 W7 (w.heap.size + 2) 0 (⟨5, xn, xt, xo, xa⟩, .slice ka6 kl kc6, .slice ta3 tl tc3))) := ⟨(put7_below (Below.refl 0 W7) _ _ _ (Nat.zero_le _)).size, fun k hk _ => put7_other W7 _ _ _ k (by omega)⟩
  go_wp2
  clear x0 x1 x2 x3 x4 x5 x6 z0 z1 z2 z3 z4 z5 z6 zf
  dsimp only [put7, Nat.zero_add] at HFF HBF HHF
  generalize ((((((W7.setCell ⟨w.heap.size + 2, 0, none⟩ (.int .i64 5)).setCell ⟨w.heap.size + 2, 1, none⟩ (.int .i64 xn)).setCell ⟨w.heap.size + 2, 2, none⟩ (.string xt)).setCell ⟨w.heap.size + 2, 3, none⟩ (.int .i64 xo)).setCell ⟨w.heap.size + 2, 4, none⟩ (.int .i64 xa)).setCell ⟨w.heap.size + 2, 5, none⟩ (.slice ka6 kl kc6)).setCell ⟨w.heap.size + 2, 6, none⟩ (.slice ta3 tl tc3) = VV at *
  obtain ⟨q0, q1, q2, q3, q4, q5, q6⟩ := tboxed (u := (⟨5, xn, xt, xo, xa⟩, .slice ka6 kl kc6, .slice ta3 tl tc3)) HHF.out
  dsimp only at q0 q1 q2 q3 q4 q5 q6
  refine bodyPost_ret (v := tval (⟨5, xn, xt, xo, xa⟩, .slice ka6 kl kc6, .slice ta3 tl tc3)) (by simp [tval, results, Tryd.results19, go_sem, q0, q1, q2, q3, q4, q5, q6]) rfl ?_
  rw [HPO.out]
  exact ⟨_, rfl, HIS.out VV (HF7.out.trans HFF.out) HBF.out, HBF.out⟩

set_option maxRecDepth 100000 in
set_option maxHeartbeats 8000000 in
theorem put_ins {P : Nat → Prop} {v vx : Value} {T X : JT} (k : Nat) (key : ByteArray) (w : World) (hT : IsTP P w v T) (hX : IsTP P w vx X) (h5 : T.x.k ≠ 5) (hk : k ≤ T.ts.length) (hs : T.ks.length ≤ 1000 ∧ T.ts.length ≤ 1000) :
    Calls Tryd.prog 19 #[v, .int .i64 k, vx, .bool true, .bool false, .string key] w fun e w' => PutP P w T.x (([] : List ByteArray)) ((T.ts.take k ++ [X]) ++ T.ts.drop (k)) e w' := by
  obtain ⟨ux, rfl⟩ := hX.plain.of_val
  obtain ⟨eT, uk, a2, c2, us, rfl, nk0, nl, nc, nz, nr0, ni⟩ := hT.inv
  have nr := nr0.row
  have nk := nk0.strs
  obtain ⟨a1, c1, rfl, -, -, -⟩ := id nk
  clear eT nk0 nr0
  have hall : AllT P w us T.ts := ⟨nl, ni⟩
  obtain ⟨⟨yk, yn, yt, yo, ya⟩, d1, e1, f1, d2, e2, f2, hux⟩ := hX.plain.parts
  subst hux
  obtain ⟨tn, htn⟩ : ∃ tn, tn = T.ts.length := ⟨_, rfl⟩
  obtain ⟨kn, hkn⟩ : ∃ kn, kn = T.ks.length := ⟨_, rfl⟩
  have HN : Hid (tn = T.ts.length ∧ kn = T.ks.length) := ⟨htn, hkn⟩
  obtain ⟨post, hpost⟩ : ∃ post, post = PutP P w T.x (([] : List ByteArray)) ((T.ts.take k ++ [X]) ++ T.ts.drop (k)) := ⟨_, rfl⟩
  rw [← hpost]
  have HPO : Hid (post = PutP P w T.x (([] : List ByteArray)) ((T.ts.take k ++ [X]) ++ T.ts.drop (k))) := hpost
  clear hpost
  rw [← htn, ← hkn]
  rw [← hkn] at nk
  obtain ⟨xx, hxx⟩ : ∃ xx, T.x = xx := ⟨_, rfl⟩
  rw [hxx] at HPO h5 ⊢
  obtain ⟨xk, xn, xt, xo, xa⟩ := xx
  clear hxx
  dsimp only at h5
  obtain ⟨r, hr⟩ : ∃ r, r = k := ⟨_, rfl⟩
  rw [← hr] at HPO hk
  have hkl : k ≤ T.ts.length := by omega
  -- the boxes
  obtain ⟨B1, B2, b12⟩ := two_boxes w (.cells #[.int .i64 xk, .int .i64 xn, .string xt, .int .i64 xo, .int .i64 xa, .slice a1 kn c1, .slice a2 tn c2] 29) (.cells #[.int .i64 yk, .int .i64 yn, .string yt, .int .i64 yo, .int .i64 ya, .slice d1 e1 f1, .slice d2 e2 f2] 29)
  have hz2 : ((w.alloc (.cells #[.int .i64 xk, .int .i64 xn, .string xt, .int .i64 xo, .int .i64 xa, .slice a1 kn c1, .slice a2 tn c2] 29)).alloc (.cells #[.int .i64 yk, .int .i64 yn, .string yt, .int .i64 yo, .int .i64 ya, .slice d1 e1 f1, .slice d2 e2 f2] 29)).heap.size = w.heap.size + 2 := by simp
  have b3 := b12.alloc b12.size (.cells #[.int .i64 0, .int .i64 0, .string ⟨#[]⟩, .int .i64 0, .int .i64 0, .slice none 0 0, .slice none 0 0] 29)
  have c3 := (Below.refl (w.heap.size + 2) ((w.alloc (.cells #[.int .i64 xk, .int .i64 xn, .string xt, .int .i64 xo, .int .i64 xa, .slice a1 kn c1, .slice a2 tn c2] 29)).alloc (.cells #[.int .i64 yk, .int .i64 yn, .string yt, .int .i64 yo, .int .i64 ya, .slice d1 e1 f1, .slice d2 e2 f2] 29))).alloc (by omega) (.cells #[.int .i64 0, .int .i64 0, .string ⟨#[]⟩, .int .i64 0, .int .i64 0, .slice none 0 0, .slice none 0 0] 29)
  have B3 := (MapKept.heap_alloc ((w.alloc (.cells #[.int .i64 xk, .int .i64 xn, .string xt, .int .i64 xo, .int .i64 xa, .slice a1 kn c1, .slice a2 tn c2] 29)).alloc (.cells #[.int .i64 yk, .int .i64 yn, .string yt, .int .i64 yo, .int .i64 ya, .slice d1 e1 f1, .slice d2 e2 f2] 29)) (.cells #[.int .i64 0, .int .i64 0, .string ⟨#[]⟩, .int .i64 0, .int .i64 0, .slice none 0 0, .slice none 0 0] 29)).1
  rw [hz2] at B3
  have X0 := (c3.block w.heap.size (by omega)).trans B1
  have Y0 := (c3.block (w.heap.size + 1) (by omega)).trans B2
  have hz3 : (((w.alloc (.cells #[.int .i64 xk, .int .i64 xn, .string xt, .int .i64 xo, .int .i64 xa, .slice a1 kn c1, .slice a2 tn c2] 29)).alloc (.cells #[.int .i64 yk, .int .i64 yn, .string yt, .int .i64 yo, .int .i64 ya, .slice d1 e1 f1, .slice d2 e2 f2] 29)).alloc (.cells #[.int .i64 0, .int .i64 0, .string ⟨#[]⟩, .int .i64 0, .int .i64 0, .slice none 0 0, .slice none 0 0] 29)).heap.size = w.heap.size + 3 := by simp
  obtain ⟨W0, hW0⟩ : ∃ W0, ((w.alloc (.cells #[.int .i64 xk, .int .i64 xn, .string xt, .int .i64 xo, .int .i64 xa, .slice a1 kn c1, .slice a2 tn c2] 29)).alloc (.cells #[.int .i64 yk, .int .i64 yn, .string yt, .int .i64 yo, .int .i64 ya, .slice d1 e1 f1, .slice d2 e2 f2] 29)).alloc (.cells #[.int .i64 0, .int .i64 0, .string ⟨#[]⟩, .int .i64 0, .int .i64 0, .slice none 0 0, .slice none 0 0] 29) = W0 := ⟨_, rfl⟩
  rw [hW0] at b3 B3 X0 Y0 hz3
  have s1 := src_take nr b3 (k := k) (by omega) nc.2 (by omega)
  obtain ⟨v1, W1, q1, o1, g1, l1⟩ := appT 27 W0 (w.heap.size + 3) (by omega) (.slice none 0 0) [] (World.ownsRow_nil W0 (w.heap.size + 3) 29 7) a2 c2 (us.take k) s1.1 s1.2 (hall.take k).cells (by simp; omega)
  rw [List.nil_append] at o1
  have ek : (us.take k).length = k := by rw [List.length_take]; omega
  rw [ek] at q1
  have m1 : Below (w.heap.size) w W1 := b3.trans (l1.mono (by omega))
  have X1 := (l1.block w.heap.size (by omega)).trans X0
  have Y1 := (l1.block (w.heap.size + 1) (by omega)).trans Y0
  have Z1 := (l1.block (w.heap.size + 2) (by omega)).trans B3
  have z1 := l1.size
  have p1 := (Below.refl W1.heap.size W1).alloc (Nat.le_refl _) (.cells #[.int .i64 yk, .int .i64 yn, .string yt, .int .i64 yo, .int .i64 ya, .slice d1 e1 f1, .slice d2 e2 f2] 29)
  have n1 : (W1.alloc (.cells #[.int .i64 yk, .int .i64 yn, .string yt, .int .i64 yo, .int .i64 ya, .slice d1 e1 f1, .slice d2 e2 f2] 29)).heap[W1.heap.size]? = some (.cells #[.int .i64 yk, .int .i64 yn, .string yt, .int .i64 yo, .int .i64 ya, .slice d1 e1 f1, .slice d2 e2 f2] 29) := (MapKept.heap_alloc W1 _).1
  obtain ⟨v2, W2, q2, o2, g2, l2⟩ := appT 27 (W1.alloc (.cells #[.int .i64 yk, .int .i64 yn, .string yt, .int .i64 yo, .int .i64 ya, .slice d1 e1 f1, .slice d2 e2 f2] 29)) (w.heap.size + 3) (by have := p1.size; omega) v1 (us.take k) (own_below o1 p1 (Nat.le_refl _)) (some ⟨W1.heap.size, 0, none⟩) 1 [((⟨yk, yn, yt, yo, ya⟩, .slice d1 e1 f1, .slice d2 e2 f2) : TV)] (fun e => by cases e) (fun ad e j u hj => by
      obtain rfl := Option.some.inj e
      rw [add_at, Nat.zero_add]
      rw [← hj, ← List.getElem?_toArray]
      exact Lib.cell_of_heap n1 j) (AllT.one hX).cells (by simp; omega)
  have m2 : Below (w.heap.size) w W2 := (m1.trans (p1.mono m1.size)).trans (l2.mono (by omega))
  have X2 := (l2.block w.heap.size (by omega)).trans ((p1.block w.heap.size (by omega)).trans X1)
  have Z2 := (l2.block (w.heap.size + 2) (by omega)).trans ((p1.block (w.heap.size + 2) (by omega)).trans Z1)
  have z2 : w.heap.size + 3 ≤ W2.heap.size := by have := p1.size; have := l2.size; omega
  obtain ⟨A2, hA2⟩ : ∃ A2, (if c2 = r then a2 else Option.map (fun x => x.add (r * 7)) a2) = A2 := ⟨_, rfl⟩
  have s3 := src_drop nr m2 (k := r) (by omega) nc.2 (by omega)
  rw [hA2] at s3
  obtain ⟨v3, W3, q3, o3, g3, l3⟩ := appT 27 W2 (w.heap.size + 3) (by omega) v2 (us.take k ++ [((⟨yk, yn, yt, yo, ya⟩, .slice d1 e1 f1, .slice d2 e2 f2) : TV)]) o2 A2 (c2 - r) (us.drop r) s3.1 s3.2 (hall.drop r).cells (by simp; omega)
  have ed : (us.drop r).length = tn - r := by rw [List.length_drop]; omega
  rw [ed] at q3
  have m3 : Below (w.heap.size) w W3 := m2.trans (l3.mono (by omega))
  have X3 := (l3.block w.heap.size (by omega)).trans X2
  have Z3 := (l3.block (w.heap.size + 2) (by omega)).trans Z2
  have z3 : w.heap.size + 3 ≤ W3.heap.size := by have := l3.size; omega
  obtain ⟨ta3, tc3, hv3⟩ := slice_of o3
  have hallF : AllT P w ((us.take k ++ [((⟨yk, yn, yt, yo, ya⟩, .slice d1 e1 f1, .slice d2 e2 f2) : TV)]) ++ us.drop r) ((T.ts.take k ++ [X]) ++ T.ts.drop r) := ((hall.take k).app (AllT.one hX)).app (hall.drop r)
  have HIS : Hid (∀ W', From (w.heap.size + 3) W3 W' → Below w.heap.size w W' → IsTP (fun b => P b ∨ w.heap.size + 3 ≤ b) W' (tval (⟨xk, xn, xt, xo, xa⟩, .slice none 0 0, v3)) (.node ⟨xk, xn, xt, xo, xa⟩ (([] : List ByteArray)) ((T.ts.take k ++ [X]) ++ T.ts.drop r))) := by
    intro W' hW' hB'
    have hkf : World.ownsRow W' (w.heap.size + 3) 9 1 (.slice none 0 0) (([] : List ByteArray)).length (scells (([] : List ByteArray))) := own_from (World.ownsRow_nil W3 (w.heap.size + 3) 9 1) hW'
    have htf : World.ownsRow W' (w.heap.size + 3) 29 7 v3 ((us.take k ++ [((⟨yk, yn, yt, yo, ya⟩, .slice d1 e1 f1, .slice d2 e2 f2) : TV)]) ++ us.drop r).length (tcs ((us.take k ++ [((⟨yk, yn, yt, yo, ya⟩, .slice d1 e1 f1, .slice d2 e2 f2) : TV)]) ++ us.drop r)) := own_from o3 hW'
    exact tree_of hkf htf (hallF.move hB' (fun _ h => Or.inl h)) (by simp; try omega) (by simp; try omega) (fun _ h => Or.inr h)
  obtain ⟨tl, htl⟩ : ∃ tl, ((us.take k ++ [((⟨yk, yn, yt, yo, ya⟩, .slice d1 e1 f1, .slice d2 e2 f2) : TV)]) ++ us.drop r).length = tl := ⟨_, rfl⟩
  rw [htl] at hv3
  subst hv3
  have HX7 : Hid (((W3.setCell ⟨w.heap.size, 6, none⟩ (.slice ta3 tl tc3)).setCell ⟨w.heap.size, 5, none⟩ (.slice none 0 0)).heap[w.heap.size]? = some (.cells #[.int .i64 xk, .int .i64 xn, .string xt, .int .i64 xo, .int .i64 xa, .slice none 0 0, .slice ta3 tl tc3] 29)) := by
    show _ = _
    rw [set_at (set_at X3 6 _) 5 _]
    simp
  have HZ7 : Hid (((W3.setCell ⟨w.heap.size, 6, none⟩ (.slice ta3 tl tc3)).setCell ⟨w.heap.size, 5, none⟩ (.slice none 0 0)).heap[w.heap.size + 2]? = some (.cells #[.int .i64 0, .int .i64 0, .string ⟨#[]⟩, .int .i64 0, .int .i64 0, .slice none 0 0, .slice none 0 0] 29)) := heap_set_other (heap_set_other Z3 (by omega)) (by omega)
  have HF7 : Hid (From (w.heap.size + 3) W3 ((W3.setCell ⟨w.heap.size, 6, none⟩ (.slice ta3 tl tc3)).setCell ⟨w.heap.size, 5, none⟩ (.slice none 0 0))) := (From.set (by omega)).trans (From.set (by omega))
  have HB7 : Hid (Below w.heap.size w ((W3.setCell ⟨w.heap.size, 6, none⟩ (.slice ta3 tl tc3)).setCell ⟨w.heap.size, 5, none⟩ (.slice none 0 0))) := (m3.setCell (Nat.le_refl _) _).setCell (Nat.le_refl _) _
  have fa6 : W0.cell? ⟨w.heap.size, 6, none⟩ = some (.slice a2 tn c2) := Lib.cell_of_heap X0 6
  have fb0 : W1.cell? ⟨w.heap.size + 1, 0, none⟩ = some (.int .i64 yk) := Lib.cell_of_heap Y1 0
  have fb1 : W1.cell? ⟨w.heap.size + 1, 1, none⟩ = some (.int .i64 yn) := Lib.cell_of_heap Y1 1
  have fb2 : W1.cell? ⟨w.heap.size + 1, 2, none⟩ = some (.string yt) := Lib.cell_of_heap Y1 2
  have fb3 : W1.cell? ⟨w.heap.size + 1, 3, none⟩ = some (.int .i64 yo) := Lib.cell_of_heap Y1 3
  have fb4 : W1.cell? ⟨w.heap.size + 1, 4, none⟩ = some (.int .i64 ya) := Lib.cell_of_heap Y1 4
  have fb5 : W1.cell? ⟨w.heap.size + 1, 5, none⟩ = some (.slice d1 e1 f1) := Lib.cell_of_heap Y1 5
  have fb6 : W1.cell? ⟨w.heap.size + 1, 6, none⟩ = some (.slice d2 e2 f2) := Lib.cell_of_heap Y1 6
  have fc6 : W2.cell? ⟨w.heap.size, 6, none⟩ = some (.slice a2 tn c2) := Lib.cell_of_heap X2 6
  have fd0 : W3.cell? ⟨w.heap.size, 0, none⟩ = some (.int .i64 xk) := Lib.cell_of_heap X3 0
  have fd5 : W3.cell? ⟨w.heap.size, 5, none⟩ = some (.slice a1 kn c1) := Lib.cell_of_heap X3 5
  have ff0 : W3.cell? ⟨w.heap.size, 0, none⟩ = some (.int .i64 xk) := Lib.cell_of_heap X3 0
  have ff1 : W3.cell? ⟨w.heap.size, 1, none⟩ = some (.int .i64 xn) := Lib.cell_of_heap X3 1
  have ff2 : W3.cell? ⟨w.heap.size, 2, none⟩ = some (.string xt) := Lib.cell_of_heap X3 2
  have ff3 : W3.cell? ⟨w.heap.size, 3, none⟩ = some (.int .i64 xo) := Lib.cell_of_heap X3 3
  have ff4 : W3.cell? ⟨w.heap.size, 4, none⟩ = some (.int .i64 xa) := Lib.cell_of_heap X3 4
  have ff5 : W3.cell? ⟨w.heap.size, 5, none⟩ = some (.slice a1 kn c1) := Lib.cell_of_heap X3 5
  have ff6 : W3.cell? ⟨w.heap.size, 6, none⟩ = some (.slice a2 tn c2) := Lib.cell_of_heap X3 6
  have fff := Lib.frozen_of_heap X3
  have g1' : (k : Int) ≤ c2 := by have := nc.1; omega
  have g2' : (r : Int) ≤ tn := by omega
  have h5' : (xk == 5) = false := by simpa using h5
  clear h5
  subst hr
  clear hT hX nk nl nz nr ni hall HN htn hkn hs b12 hz2 b3 c3 B1 B2 B3 X0 Y0 hz3 s1 o1 g1 l1 m1 X1 Y1 Z1 z1 hkl s3 o3 g3 l3 ed m3 X3 Z3 z3 hallF htl ek hk nc p1 n1 o2 g2 l2 m2 X2 Z2 z2
  unfold tval
  dsimp only
  go_enter Tryd.func19, Tryd.ntmps19
  go_upto_region 3 with fail
  try rw [hW0]
  clear hW0
  go_upto_region 17 with (first | (at_builtin; refine wp_append rfl _ _ 27 rfl _ _ _ _ rfl rfl q1 ?_) | (at_builtin; refine wp_append rfl _ _ 27 rfl _ _ _ _ rfl rfl q2 ?_) | (at_builtin; refine wp_append rfl _ _ 27 rfl _ _ _ _ rfl rfl q3 ?_))
  clear q1 q3 q2
  generalize (W3.setCell ⟨w.heap.size, 6, none⟩ (.slice ta3 tl tc3)).setCell ⟨w.heap.size, 5, none⟩ (.slice none 0 0) = W7 at *
  have x0 : W7.cell? ⟨w.heap.size, 0, none⟩ = some (.int .i64 xk) := Lib.cell_of_heap HX7.out 0
  have x1 : W7.cell? ⟨w.heap.size, 1, none⟩ = some (.int .i64 xn) := Lib.cell_of_heap HX7.out 1
  have x2 : W7.cell? ⟨w.heap.size, 2, none⟩ = some (.string xt) := Lib.cell_of_heap HX7.out 2
  have x3 : W7.cell? ⟨w.heap.size, 3, none⟩ = some (.int .i64 xo) := Lib.cell_of_heap HX7.out 3
  have x4 : W7.cell? ⟨w.heap.size, 4, none⟩ = some (.int .i64 xa) := Lib.cell_of_heap HX7.out 4
  have x5 : W7.cell? ⟨w.heap.size, 5, none⟩ = some (.slice none 0 0) := Lib.cell_of_heap HX7.out 5
  have x6 : W7.cell? ⟨w.heap.size, 6, none⟩ = some (.slice ta3 tl tc3) := Lib.cell_of_heap HX7.out 6
  have z0 : W7.cell? ⟨w.heap.size + 2, 0, none⟩ = some (.int .i64 0) := Lib.cell_of_heap HZ7.out 0
  have z1 : W7.cell? ⟨w.heap.size + 2, 1, none⟩ = some (.int .i64 0) := Lib.cell_of_heap HZ7.out 1
  have z2 : W7.cell? ⟨w.heap.size + 2, 2, none⟩ = some (.string ⟨#[]⟩) := Lib.cell_of_heap HZ7.out 2
  have z3 : W7.cell? ⟨w.heap.size + 2, 3, none⟩ = some (.int .i64 0) := Lib.cell_of_heap HZ7.out 3
  have z4 : W7.cell? ⟨w.heap.size + 2, 4, none⟩ = some (.int .i64 0) := Lib.cell_of_heap HZ7.out 4
  have z5 : W7.cell? ⟨w.heap.size + 2, 5, none⟩ = some (.slice none 0 0) := Lib.cell_of_heap HZ7.out 5
  have z6 : W7.cell? ⟨w.heap.size + 2, 6, none⟩ = some (.slice none 0 0) := Lib.cell_of_heap HZ7.out 6
  have zf := Lib.frozen_of_heap HZ7.out
  have HBF : Hid (Below w.heap.size w (put7 W7 (w.heap.size + 2) 0 (⟨xk, xn, xt, xo, xa⟩, .slice none 0 0, .slice ta3 tl tc3))) := put7_below HB7.out _ _ _ (by omega)
  have HHF : Hid ((put7 W7 (w.heap.size + 2) 0 (⟨xk, xn, xt, xo, xa⟩, .slice none 0 0, .slice ta3 tl tc3)).heap[w.heap.size + 2]? = some _) := set7 HZ7.out (.int .i64 xk) (.int .i64 xn) (.string xt) (.int .i64 xo) (.int .i64 xa) (.slice none 0 0) (.slice ta3 tl tc3)
  have HFF : Hid (From (w.heap.size + 3) W7 (put7 W7 (w.heap.size + 2) 0 (⟨xk, xn, xt, xo, xa⟩, .slice none 0 0, .slice ta3 tl tc3))) := ⟨(put7_below (Below.refl 0 W7) _ _ _ (Nat.zero_le _)).size, fun k hk _ => put7_other W7 _ _ _ k (by omega)⟩
  go_wp2
  clear x0 x1 x2 x3 x4 x5 x6 z0 z1 z2 z3 z4 z5 z6 zf
  dsimp only [put7, Nat.zero_add] at HFF HBF HHF
  generalize ((((((W7.setCell ⟨w.heap.size + 2, 0, none⟩ (.int .i64 xk)).setCell ⟨w.heap.size + 2, 1, none⟩ (.int .i64 xn)).setCell ⟨w.heap.size + 2, 2, none⟩ (.string xt)).setCell ⟨w.heap.size + 2, 3, none⟩ (.int .i64 xo)).setCell ⟨w.heap.size + 2, 4, none⟩ (.int .i64 xa)).setCell ⟨w.heap.size + 2, 5, none⟩ (.slice none 0 0)).setCell ⟨w.heap.size + 2, 6, none⟩ (.slice ta3 tl tc3) = VV at *
  obtain ⟨q0, q1, q2, q3, q4, q5, q6⟩ := tboxed (u := (⟨xk, xn, xt, xo, xa⟩, .slice none 0 0, .slice ta3 tl tc3)) HHF.out
  dsimp only at q0 q1 q2 q3 q4 q5 q6
  refine bodyPost_ret (v := tval (⟨xk, xn, xt, xo, xa⟩, .slice none 0 0, .slice ta3 tl tc3)) (by simp [tval, results, Tryd.results19, go_sem, q0, q1, q2, q3, q4, q5, q6]) rfl ?_
  rw [HPO.out]
  exact ⟨_, rfl, HIS.out VV (HF7.out.trans HFF.out) HBF.out, HBF.out⟩

set_option maxRecDepth 100000 in
set_option maxHeartbeats 8000000 in
theorem put_gone5 {P : Nat → Prop} {v vx : Value} {T X : JT} (k : Nat) (key : ByteArray) (w : World) (hT : IsTP P w v T) (hX : IsTP P w vx X) (h5 : T.x.k = 5) (hk : k + 1 ≤ T.ts.length) (hlk : T.ks.length = T.ts.length) (hs : T.ks.length ≤ 1000 ∧ T.ts.length ≤ 1000) :
    Calls Tryd.prog 19 #[v, .int .i64 k, vx, .bool false, .bool true, .string key] w fun e w' => PutP P w T.x ((T.ks.take k) ++ T.ks.drop (k + 1)) ((T.ts.take k) ++ T.ts.drop (k + 1)) e w' := by
  obtain ⟨ux, rfl⟩ := hX.plain.of_val
  obtain ⟨eT, uk, a2, c2, us, rfl, nk0, nl, nc, nz, nr0, ni⟩ := hT.inv
  have nr := nr0.row
  have nk := nk0.strs
  obtain ⟨a1, c1, rfl, -, -, -⟩ := id nk
  clear eT nk0 nr0
  have hall : AllT P w us T.ts := ⟨nl, ni⟩
  obtain ⟨⟨yk, yn, yt, yo, ya⟩, d1, e1, f1, d2, e2, f2, hux⟩ := hX.plain.parts
  subst hux
  obtain ⟨tn, htn⟩ : ∃ tn, tn = T.ts.length := ⟨_, rfl⟩
  obtain ⟨kn, hkn⟩ : ∃ kn, kn = T.ks.length := ⟨_, rfl⟩
  have HN : Hid (tn = T.ts.length ∧ kn = T.ks.length) := ⟨htn, hkn⟩
  obtain ⟨post, hpost⟩ : ∃ post, post = PutP P w T.x ((T.ks.take k) ++ T.ks.drop (k + 1)) ((T.ts.take k) ++ T.ts.drop (k + 1)) := ⟨_, rfl⟩
  rw [← hpost]
  have HPO : Hid (post = PutP P w T.x ((T.ks.take k) ++ T.ks.drop (k + 1)) ((T.ts.take k) ++ T.ts.drop (k + 1))) := hpost
  clear hpost
  rw [← htn, ← hkn]
  rw [← hkn] at nk
  obtain ⟨xx, hxx⟩ : ∃ xx, T.x = xx := ⟨_, rfl⟩
  rw [hxx] at HPO h5 ⊢
  obtain ⟨xk, xn, xt, xo, xa⟩ := xx
  clear hxx
  dsimp only at h5
  obtain ⟨r, hr⟩ : ∃ r, r = k + 1 := ⟨_, rfl⟩
  rw [← hr] at HPO hk
  have hkl : k ≤ T.ts.length := by omega
  -- the boxes
  obtain ⟨B1, B2, b12⟩ := two_boxes w (.cells #[.int .i64 xk, .int .i64 xn, .string xt, .int .i64 xo, .int .i64 xa, .slice a1 kn c1, .slice a2 tn c2] 29) (.cells #[.int .i64 yk, .int .i64 yn, .string yt, .int .i64 yo, .int .i64 ya, .slice d1 e1 f1, .slice d2 e2 f2] 29)
  have hz2 : ((w.alloc (.cells #[.int .i64 xk, .int .i64 xn, .string xt, .int .i64 xo, .int .i64 xa, .slice a1 kn c1, .slice a2 tn c2] 29)).alloc (.cells #[.int .i64 yk, .int .i64 yn, .string yt, .int .i64 yo, .int .i64 ya, .slice d1 e1 f1, .slice d2 e2 f2] 29)).heap.size = w.heap.size + 2 := by simp
  have b3 := b12.alloc b12.size (.cells #[.int .i64 0, .int .i64 0, .string ⟨#[]⟩, .int .i64 0, .int .i64 0, .slice none 0 0, .slice none 0 0] 29)
  have c3 := (Below.refl (w.heap.size + 2) ((w.alloc (.cells #[.int .i64 xk, .int .i64 xn, .string xt, .int .i64 xo, .int .i64 xa, .slice a1 kn c1, .slice a2 tn c2] 29)).alloc (.cells #[.int .i64 yk, .int .i64 yn, .string yt, .int .i64 yo, .int .i64 ya, .slice d1 e1 f1, .slice d2 e2 f2] 29))).alloc (by omega) (.cells #[.int .i64 0, .int .i64 0, .string ⟨#[]⟩, .int .i64 0, .int .i64 0, .slice none 0 0, .slice none 0 0] 29)
  have B3 := (MapKept.heap_alloc ((w.alloc (.cells #[.int .i64 xk, .int .i64 xn, .string xt, .int .i64 xo, .int .i64 xa, .slice a1 kn c1, .slice a2 tn c2] 29)).alloc (.cells #[.int .i64 yk, .int .i64 yn, .string yt, .int .i64 yo, .int .i64 ya, .slice d1 e1 f1, .slice d2 e2 f2] 29)) (.cells #[.int .i64 0, .int .i64 0, .string ⟨#[]⟩, .int .i64 0, .int .i64 0, .slice none 0 0, .slice none 0 0] 29)).1
  rw [hz2] at B3
  have X0 := (c3.block w.heap.size (by omega)).trans B1
  have Y0 := (c3.block (w.heap.size + 1) (by omega)).trans B2
  have hz3 : (((w.alloc (.cells #[.int .i64 xk, .int .i64 xn, .string xt, .int .i64 xo, .int .i64 xa, .slice a1 kn c1, .slice a2 tn c2] 29)).alloc (.cells #[.int .i64 yk, .int .i64 yn, .string yt, .int .i64 yo, .int .i64 ya, .slice d1 e1 f1, .slice d2 e2 f2] 29)).alloc (.cells #[.int .i64 0, .int .i64 0, .string ⟨#[]⟩, .int .i64 0, .int .i64 0, .slice none 0 0, .slice none 0 0] 29)).heap.size = w.heap.size + 3 := by simp
  obtain ⟨W0, hW0⟩ : ∃ W0, ((w.alloc (.cells #[.int .i64 xk, .int .i64 xn, .string xt, .int .i64 xo, .int .i64 xa, .slice a1 kn c1, .slice a2 tn c2] 29)).alloc (.cells #[.int .i64 yk, .int .i64 yn, .string yt, .int .i64 yo, .int .i64 ya, .slice d1 e1 f1, .slice d2 e2 f2] 29)).alloc (.cells #[.int .i64 0, .int .i64 0, .string ⟨#[]⟩, .int .i64 0, .int .i64 0, .slice none 0 0, .slice none 0 0] 29) = W0 := ⟨_, rfl⟩
  rw [hW0] at b3 B3 X0 Y0 hz3
  have s1 := src_take nr b3 (k := k) (by omega) nc.2 (by omega)
  obtain ⟨v1, W1, q1, o1, g1, l1⟩ := appT 27 W0 (w.heap.size + 3) (by omega) (.slice none 0 0) [] (World.ownsRow_nil W0 (w.heap.size + 3) 29 7) a2 c2 (us.take k) s1.1 s1.2 (hall.take k).cells (by simp; omega)
  rw [List.nil_append] at o1
  have ek : (us.take k).length = k := by rw [List.length_take]; omega
  rw [ek] at q1
  have m1 : Below (w.heap.size) w W1 := b3.trans (l1.mono (by omega))
  have X1 := (l1.block w.heap.size (by omega)).trans X0
  have Y1 := (l1.block (w.heap.size + 1) (by omega)).trans Y0
  have Z1 := (l1.block (w.heap.size + 2) (by omega)).trans B3
  have z1 := l1.size
  obtain ⟨A2, hA2⟩ : ∃ A2, (if c2 = r then a2 else Option.map (fun x => x.add (r * 7)) a2) = A2 := ⟨_, rfl⟩
  have s3 := src_drop nr m1 (k := r) (by omega) nc.2 (by omega)
  rw [hA2] at s3
  obtain ⟨v3, W3, q3, o3, g3, l3⟩ := appT 27 W1 (w.heap.size + 3) (by omega) v1 (us.take k) o1 A2 (c2 - r) (us.drop r) s3.1 s3.2 (hall.drop r).cells (by simp; omega)
  have ed : (us.drop r).length = tn - r := by rw [List.length_drop]; omega
  rw [ed] at q3
  have m3 : Below (w.heap.size) w W3 := m1.trans (l3.mono (by omega))
  have X3 := (l3.block w.heap.size (by omega)).trans X1
  have Z3 := (l3.block (w.heap.size + 2) (by omega)).trans Z1
  have z3 : w.heap.size + 3 ≤ W3.heap.size := by have := l3.size; omega
  obtain ⟨ta3, tc3, hv3⟩ := slice_of o3
  have hallF : AllT P w ((us.take k) ++ us.drop r) ((T.ts.take k) ++ T.ts.drop r) := (hall.take k).app (hall.drop r)
  have s4 := strs_take nk m3 (k := k) (by omega)
  obtain ⟨v4, W4, q4, o4, g4, l4⟩ := appS 26 W3 (w.heap.size + 3) (by omega) (.slice none 0 0) [] (World.ownsRow_nil W3 (w.heap.size + 3) 9 1) a1 c1 (T.ks.take k) s4.1 s4.2 (by simp; omega)
  rw [List.nil_append] at o4
  have ekk : (T.ks.take k).length = k := by rw [List.length_take]; omega
  rw [ekk] at q4
  have m4 : Below (w.heap.size) w W4 := m3.trans (l4.mono (by omega))
  have X4 := (l4.block w.heap.size (by omega)).trans X3
  have Z4 := (l4.block (w.heap.size + 2) (by omega)).trans Z3
  have z4 : w.heap.size + 3 ≤ W4.heap.size := by have := l4.size; omega
  have t4 := own_grown' o3 g4 (World.ownsRow_nil W3 (w.heap.size + 3) 9 1) (by decide)
  obtain ⟨A1, hA1⟩ : ∃ A1, (if c1 = r then a1 else Option.map (fun x => x.add r) a1) = A1 := ⟨_, rfl⟩
  have s6 := strs_drop nk m4 (k := r) (by omega)
  rw [hA1] at s6
  obtain ⟨v6, W6, q6, o6, g6, l6⟩ := appS 26 W4 (w.heap.size + 3) (by omega) v4 (T.ks.take k) o4 A1 (c1 - r) (T.ks.drop r) s6.1 s6.2 (by simp; omega)
  have edk : (T.ks.drop r).length = kn - r := by rw [List.length_drop]; omega
  rw [edk] at q6
  have m6 : Below (w.heap.size) w W6 := m4.trans (l6.mono (by omega))
  have X6 := (l6.block w.heap.size (by omega)).trans X4
  have Z6 := (l6.block (w.heap.size + 2) (by omega)).trans Z4
  have z6 : w.heap.size + 3 ≤ W6.heap.size := by have := l6.size; omega
  have t6 := own_grown' t4 g6 o4 (by decide)
  obtain ⟨ka6, kc6, hv6⟩ := slice_of o6
  have HIS : Hid (∀ W', From (w.heap.size + 3) W6 W' → Below w.heap.size w W' → IsTP (fun b => P b ∨ w.heap.size + 3 ≤ b) W' (tval (⟨xk, xn, xt, xo, xa⟩, v6, v3)) (.node ⟨xk, xn, xt, xo, xa⟩ ((T.ks.take k) ++ T.ks.drop r) ((T.ts.take k) ++ T.ts.drop r))) := by
    intro W' hW' hB'
    have hkf : World.ownsRow W' (w.heap.size + 3) 9 1 (v6) ((T.ks.take k) ++ T.ks.drop r).length (scells ((T.ks.take k) ++ T.ks.drop r)) := own_from o6 hW'
    have htf : World.ownsRow W' (w.heap.size + 3) 29 7 v3 ((us.take k) ++ us.drop r).length (tcs ((us.take k) ++ us.drop r)) := own_from t6 hW'
    exact tree_of hkf htf (hallF.move hB' (fun _ h => Or.inl h)) (by simp; try omega) (by simp; try omega) (fun _ h => Or.inr h)
  obtain ⟨tl, htl⟩ : ∃ tl, ((us.take k) ++ us.drop r).length = tl := ⟨_, rfl⟩
  rw [htl] at hv3
  subst hv3
  obtain ⟨kl, hkl2⟩ : ∃ kl, ((T.ks.take k) ++ T.ks.drop r).length = kl := ⟨_, rfl⟩
  rw [hkl2] at hv6
  subst hv6
  have HX7 : Hid (((W6.setCell ⟨w.heap.size, 6, none⟩ (.slice ta3 tl tc3)).setCell ⟨w.heap.size, 5, none⟩ (.slice ka6 kl kc6)).heap[w.heap.size]? = some (.cells #[.int .i64 xk, .int .i64 xn, .string xt, .int .i64 xo, .int .i64 xa, .slice ka6 kl kc6, .slice ta3 tl tc3] 29)) := by
    show _ = _
    rw [set_at (set_at X6 6 _) 5 _]
    simp
  have HZ7 : Hid (((W6.setCell ⟨w.heap.size, 6, none⟩ (.slice ta3 tl tc3)).setCell ⟨w.heap.size, 5, none⟩ (.slice ka6 kl kc6)).heap[w.heap.size + 2]? = some (.cells #[.int .i64 0, .int .i64 0, .string ⟨#[]⟩, .int .i64 0, .int .i64 0, .slice none 0 0, .slice none 0 0] 29)) := heap_set_other (heap_set_other Z6 (by omega)) (by omega)
  have HF7 : Hid (From (w.heap.size + 3) W6 ((W6.setCell ⟨w.heap.size, 6, none⟩ (.slice ta3 tl tc3)).setCell ⟨w.heap.size, 5, none⟩ (.slice ka6 kl kc6))) := (From.set (by omega)).trans (From.set (by omega))
  have HB7 : Hid (Below w.heap.size w ((W6.setCell ⟨w.heap.size, 6, none⟩ (.slice ta3 tl tc3)).setCell ⟨w.heap.size, 5, none⟩ (.slice ka6 kl kc6))) := (m6.setCell (Nat.le_refl _) _).setCell (Nat.le_refl _) _
  have fa6 : W0.cell? ⟨w.heap.size, 6, none⟩ = some (.slice a2 tn c2) := Lib.cell_of_heap X0 6
  have fc6 : W1.cell? ⟨w.heap.size, 6, none⟩ = some (.slice a2 tn c2) := Lib.cell_of_heap X1 6
  have fd0 : W3.cell? ⟨w.heap.size, 0, none⟩ = some (.int .i64 xk) := Lib.cell_of_heap X3 0
  have fd5 : W3.cell? ⟨w.heap.size, 5, none⟩ = some (.slice a1 kn c1) := Lib.cell_of_heap X3 5
  have fe5 : W4.cell? ⟨w.heap.size, 5, none⟩ = some (.slice a1 kn c1) := Lib.cell_of_heap X4 5
  have ff0 : W6.cell? ⟨w.heap.size, 0, none⟩ = some (.int .i64 xk) := Lib.cell_of_heap X6 0
  have ff1 : W6.cell? ⟨w.heap.size, 1, none⟩ = some (.int .i64 xn) := Lib.cell_of_heap X6 1
  have ff2 : W6.cell? ⟨w.heap.size, 2, none⟩ = some (.string xt) := Lib.cell_of_heap X6 2
  have ff3 : W6.cell? ⟨w.heap.size, 3, none⟩ = some (.int .i64 xo) := Lib.cell_of_heap X6 3
  have ff4 : W6.cell? ⟨w.heap.size, 4, none⟩ = some (.int .i64 xa) := Lib.cell_of_heap X6 4
  have ff5 : W6.cell? ⟨w.heap.size, 5, none⟩ = some (.slice a1 kn c1) := Lib.cell_of_heap X6 5
  have ff6 : W6.cell? ⟨w.heap.size, 6, none⟩ = some (.slice a2 tn c2) := Lib.cell_of_heap X6 6
  have fff := Lib.frozen_of_heap X6
  have g1' : (k : Int) ≤ c2 := by have := nc.1; omega
  have g2' : (r : Int) ≤ tn := by omega
  have g3' : (k : Int) ≤ c1 := by obtain ⟨_, _, e, h9, _⟩ := nk; have := (Value.slice.inj e).2.2; omega
  have g4' : (r : Int) ≤ kn := by omega
  subst h5
  have hw : wrap64 ((k : Int) + 1) = (r : Int) := by unfold wrap64; omega
  clear hT hX nk nl nz nr ni hall HN htn hkn hs b12 hz2 b3 c3 B1 B2 B3 X0 Y0 hz3 s1 o1 g1 l1 m1 X1 Y1 Z1 z1 hkl s3 o3 g3 l3 ed m3 X3 Z3 z3 hallF htl ek hk nc s4 o4 g4 l4 ekk m4 X4 Z4 z4 t4 s6 o6 g6 l6 edk m6 X6 Z6 z6 t6 hkl2 hlk hr
  unfold tval
  dsimp only
  go_enter Tryd.func19, Tryd.ntmps19
  go_upto_region 3 with fail
  try rw [hW0]
  clear hW0
  go_upto_region 17 with (first | (at_builtin; refine wp_append rfl _ _ 27 rfl _ _ _ _ rfl rfl q1 ?_) | (at_builtin; refine wp_append rfl _ _ 27 rfl _ _ _ _ rfl rfl q3 ?_) | (at_builtin; refine wp_append rfl _ _ 26 rfl _ _ _ _ rfl rfl q4 ?_) | (at_builtin; refine wp_append rfl _ _ 26 rfl _ _ _ _ rfl rfl q6 ?_))
  clear q1 q3 q4 q6
  generalize (W6.setCell ⟨w.heap.size, 6, none⟩ (.slice ta3 tl tc3)).setCell ⟨w.heap.size, 5, none⟩ (.slice ka6 kl kc6) = W7 at *
  have x0 : W7.cell? ⟨w.heap.size, 0, none⟩ = some (.int .i64 5) := Lib.cell_of_heap HX7.out 0
  have x1 : W7.cell? ⟨w.heap.size, 1, none⟩ = some (.int .i64 xn) := Lib.cell_of_heap HX7.out 1
  have x2 : W7.cell? ⟨w.heap.size, 2, none⟩ = some (.string xt) := Lib.cell_of_heap HX7.out 2
  have x3 : W7.cell? ⟨w.heap.size, 3, none⟩ = some (.int .i64 xo) := Lib.cell_of_heap HX7.out 3
  have x4 : W7.cell? ⟨w.heap.size, 4, none⟩ = some (.int .i64 xa) := Lib.cell_of_heap HX7.out 4
  have x5 : W7.cell? ⟨w.heap.size, 5, none⟩ = some (.slice ka6 kl kc6) := Lib.cell_of_heap HX7.out 5
  have x6 : W7.cell? ⟨w.heap.size, 6, none⟩ = some (.slice ta3 tl tc3) := Lib.cell_of_heap HX7.out 6
  have z0 : W7.cell? ⟨w.heap.size + 2, 0, none⟩ = some (.int .i64 0) := Lib.cell_of_heap HZ7.out 0
  have z1 : W7.cell? ⟨w.heap.size + 2, 1, none⟩ = some (.int .i64 0) := Lib.cell_of_heap HZ7.out 1
  have z2 : W7.cell? ⟨w.heap.size + 2, 2, none⟩ = some (.string ⟨#[]⟩) := Lib.cell_of_heap HZ7.out 2
  have z3 : W7.cell? ⟨w.heap.size + 2, 3, none⟩ = some (.int .i64 0) := Lib.cell_of_heap HZ7.out 3
  have z4 : W7.cell? ⟨w.heap.size + 2, 4, none⟩ = some (.int .i64 0) := Lib.cell_of_heap HZ7.out 4
  have z5 : W7.cell? ⟨w.heap.size + 2, 5, none⟩ = some (.slice none 0 0) := Lib.cell_of_heap HZ7.out 5
  have z6 : W7.cell? ⟨w.heap.size + 2, 6, none⟩ = some (.slice none 0 0) := Lib.cell_of_heap HZ7.out 6
  have zf := Lib.frozen_of_heap HZ7.out
  have HBF : Hid (Below w.heap.size w (put7 W7 (w.heap.size + 2) 0 (⟨5, xn, xt, xo, xa⟩, .slice ka6 kl kc6, .slice ta3 tl tc3))) := put7_below HB7.out _ _ _ (by omega)
  have HHF : Hid ((put7 W7 (w.heap.size + 2) 0 (⟨5, xn, xt, xo, xa⟩, .slice ka6 kl kc6, .slice ta3 tl tc3)).heap[w.heap.size + 2]? = some _) := set7 HZ7.out (.int .i64 5) (.int .i64 xn) (.string xt) (.int .i64 xo) (.int .i64 xa) (.slice ka6 kl kc6) (.slice ta3 tl tc3)
  have HFF : Hid (From (w.heap.size + 3) W7 (put7 W7 (w.heap.size + 2) 0 (⟨5, xn, xt, xo, xa⟩, .slice ka6 kl kc6, .slice ta3 tl tc3))) := ⟨(put7_below (Below.refl 0 W7) _ _ _ (Nat.zero_le _)).size, fun k hk _ => put7_other W7 _ _ _ k (by omega)⟩
  go_wp2
  clear x0 x1 x2 x3 x4 x5 x6 z0 z1 z2 z3 z4 z5 z6 zf
  dsimp only [put7, Nat.zero_add] at HFF HBF HHF
  generalize ((((((W7.setCell ⟨w.heap.size + 2, 0, none⟩ (.int .i64 5)).setCell ⟨w.heap.size + 2, 1, none⟩ (.int .i64 xn)).setCell ⟨w.heap.size + 2, 2, none⟩ (.string xt)).setCell ⟨w.heap.size + 2, 3, none⟩ (.int .i64 xo)).setCell ⟨w.heap.size + 2, 4, none⟩ (.int .i64 xa)).setCell ⟨w.heap.size + 2, 5, none⟩ (.slice ka6 kl kc6)).setCell ⟨w.heap.size + 2, 6, none⟩ (.slice ta3 tl tc3) = VV at *
  obtain ⟨q0, q1, q2, q3, q4, q5, q6⟩ := tboxed (u := (⟨5, xn, xt, xo, xa⟩, .slice ka6 kl kc6, .slice ta3 tl tc3)) HHF.out
  dsimp only at q0 q1 q2 q3 q4 q5 q6
  refine bodyPost_ret (v := tval (⟨5, xn, xt, xo, xa⟩, .slice ka6 kl kc6, .slice ta3 tl tc3)) (by simp [tval, results, Tryd.results19, go_sem, q0, q1, q2, q3, q4, q5, q6]) rfl ?_
  rw [HPO.out]
  exact ⟨_, rfl, HIS.out VV (HF7.out.trans HFF.out) HBF.out, HBF.out⟩

set_option maxRecDepth 100000 in
set_option maxHeartbeats 8000000 in
theorem put_gone {P : Nat → Prop} {v vx : Value} {T X : JT} (k : Nat) (key : ByteArray) (w : World) (hT : IsTP P w v T) (hX : IsTP P w vx X) (h5 : T.x.k ≠ 5) (hk : k + 1 ≤ T.ts.length) (hs : T.ks.length ≤ 1000 ∧ T.ts.length ≤ 1000) :
    Calls Tryd.prog 19 #[v, .int .i64 k, vx, .bool false, .bool true, .string key] w fun e w' => PutP P w T.x (([] : List ByteArray)) ((T.ts.take k) ++ T.ts.drop (k + 1)) e w' := by
  obtain ⟨ux, rfl⟩ := hX.plain.of_val
  obtain ⟨eT, uk, a2, c2, us, rfl, nk0, nl, nc, nz, nr0, ni⟩ := hT.inv
  have nr := nr0.row
  have nk := nk0.strs
  obtain ⟨a1, c1, rfl, -, -, -⟩ := id nk
  clear eT nk0 nr0
  have hall : AllT P w us T.ts := ⟨nl, ni⟩
  obtain ⟨⟨yk, yn, yt, yo, ya⟩, d1, e1, f1, d2, e2, f2, hux⟩ := hX.plain.parts
  subst hux
  obtain ⟨tn, htn⟩ : ∃ tn, tn = T.ts.length := ⟨_, rfl⟩
  obtain ⟨kn, hkn⟩ : ∃ kn, kn = T.ks.length := ⟨_, rfl⟩
  have HN : Hid (tn = T.ts.length ∧ kn = T.ks.length) := ⟨htn, hkn⟩
  obtain ⟨post, hpost⟩ : ∃ post, post = PutP P w T.x (([] : List ByteArray)) ((T.ts.take k) ++ T.ts.drop (k + 1)) := ⟨_, rfl⟩
  rw [← hpost]
  have HPO : Hid (post = PutP P w T.x (([] : List ByteArray)) ((T.ts.take k) ++ T.ts.drop (k + 1))) := hpost
  clear hpost
  rw [← htn, ← hkn]
  rw [← hkn] at nk
  obtain ⟨xx, hxx⟩ : ∃ xx, T.x = xx := ⟨_, rfl⟩
  rw [hxx] at HPO h5 ⊢
  obtain ⟨xk, xn, xt, xo, xa⟩ := xx
  clear hxx
  dsimp only at h5
  obtain ⟨r, hr⟩ : ∃ r, r = k + 1 := ⟨_, rfl⟩
  rw [← hr] at HPO hk
  have hkl : k ≤ T.ts.length := by omega
  -- the boxes
  obtain ⟨B1, B2, b12⟩ := two_boxes w (.cells #[.int .i64 xk, .int .i64 xn, .string xt, .int .i64 xo, .int .i64 xa, .slice a1 kn c1, .slice a2 tn c2] 29) (.cells #[.int .i64 yk, .int .i64 yn, .string yt, .int .i64 yo, .int .i64 ya, .slice d1 e1 f1, .slice d2 e2 f2] 29)
  have hz2 : ((w.alloc (.cells #[.int .i64 xk, .int .i64 xn, .string xt, .int .i64 xo, .int .i64 xa, .slice a1 kn c1, .slice a2 tn c2] 29)).alloc (.cells #[.int .i64 yk, .int .i64 yn, .string yt, .int .i64 yo, .int .i64 ya, .slice d1 e1 f1, .slice d2 e2 f2] 29)).heap.size = w.heap.size + 2 := by simp
  have b3 := b12.alloc b12.size (.cells #[.int .i64 0, .int .i64 0, .string ⟨#[]⟩, .int .i64 0, .int .i64 0, .slice none 0 0, .slice none 0 0] 29)
  have c3 := (Below.refl (w.heap.size + 2) ((w.alloc (.cells #[.int .i64 xk, .int .i64 xn, .string xt, .int .i64 xo, .int .i64 xa, .slice a1 kn c1, .slice a2 tn c2] 29)).alloc (.cells #[.int .i64 yk, .int .i64 yn, .string yt, .int .i64 yo, .int .i64 ya, .slice d1 e1 f1, .slice d2 e2 f2] 29))).alloc (by omega) (.cells #[.int .i64 0, .int .i64 0, .string ⟨#[]⟩, .int .i64 0, .int .i64 0, .slice none 0 0, .slice none 0 0] 29)
  have B3 := (MapKept.heap_alloc ((w.alloc (.cells #[.int .i64 xk, .int .i64 xn, .string xt, .int .i64 xo, .int .i64 xa, .slice a1 kn c1, .slice a2 tn c2] 29)).alloc (.cells #[.int .i64 yk, .int .i64 yn, .string yt, .int .i64 yo, .int .i64 ya, .slice d1 e1 f1, .slice d2 e2 f2] 29)) (.cells #[.int .i64 0, .int .i64 0, .string ⟨#[]⟩, .int .i64 0, .int .i64 0, .slice none 0 0, .slice none 0 0] 29)).1
  rw [hz2] at B3
  have X0 := (c3.block w.heap.size (by omega)).trans B1
  have Y0 := (c3.block (w.heap.size + 1) (by omega)).trans B2
  have hz3 : (((w.alloc (.cells #[.int .i64 xk, .int .i64 xn, .string xt, .int .i64 xo, .int .i64 xa, .slice a1 kn c1, .slice a2 tn c2] 29)).alloc (.cells #[.int .i64 yk, .int .i64 yn, .string yt, .int .i64 yo, .int .i64 ya, .slice d1 e1 f1, .slice d2 e2 f2] 29)).alloc (.cells #[.int .i64 0, .int .i64 0, .string ⟨#[]⟩, .int .i64 0, .int .i64 0, .slice none 0 0, .slice none 0 0] 29)).heap.size = w.heap.size + 3 := by simp
  obtain ⟨W0, hW0⟩ : ∃ W0, ((w.alloc (.cells #[.int .i64 xk, .int .i64 xn, .string xt, .int .i64 xo, .int .i64 xa, .slice a1 kn c1, .slice a2 tn c2] 29)).alloc (.cells #[.int .i64 yk, .int .i64 yn, .string yt, .int .i64 yo, .int .i64 ya, .slice d1 e1 f1, .slice d2 e2 f2] 29)).alloc (.cells #[.int .i64 0, .int .i64 0, .string ⟨#[]⟩, .int .i64 0, .int .i64 0, .slice none 0 0, .slice none 0 0] 29) = W0 := ⟨_, rfl⟩
  rw [hW0] at b3 B3 X0 Y0 hz3
  have s1 := src_take nr b3 (k := k) (by omega) nc.2 (by omega)
  obtain ⟨v1, W1, q1, o1, g1, l1⟩ := appT 27 W0 (w.heap.size + 3) (by omega) (.slice none 0 0) [] (World.ownsRow_nil W0 (w.heap.size + 3) 29 7) a2 c2 (us.take k) s1.1 s1.2 (hall.take k).cells (by simp; omega)
  rw [List.nil_append] at o1
  have ek : (us.take k).length = k := by rw [List.length_take]; omega
  rw [ek] at q1
  have m1 : Below (w.heap.size) w W1 := b3.trans (l1.mono (by omega))
  have X1 := (l1.block w.heap.size (by omega)).trans X0
  have Y1 := (l1.block (w.heap.size + 1) (by omega)).trans Y0
  have Z1 := (l1.block (w.heap.size + 2) (by omega)).trans B3
  have z1 := l1.size
  obtain ⟨A2, hA2⟩ : ∃ A2, (if c2 = r then a2 else Option.map (fun x => x.add (r * 7)) a2) = A2 := ⟨_, rfl⟩
  have s3 := src_drop nr m1 (k := r) (by omega) nc.2 (by omega)
  rw [hA2] at s3
  obtain ⟨v3, W3, q3, o3, g3, l3⟩ := appT 27 W1 (w.heap.size + 3) (by omega) v1 (us.take k) o1 A2 (c2 - r) (us.drop r) s3.1 s3.2 (hall.drop r).cells (by simp; omega)
  have ed : (us.drop r).length = tn - r := by rw [List.length_drop]; omega
  rw [ed] at q3
  have m3 : Below (w.heap.size) w W3 := m1.trans (l3.mono (by omega))
  have X3 := (l3.block w.heap.size (by omega)).trans X1
  have Z3 := (l3.block (w.heap.size + 2) (by omega)).trans Z1
  have z3 : w.heap.size + 3 ≤ W3.heap.size := by have := l3.size; omega
  obtain ⟨ta3, tc3, hv3⟩ := slice_of o3
  have hallF : AllT P w ((us.take k) ++ us.drop r) ((T.ts.take k) ++ T.ts.drop r) := (hall.take k).app (hall.drop r)
  have HIS : Hid (∀ W', From (w.heap.size + 3) W3 W' → Below w.heap.size w W' → IsTP (fun b => P b ∨ w.heap.size + 3 ≤ b) W' (tval (⟨xk, xn, xt, xo, xa⟩, .slice none 0 0, v3)) (.node ⟨xk, xn, xt, xo, xa⟩ (([] : List ByteArray)) ((T.ts.take k) ++ T.ts.drop r))) := by
    intro W' hW' hB'
    have hkf : World.ownsRow W' (w.heap.size + 3) 9 1 (.slice none 0 0) (([] : List ByteArray)).length (scells (([] : List ByteArray))) := own_from (World.ownsRow_nil W3 (w.heap.size + 3) 9 1) hW'
    have htf : World.ownsRow W' (w.heap.size + 3) 29 7 v3 ((us.take k) ++ us.drop r).length (tcs ((us.take k) ++ us.drop r)) := own_from o3 hW'
    exact tree_of hkf htf (hallF.move hB' (fun _ h => Or.inl h)) (by simp; try omega) (by simp; try omega) (fun _ h => Or.inr h)
  obtain ⟨tl, htl⟩ : ∃ tl, ((us.take k) ++ us.drop r).length = tl := ⟨_, rfl⟩
  rw [htl] at hv3
  subst hv3
  have HX7 : Hid (((W3.setCell ⟨w.heap.size, 6, none⟩ (.slice ta3 tl tc3)).setCell ⟨w.heap.size, 5, none⟩ (.slice none 0 0)).heap[w.heap.size]? = some (.cells #[.int .i64 xk, .int .i64 xn, .string xt, .int .i64 xo, .int .i64 xa, .slice none 0 0, .slice ta3 tl tc3] 29)) := by
    show _ = _
    rw [set_at (set_at X3 6 _) 5 _]
    simp
  have HZ7 : Hid (((W3.setCell ⟨w.heap.size, 6, none⟩ (.slice ta3 tl tc3)).setCell ⟨w.heap.size, 5, none⟩ (.slice none 0 0)).heap[w.heap.size + 2]? = some (.cells #[.int .i64 0, .int .i64 0, .string ⟨#[]⟩, .int .i64 0, .int .i64 0, .slice none 0 0, .slice none 0 0] 29)) := heap_set_other (heap_set_other Z3 (by omega)) (by omega)
  have HF7 : Hid (From (w.heap.size + 3) W3 ((W3.setCell ⟨w.heap.size, 6, none⟩ (.slice ta3 tl tc3)).setCell ⟨w.heap.size, 5, none⟩ (.slice none 0 0))) := (From.set (by omega)).trans (From.set (by omega))
  have HB7 : Hid (Below w.heap.size w ((W3.setCell ⟨w.heap.size, 6, none⟩ (.slice ta3 tl tc3)).setCell ⟨w.heap.size, 5, none⟩ (.slice none 0 0))) := (m3.setCell (Nat.le_refl _) _).setCell (Nat.le_refl _) _
  have fa6 : W0.cell? ⟨w.heap.size, 6, none⟩ = some (.slice a2 tn c2) := Lib.cell_of_heap X0 6
  have fc6 : W1.cell? ⟨w.heap.size, 6, none⟩ = some (.slice a2 tn c2) := Lib.cell_of_heap X1 6
  have fd0 : W3.cell? ⟨w.heap.size, 0, none⟩ = some (.int .i64 xk) := Lib.cell_of_heap X3 0
  have fd5 : W3.cell? ⟨w.heap.size, 5, none⟩ = some (.slice a1 kn c1) := Lib.cell_of_heap X3 5
  have ff0 : W3.cell? ⟨w.heap.size, 0, none⟩ = some (.int .i64 xk) := Lib.cell_of_heap X3 0
  have ff1 : W3.cell? ⟨w.heap.size, 1, none⟩ = some (.int .i64 xn) := Lib.cell_of_heap X3 1
  have ff2 : W3.cell? ⟨w.heap.size, 2, none⟩ = some (.string xt) := Lib.cell_of_heap X3 2
  have ff3 : W3.cell? ⟨w.heap.size, 3, none⟩ = some (.int .i64 xo) := Lib.cell_of_heap X3 3
  have ff4 : W3.cell? ⟨w.heap.size, 4, none⟩ = some (.int .i64 xa) := Lib.cell_of_heap X3 4
  have ff5 : W3.cell? ⟨w.heap.size, 5, none⟩ = some (.slice a1 kn c1) := Lib.cell_of_heap X3 5
  have ff6 : W3.cell? ⟨w.heap.size, 6, none⟩ = some (.slice a2 tn c2) := Lib.cell_of_heap X3 6
  have fff := Lib.frozen_of_heap X3
  have g1' : (k : Int) ≤ c2 := by have := nc.1; omega
  have g2' : (r : Int) ≤ tn := by omega
  have h5' : (xk == 5) = false := by simpa using h5
  clear h5
  have hw : wrap64 ((k : Int) + 1) = (r : Int) := by unfold wrap64; omega
  clear hT hX nk nl nz nr ni hall HN htn hkn hs b12 hz2 b3 c3 B1 B2 B3 X0 Y0 hz3 s1 o1 g1 l1 m1 X1 Y1 Z1 z1 hkl s3 o3 g3 l3 ed m3 X3 Z3 z3 hallF htl ek hk nc hr
  unfold tval
  dsimp only
  go_enter Tryd.func19, Tryd.ntmps19
  go_upto_region 3 with fail
  try rw [hW0]
  clear hW0
  go_upto_region 17 with (first | (at_builtin; refine wp_append rfl _ _ 27 rfl _ _ _ _ rfl rfl q1 ?_) | (at_builtin; refine wp_append rfl _ _ 27 rfl _ _ _ _ rfl rfl q3 ?_))
  clear q1 q3
  generalize (W3.setCell ⟨w.heap.size, 6, none⟩ (.slice ta3 tl tc3)).setCell ⟨w.heap.size, 5, none⟩ (.slice none 0 0) = W7 at *
  have x0 : W7.cell? ⟨w.heap.size, 0, none⟩ = some (.int .i64 xk) := Lib.cell_of_heap HX7.out 0
  have x1 : W7.cell? ⟨w.heap.size, 1, none⟩ = some (.int .i64 xn) := Lib.cell_of_heap HX7.out 1
  have x2 : W7.cell? ⟨w.heap.size, 2, none⟩ = some (.string xt) := Lib.cell_of_heap HX7.out 2
  have x3 : W7.cell? ⟨w.heap.size, 3, none⟩ = some (.int .i64 xo) := Lib.cell_of_heap HX7.out 3
  have x4 : W7.cell? ⟨w.heap.size, 4, none⟩ = some (.int .i64 xa) := Lib.cell_of_heap HX7.out 4
  have x5 : W7.cell? ⟨w.heap.size, 5, none⟩ = some (.slice none 0 0) := Lib.cell_of_heap HX7.out 5
  have x6 : W7.cell? ⟨w.heap.size, 6, none⟩ = some (.slice ta3 tl tc3) := Lib.cell_of_heap HX7.out 6
  have z0 : W7.cell? ⟨w.heap.size + 2, 0, none⟩ = some (.int .i64 0) := Lib.cell_of_heap HZ7.out 0
  have z1 : W7.cell? ⟨w.heap.size + 2, 1, none⟩ = some (.int .i64 0) := Lib.cell_of_heap HZ7.out 1
  have z2 : W7.cell? ⟨w.heap.size + 2, 2, none⟩ = some (.string ⟨#[]⟩) := Lib.cell_of_heap HZ7.out 2
  have z3 : W7.cell? ⟨w.heap.size + 2, 3, none⟩ = some (.int .i64 0) := Lib.cell_of_heap HZ7.out 3
  have z4 : W7.cell? ⟨w.heap.size + 2, 4, none⟩ = some (.int .i64 0) := Lib.cell_of_heap HZ7.out 4
  have z5 : W7.cell? ⟨w.heap.size + 2, 5, none⟩ = some (.slice none 0 0) := Lib.cell_of_heap HZ7.out 5
  have z6 : W7.cell? ⟨w.heap.size + 2, 6, none⟩ = some (.slice none 0 0) := Lib.cell_of_heap HZ7.out 6
  have zf := Lib.frozen_of_heap HZ7.out
  have HBF : Hid (Below w.heap.size w (put7 W7 (w.heap.size + 2) 0 (⟨xk, xn, xt, xo, xa⟩, .slice none 0 0, .slice ta3 tl tc3))) := put7_below HB7.out _ _ _ (by omega)
  have HHF : Hid ((put7 W7 (w.heap.size + 2) 0 (⟨xk, xn, xt, xo, xa⟩, .slice none 0 0, .slice ta3 tl tc3)).heap[w.heap.size + 2]? = some _) := set7 HZ7.out (.int .i64 xk) (.int .i64 xn) (.string xt) (.int .i64 xo) (.int .i64 xa) (.slice none 0 0) (.slice ta3 tl tc3)
  have HFF : Hid (From (w.heap.size + 3) W7 (put7 W7 (w.heap.size + 2) 0 (⟨xk, xn, xt, xo, xa⟩, .slice none 0 0, .slice ta3 tl tc3))) := ⟨(put7_below (Below.refl 0 W7) _ _ _ (Nat.zero_le _)).size, fun k hk _ => put7_other W7 _ _ _ k (by omega)⟩
  go_wp2
  clear x0 x1 x2 x3 x4 x5 x6 z0 z1 z2 z3 z4 z5 z6 zf
  dsimp only [put7, Nat.zero_add] at HFF HBF HHF
  generalize ((((((W7.setCell ⟨w.heap.size + 2, 0, none⟩ (.int .i64 xk)).setCell ⟨w.heap.size + 2, 1, none⟩ (.int .i64 xn)).setCell ⟨w.heap.size + 2, 2, none⟩ (.string xt)).setCell ⟨w.heap.size + 2, 3, none⟩ (.int .i64 xo)).setCell ⟨w.heap.size + 2, 4, none⟩ (.int .i64 xa)).setCell ⟨w.heap.size + 2, 5, none⟩ (.slice none 0 0)).setCell ⟨w.heap.size + 2, 6, none⟩ (.slice ta3 tl tc3) = VV at *
  obtain ⟨q0, q1, q2, q3, q4, q5, q6⟩ := tboxed (u := (⟨xk, xn, xt, xo, xa⟩, .slice none 0 0, .slice ta3 tl tc3)) HHF.out
  dsimp only at q0 q1 q2 q3 q4 q5 q6
  refine bodyPost_ret (v := tval (⟨xk, xn, xt, xo, xa⟩, .slice none 0 0, .slice ta3 tl tc3)) (by simp [tval, results, Tryd.results19, go_sem, q0, q1, q2, q3, q4, q5, q6]) rfl ?_
  rw [HPO.out]
  exact ⟨_, rfl, HIS.out VV (HF7.out.trans HFF.out) HBF.out, HBF.out⟩
end Go.Proofs.YtegbjkjeoegfbaaDoor
