/-
  What is proved: what package dag's opFits answers.
  Conditions: the changes, and the op's list of ids, lie in memory.
-/
import Derived.Test.YtbjnemmghpmjjaaDOpf2
import Derived.Test.YtbjnemmghpmjjaaDIdx2
import Derived.Deep.RegionHeld3
import Derived.Handy
namespace Go.Proofs.Ytbjnemmghpmjjaa
open Go.RowKit Go.Maps

/-- Goes an op with what stands ahead of it? -/
def opFitsM (cs : List Chg) (o : OpM) : Bool := keyFitsM cs o && elemFitsM cs o && !(o.preds.any fun a => !predFitsM o (lookM cs a).1 (lookM cs a).2)

theorem cell_in {W : World} {a : Addr} {v : Value} (h : W.cell? a = some v) : a.block < W.heap.size := by
  unfold World.cell? at h
  cases hb : W.heap[a.block]? with
  | none => rw [hb] at h; simp at h
  | some o => exact lt_of_heap hb

theorem keepU {W W' : World} {o : OpM} {pa va : Option Addr} {pn pc vc ln x y z : Nat} {a1 a2 : Int} (h : W.cell? ⟨x, 0, none⟩ = some (.int .i64 o.kind) ∧ W.cell? ⟨x, 1, none⟩ = some (.int .i64 o.obj.1) ∧ W.cell? ⟨x, 2, none⟩ = some (.int .i64 o.obj.2) ∧ W.cell? ⟨x, 3, none⟩ = some (.string o.key) ∧ W.cell? ⟨x, 4, none⟩ = some (.int .i64 o.elem.1) ∧ W.cell? ⟨x, 5, none⟩ = some (.int .i64 o.elem.2) ∧ W.cell? ⟨x, 6, none⟩ = some (.bool o.ins) ∧ W.cell? ⟨x, 7, none⟩ = some (.int .i64 o.val.k) ∧ W.cell? ⟨x, 8, none⟩ = some (.int .i64 o.val.n) ∧ W.cell? ⟨x, 9, none⟩ = some (.string o.val.t) ∧ W.cell? ⟨x, 10, none⟩ = some (.int .i64 o.val.o) ∧ W.cell? ⟨x, 11, none⟩ = some (.int .i64 o.val.a) ∧ W.cell? ⟨x, 12, none⟩ = some (.slice pa pn pc) ∧ W.cell? ⟨y, 0, none⟩ = some (.slice va ln vc) ∧ W.cell? ⟨z, 0, none⟩ = some (.int .i64 a1) ∧ W.cell? ⟨z, 1, none⟩ = some (.int .i64 a2)) (hb : Below W.heap.size W W') : W'.cell? ⟨x, 0, none⟩ = some (.int .i64 o.kind) ∧ W'.cell? ⟨x, 1, none⟩ = some (.int .i64 o.obj.1) ∧ W'.cell? ⟨x, 2, none⟩ = some (.int .i64 o.obj.2) ∧ W'.cell? ⟨x, 3, none⟩ = some (.string o.key) ∧ W'.cell? ⟨x, 4, none⟩ = some (.int .i64 o.elem.1) ∧ W'.cell? ⟨x, 5, none⟩ = some (.int .i64 o.elem.2) ∧ W'.cell? ⟨x, 6, none⟩ = some (.bool o.ins) ∧ W'.cell? ⟨x, 7, none⟩ = some (.int .i64 o.val.k) ∧ W'.cell? ⟨x, 8, none⟩ = some (.int .i64 o.val.n) ∧ W'.cell? ⟨x, 9, none⟩ = some (.string o.val.t) ∧ W'.cell? ⟨x, 10, none⟩ = some (.int .i64 o.val.o) ∧ W'.cell? ⟨x, 11, none⟩ = some (.int .i64 o.val.a) ∧ W'.cell? ⟨x, 12, none⟩ = some (.slice pa pn pc) ∧ W'.cell? ⟨y, 0, none⟩ = some (.slice va ln vc) ∧ W'.cell? ⟨z, 0, none⟩ = some (.int .i64 a1) ∧ W'.cell? ⟨z, 1, none⟩ = some (.int .i64 a2) := by
  obtain ⟨h0, h1, h2, h3, h4, h5, h6, h7, h8, h9, h10, h11, h12, h13, h14, h15⟩ := h
  exact ⟨(hb.cell (cell_in h0)).trans h0, (hb.cell (cell_in h1)).trans h1, (hb.cell (cell_in h2)).trans h2, (hb.cell (cell_in h3)).trans h3, (hb.cell (cell_in h4)).trans h4, (hb.cell (cell_in h5)).trans h5, (hb.cell (cell_in h6)).trans h6, (hb.cell (cell_in h7)).trans h7, (hb.cell (cell_in h8)).trans h8, (hb.cell (cell_in h9)).trans h9, (hb.cell (cell_in h10)).trans h10, (hb.cell (cell_in h11)).trans h11, (hb.cell (cell_in h12)).trans h12, (hb.cell (cell_in h13)).trans h13, (hb.cell (cell_in h14)).trans h14, (hb.cell (cell_in h15)).trans h15⟩

set_option maxRecDepth 100000 in
set_option maxHeartbeats 8000000 in
theorem unfit_any (v : Value) (l : List CX) (o : OpM) (pa : Option Addr) (pn pc x y : Nat) (a : Pr) (w : World) (hv : IsChgs w v l)
    (hx : w.heap[x]? = some (.cells #[.int .i64 o.kind, .int .i64 o.obj.1, .int .i64 o.obj.2, .string o.key, .int .i64 o.elem.1, .int .i64 o.elem.2, .bool o.ins, .int .i64 o.val.k, .int .i64 o.val.n, .string o.val.t, .int .i64 o.val.o, .int .i64 o.val.a, .slice pa pn pc] 64)) (hy : w.heap[y]? = some (.cells #[v] 22)) :
    Calls Try.prog 57 #[refV a, .pointer (some ⟨x, 0, none⟩), .pointer (some ⟨y, 0, none⟩)] w fun e w' => e = .returned (.bool (!predFitsM o (lookM (l.map (·.c)) a).1 (lookM (l.map (·.c)) a).2)) ∧ Below w.heap.size w w' := by
  obtain ⟨a1, a2⟩ := a
  obtain ⟨va, vc, rfl, _⟩ := id hv
  have b0 := (Below.refl w.heap.size w).alloc (Nat.le_refl _) (.cells #[.int .i64 a1, .int .i64 a2] 59)
  have n0 := heap_alloc_new w (.cells #[.int .i64 a1, .int .i64 a2] 59)
  have x0 := heap_alloc_old hx (.cells #[.int .i64 a1, .int .i64 a2] 59)
  have y0 := heap_alloc_old hy (.cells #[.int .i64 a1, .int .i64 a2] 59)
  obtain ⟨⟨p, x1, x2⟩, hp⟩ : ∃ p, lookM (l.map (·.c)) (a1, a2) = p := ⟨_, rfl⟩
  have hvW := hv.below b0
  rw [hp]
  dsimp only
  obtain ⟨rk, hrk⟩ : ∃ rk : Bool, predFitsM o p (x1, x2) = rk := ⟨_, rfl⟩
  have E2 := fun sa sn sc W => predFits_any o p pa sa pn pc sn sc (x1, x2) W
  rw [hrk] at E2 ⊢
  have HA : Hid (_ ∧ _ ∧ _ ∧ _ ∧ _ ∧ _) := ⟨b0, n0, x0, y0, hvW, hp⟩
  clear b0 n0 x0 y0 hx hy hv hvW hp hrk
  go_enter Try.func57, Try.ntmps57
  go_wp2
  obtain ⟨b0, n0, x0, y0, hvW, hp⟩ := HA.out
  clear HA
  generalize w.alloc (.cells #[.int .i64 a1, .int .i64 a2] 59) = W at *
  have E1 := lookUp_any _ l (a1, a2) W.drew (hvW.below (drew_of (Below.refl _ W)))
  rw [hp] at E1
  have c0 : W.cell? ⟨w.heap.size, 0, none⟩ = some (.int .i64 a1) := Lib.cell_of_heap n0 0
  have c1 : W.cell? ⟨w.heap.size, 1, none⟩ = some (.int .i64 a2) := Lib.cell_of_heap n0 1
  have d0 : W.cell? ⟨y, 0, none⟩ = some (.slice va l.length vc) := Lib.cell_of_heap y0 0
  have p0 : W.cell? ⟨x, 0, none⟩ = some (.int .i64 o.kind) := Lib.cell_of_heap x0 0
  have p1 : W.cell? ⟨x, 1, none⟩ = some (.int .i64 o.obj.1) := Lib.cell_of_heap x0 1
  have p2 : W.cell? ⟨x, 2, none⟩ = some (.int .i64 o.obj.2) := Lib.cell_of_heap x0 2
  have p3 : W.cell? ⟨x, 3, none⟩ = some (.string o.key) := Lib.cell_of_heap x0 3
  have p4 : W.cell? ⟨x, 4, none⟩ = some (.int .i64 o.elem.1) := Lib.cell_of_heap x0 4
  have p5 : W.cell? ⟨x, 5, none⟩ = some (.int .i64 o.elem.2) := Lib.cell_of_heap x0 5
  have p6 : W.cell? ⟨x, 6, none⟩ = some (.bool o.ins) := Lib.cell_of_heap x0 6
  have p7 : W.cell? ⟨x, 7, none⟩ = some (.int .i64 o.val.k) := Lib.cell_of_heap x0 7
  have p8 : W.cell? ⟨x, 8, none⟩ = some (.int .i64 o.val.n) := Lib.cell_of_heap x0 8
  have p9 : W.cell? ⟨x, 9, none⟩ = some (.string o.val.t) := Lib.cell_of_heap x0 9
  have p10 : W.cell? ⟨x, 10, none⟩ = some (.int .i64 o.val.o) := Lib.cell_of_heap x0 10
  have p11 : W.cell? ⟨x, 11, none⟩ = some (.int .i64 o.val.a) := Lib.cell_of_heap x0 11
  have p12 : W.cell? ⟨x, 12, none⟩ = some (.slice pa pn pc) := Lib.cell_of_heap x0 12
  have HB : Hid (Below w.heap.size w W) := b0
  have z0 := lt_of_heap n0
  have z1 := lt_of_heap x0
  have z2 := lt_of_heap y0
  clear b0 n0 x0 y0 hvW hp
  go_region_held3 (fun W => W.cell? ⟨x, 0, none⟩ = some (.int .i64 o.kind) ∧ W.cell? ⟨x, 1, none⟩ = some (.int .i64 o.obj.1) ∧ W.cell? ⟨x, 2, none⟩ = some (.int .i64 o.obj.2) ∧ W.cell? ⟨x, 3, none⟩ = some (.string o.key) ∧ W.cell? ⟨x, 4, none⟩ = some (.int .i64 o.elem.1) ∧ W.cell? ⟨x, 5, none⟩ = some (.int .i64 o.elem.2) ∧ W.cell? ⟨x, 6, none⟩ = some (.bool o.ins) ∧ W.cell? ⟨x, 7, none⟩ = some (.int .i64 o.val.k) ∧ W.cell? ⟨x, 8, none⟩ = some (.int .i64 o.val.n) ∧ W.cell? ⟨x, 9, none⟩ = some (.string o.val.t) ∧ W.cell? ⟨x, 10, none⟩ = some (.int .i64 o.val.o) ∧ W.cell? ⟨x, 11, none⟩ = some (.int .i64 o.val.a) ∧ W.cell? ⟨x, 12, none⟩ = some (.slice pa pn pc) ∧ W.cell? ⟨y, 0, none⟩ = some (.slice va l.length vc) ∧ W.cell? ⟨w.heap.size, 0, none⟩ = some (.int .i64 a1) ∧ W.cell? ⟨w.heap.size, 1, none⟩ = some (.int .i64 a2)) (first | exact keepU (by assumption) hbB | exact keepU (by assumption) hbA | go_keep) (first
    | (go_at_call 59; refine Calls.mono E1 ?_; rintro e w1 ⟨⟨sa, sn, sc, rfl⟩, hbA⟩; simp only [knVal, knCells, opCells, List.cons_append, List.nil_append])
    | (go_at_call 58; refine (E2 _ _ _ _).mono ?_; rintro e w2 ⟨rfl, hbB⟩))
  go_wp2
  go_ret
  exact ⟨rfl, ((drew_of HB.out).trans (hbA.mono HB.out.size)).trans (hbB.mono (Nat.le_trans HB.out.size hbA.size))⟩

set_option maxRecDepth 100000 in
set_option maxHeartbeats 8000000 in
theorem opFits_any (v u : Value) (l : List CX) (o : OpM) (w : World) (hv : IsChgs w v l) (hu : IsPairs w u o.preds) :
    Calls Try.prog 38 #[opVal o u, v] w fun e w' => e = .returned (.bool (opFitsM (l.map (·.c)) o)) ∧ Below w.heap.size w w' := by
  obtain ⟨pa, pc, rfl, _⟩ := id hu
  obtain ⟨va, vc, rfl, _⟩ := id hv
  simp only [opVal, opCells]
  have b0 := ((Below.refl w.heap.size w).alloc (Nat.le_refl _) (.cells #[.int .i64 o.kind, .int .i64 o.obj.1, .int .i64 o.obj.2, .string o.key, .int .i64 o.elem.1, .int .i64 o.elem.2, .bool o.ins, .int .i64 o.val.k, .int .i64 o.val.n, .string o.val.t, .int .i64 o.val.o, .int .i64 o.val.a, .slice pa o.preds.length pc] 64)).alloc (by simp) (.cells #[.slice va l.length vc] 22)
  have x0 := heap_alloc_old (heap_alloc_new w (.cells #[.int .i64 o.kind, .int .i64 o.obj.1, .int .i64 o.obj.2, .string o.key, .int .i64 o.elem.1, .int .i64 o.elem.2, .bool o.ins, .int .i64 o.val.k, .int .i64 o.val.n, .string o.val.t, .int .i64 o.val.o, .int .i64 o.val.a, .slice pa o.preds.length pc] 64)) (.cells #[.slice va l.length vc] 22)
  have y0 := heap_alloc_new (w.alloc (.cells #[.int .i64 o.kind, .int .i64 o.obj.1, .int .i64 o.obj.2, .string o.key, .int .i64 o.elem.1, .int .i64 o.elem.2, .bool o.ins, .int .i64 o.val.k, .int .i64 o.val.n, .string o.val.t, .int .i64 o.val.o, .int .i64 o.val.a, .slice pa o.preds.length pc] 64)) (.cells #[.slice va l.length vc] 22)
  rw [show (w.alloc (.cells #[.int .i64 o.kind, .int .i64 o.obj.1, .int .i64 o.obj.2, .string o.key, .int .i64 o.elem.1, .int .i64 o.elem.2, .bool o.ins, .int .i64 o.val.k, .int .i64 o.val.n, .string o.val.t, .int .i64 o.val.o, .int .i64 o.val.a, .slice pa o.preds.length pc] 64)).heap.size = w.heap.size + 1 from by simp] at y0
  have E1 := keyFits_any _ l o pa o.preds.length pc _ (hv.below b0)
  simp only [opVal, opCells] at E1
  have HA : Hid (_ ∧ _ ∧ _ ∧ _ ∧ _) := ⟨b0, x0, y0, hv, hu⟩
  have eg : ∀ args w, (callFunc 57 args).run Try.prog w = .ok (.enter 57 args) w := enters_of Try.func57 (by kernel_rfl) rfl
  unfold opFitsM
  obtain ⟨kb, hkb⟩ : ∃ b : Bool, keyFitsM (l.map (·.c)) o = b := ⟨_, rfl⟩
  obtain ⟨eb, heb⟩ : ∃ b : Bool, elemFitsM (l.map (·.c)) o = b := ⟨_, rfl⟩
  obtain ⟨ab, hab⟩ : ∃ b : Bool, (o.preds.any fun a => !predFitsM o (lookM (l.map (·.c)) a).1 (lookM (l.map (·.c)) a).2) = b := ⟨_, rfl⟩
  rw [hkb] at E1 ⊢
  rw [heb, hab]
  have HE : Hid (_ ∧ _) := ⟨heb, hab⟩
  clear b0 x0 y0 hv hu hkb heb hab
  cases kb with
  | false =>
    go_enter Try.func38, Try.ntmps38
    go_wp2_with fail
    go_fit E1
    rintro e w1 ⟨rfl, b1⟩
    have HB : Hid (Below w.heap.size w w1) := HA.out.1.trans (b1.mono HA.out.1.size)
    clear b1 E1
    go_wp2
    go_ret
    exact ⟨by simp, HB.out⟩
  | true =>
    go_enter Try.func38, Try.ntmps38
    go_wp2_with fail
    go_fit E1
    rintro e w1 ⟨rfl, b1⟩
    obtain ⟨b0, x0, y0, hv, hu⟩ := HA.out
    have B1 : Below w.heap.size w w1 := b0.trans (b1.mono b0.size)
    have x1 := heap_below x0 b1 (Nat.le_refl _)
    have y1 := heap_below y0 b1 (Nat.le_refl _)
    have E2 := elemFits_any _ l o pa o.preds.length pc w1 (hv.below B1)
    simp only [opVal, opCells] at E2
    rw [HE.out.1] at E2
    have p0 : w1.cell? ⟨w.heap.size, 0, none⟩ = some (.int .i64 o.kind) := Lib.cell_of_heap x1 0
    have p1 : w1.cell? ⟨w.heap.size, 1, none⟩ = some (.int .i64 o.obj.1) := Lib.cell_of_heap x1 1
    have p2 : w1.cell? ⟨w.heap.size, 2, none⟩ = some (.int .i64 o.obj.2) := Lib.cell_of_heap x1 2
    have p3 : w1.cell? ⟨w.heap.size, 3, none⟩ = some (.string o.key) := Lib.cell_of_heap x1 3
    have p4 : w1.cell? ⟨w.heap.size, 4, none⟩ = some (.int .i64 o.elem.1) := Lib.cell_of_heap x1 4
    have p5 : w1.cell? ⟨w.heap.size, 5, none⟩ = some (.int .i64 o.elem.2) := Lib.cell_of_heap x1 5
    have p6 : w1.cell? ⟨w.heap.size, 6, none⟩ = some (.bool o.ins) := Lib.cell_of_heap x1 6
    have p7 : w1.cell? ⟨w.heap.size, 7, none⟩ = some (.int .i64 o.val.k) := Lib.cell_of_heap x1 7
    have p8 : w1.cell? ⟨w.heap.size, 8, none⟩ = some (.int .i64 o.val.n) := Lib.cell_of_heap x1 8
    have p9 : w1.cell? ⟨w.heap.size, 9, none⟩ = some (.string o.val.t) := Lib.cell_of_heap x1 9
    have p10 : w1.cell? ⟨w.heap.size, 10, none⟩ = some (.int .i64 o.val.o) := Lib.cell_of_heap x1 10
    have p11 : w1.cell? ⟨w.heap.size, 11, none⟩ = some (.int .i64 o.val.a) := Lib.cell_of_heap x1 11
    have p12 : w1.cell? ⟨w.heap.size, 12, none⟩ = some (.slice pa o.preds.length pc) := Lib.cell_of_heap x1 12
    have d0 : w1.cell? ⟨w.heap.size + 1, 0, none⟩ = some (.slice va l.length vc) := Lib.cell_of_heap y1 0
    have z1 := lt_of_heap x1
    have z2 := lt_of_heap y1
    have HB : Hid (_ ∧ _ ∧ _) := ⟨B1, x1, y1⟩
    clear b0 x0 y0 hv hu B1 x1 y1 b1 E1
    cases eb with
    | false =>
      go_wp2_with fail
      go_fit E2
      rintro e w2 ⟨rfl, b2⟩
      have HB2 : Hid (Below w.heap.size w w2) := HB.out.1.trans (b2.mono HB.out.1.size)
      clear b2 E2 p0 p1 p2 p3 p4 p5 p6 p7 p8 p9 p10 p11 p12 d0 z1 z2
      go_wp2
      go_ret
      exact ⟨by simp, HB2.out⟩
    | true =>
      go_wp2_with fail
      go_fit E2
      rintro e w2 ⟨rfl, b2⟩
      have B2 : Below w.heap.size w w2 := HB.out.1.trans (b2.mono HB.out.1.size)
      have x2 := heap_below HB.out.2.1 b2 (Nat.le_refl _)
      have y2 := heap_below HB.out.2.2 b2 (Nat.le_refl _)
      have E3 := containsD_any 57 eg (.pointer (some ⟨w.heap.size, 0, none⟩)) (.pointer (some ⟨w.heap.size + 1, 0, none⟩)) (fun a => !predFitsM o (lookM (l.map (·.c)) a).1 (lookM (l.map (·.c)) a).2) (.slice pa o.preds.length pc) o.preds w2 (HA.out.2.2.2.2.below B2) (fun a _ W hb =>
        unfit_any _ l o pa o.preds.length pc w.heap.size (w.heap.size + 1) a W ((HA.out.2.2.2.1.below B2).below hb) (heap_below x2 hb (Nat.le_refl _)) (heap_below y2 hb (Nat.le_refl _)))
      rw [HE.out.2] at E3
      have q12 : w2.cell? ⟨w.heap.size, 12, none⟩ = some (.slice pa o.preds.length pc) := Lib.cell_of_heap x2 12
      have z3 := lt_of_heap x2
      have HB2 : Hid (Below w.heap.size w w2) := B2
      clear b2 E2 p0 p1 p2 p3 p4 p5 p6 p7 p8 p9 p10 p11 p12 d0 z1 z2 B2 x2 y2
      go_wp2_with fail
      go_fit E3
      rintro e w3 ⟨rfl, b3⟩
      have HB3 : Hid (Below w.heap.size w w3) := HB2.out.trans (b3.mono HB2.out.size)
      clear b3 E3 q12 z3
      go_wp2
      go_ret
      exact ⟨by simp, HB3.out⟩
end Go.Proofs.Ytbjnemmghpmjjaa
