/-
  What is proved: what Make of package bloom answers of any refs and any bits: an error, or a filter in which all places of each ref are set.
  Conditions: the refs lie in memory; bits is a number of 64 bits.
-/
import Derived.Test.YtegiaecnikljkaaBlP
import Derived.OwnWalk
import Derived.Laws.OwnMore
import Derived.Test.YtegiaecnikljkaaJHeldE
namespace Go.Proofs.Ytegiaecnikljkaa
open Go.RowKit

abbrev BRef := Int × Int

/-- A slice value that holds refs. -/
def IsRefs (w : World) (v : Value) (l : List BRef) : Prop :=
  ∃ a cap, v = .slice a l.length cap ∧ l.length ≤ 8796093022208 ∧ (l ≠ [] → ∃ b off, a = some ⟨b, off, none⟩ ∧ b < w.heap.size ∧
    ∀ i (h : i < l.length), w.cell? ⟨b, off + i * 2, none⟩ = some (.int .i64 l[i].1) ∧ w.cell? ⟨b, off + i * 2 + 1, none⟩ = some (.int .i64 l[i].2))

theorem IsRefs.below {w w' : World} {v : Value} {l : List BRef} (h : IsRefs w v l) (hb : Below w.heap.size w w') : IsRefs w' v l := by
  obtain ⟨a, cap, rfl, h2, h3⟩ := h
  refine ⟨a, cap, rfl, h2, fun hl => ?_⟩
  obtain ⟨b, off, rfl, h4, h5⟩ := h3 hl
  exact ⟨b, off, rfl, Nat.lt_of_lt_of_le h4 hb.size, fun i hi => ⟨by rw [hb.cell (p := ⟨b, off + i * 2, none⟩) h4]; exact (h5 i hi).1, by rw [hb.cell (p := ⟨b, off + i * 2 + 1, none⟩) h4]; exact (h5 i hi).2⟩⟩

theorem own_keep {B C e s n : Nat} {w w' : World} {v : Value} {xs : List Value} (h : w.ownsRow B e s v n xs) (hb : Below C w w') (hC : w.heap.size ≤ C) : w'.ownsRow B e s v n xs := by
  refine ⟨h.1, ?_⟩
  rcases h.2 with h0 | ⟨g, cap, cur, h1, h2, h3, h4⟩
  · exact Or.inl h0
  · refine Or.inr ⟨g, cap, cur, h1, h2, ?_, h4⟩
    have hlt : g < w.heap.size := by
      rcases Nat.lt_or_ge g w.heap.size with h | h
      · exact h
      · rw [Array.getElem?_eq_none h] at h3; cases h3
    rw [hb.block g (by omega)]
    exact h3

/-- Is a place's bit set? -/
def hasB (F : List UInt8) (k : Nat) : Prop := ∃ y, F[k / 8]? = some y ∧ y.toNat.testBit (k % 8) = true

/-- A place's bit, set. -/
def markB (y : UInt8) (k : Nat) : UInt8 := y ||| UInt8.ofNat (2 ^ (k % 8))

theorem mark_same (y : UInt8) (k : Nat) : (markB y k).toNat.testBit (k % 8) = true := by
  have h : k % 8 < 8 := Nat.mod_lt _ (by omega)
  unfold markB
  rw [UInt8.toNat_or, Nat.testBit_or, UInt8.toNat_ofNat', pow_mod8, Nat.testBit_two_pow_self, Bool.or_true]
theorem mark_other (y : UInt8) (k j : Nat) (h : y.toNat.testBit (j % 8) = true) : (markB y k).toNat.testBit (j % 8) = true := by
  unfold markB
  rw [UInt8.toNat_or, Nat.testBit_or, h, Bool.true_or]

theorem hasB_mark {F : List UInt8} {k : Nat} {y : UInt8} (hy : F[k / 8]? = some y) : hasB (F.set (k / 8) (markB y k)) k := by
  refine ⟨markB y k, ?_, mark_same y k⟩
  rw [List.getElem?_set_self]
  exact (List.getElem?_eq_some_iff.1 hy).1
theorem hasB_keep {F : List UInt8} {k j : Nat} {y : UInt8} (hy : F[k / 8]? = some y) (h : hasB F j) : hasB (F.set (k / 8) (markB y k)) j := by
  obtain ⟨z, hz, ht⟩ := h
  by_cases e : k / 8 = j / 8
  · rw [e] at hy ⊢
    have e2 : z = y := by rw [hz] at hy; simpa using hy
    rw [e2] at hz ht
    refine ⟨markB y k, ?_, mark_other y k j ht⟩
    rw [List.getElem?_set_self]
    exact (List.getElem?_eq_some_iff.1 hz).1
  · exact ⟨z, by rw [List.getElem?_set_ne e]; exact hz, ht⟩

theorem or_bit (y : UInt8) (k : Nat) : bits .or .u8 (y.toNat : Int) ((2 ^ (k % 8) : Nat) : Int) = ((markB y k).toNat : Int) := by
  have h : ∀ x : Fin 256, ∀ i : Fin 8, bits .or .u8 (x.val : Int) ((2 ^ i.val : Nat) : Int) = ((x.val ||| 2 ^ i.val : Nat) : Int) := by decide +kernel
  have := h ⟨y.toNat, y.toNat_lt⟩ ⟨k % 8, Nat.mod_lt _ (by omega)⟩
  simp only at this
  rw [this]
  unfold markB
  rw [UInt8.toNat_or, UInt8.toNat_ofNat', pow_mod8]

/-- All places of a ref are set. -/
def allB (F : List UInt8) (b : Int) (r : BRef) : Prop := okR r.1 r.2 = true ∧ ∀ k ∈ pls r.1 r.2 b, hasB F k.toNat

theorem infoBy : (Try.prog.info? 5).map (fun i => (i.zero, i.size, i.bytes)) = some (some (.int .u8 0), 1, 1) := by kernel_rfl

/-- What Make answers. -/
def MakeP (w : World) (l : List BRef) (b : Int) (e : Ending) (w' : World) : Prop :=
  (∃ u ev, e = .returned (.tuple #[u, ev]) ∧ (((∃ x, ev = .iface 33 (.int .i64 x)) ∧ (400 < l.length ∨ widB b = false ∨ ∃ r ∈ l, okR r.1 r.2 = false)) ∨
    (ev = .nilIface ∧ widB b = true ∧ ∃ g n : Nat, ∃ F : List UInt8, u = .slice (some ⟨g, 0, none⟩) n n ∧ F.length = n ∧ (n : Int) * 8 = b ∧ Row w.heap.size u F w' ∧ ∀ r ∈ l, allB F b r))) ∧ Below w.heap.size w w'

/-- Three numbers in a row of their own. -/
theorem rowI3 {B : Nat} {u : Value} {p0 p1 p2 : Int} {w : World} (h : RowI B u [p0, p1, p2] w) : ∃ gu c, u = .slice (some ⟨gu, 0, none⟩) 3 c ∧ 3 ≤ c ∧ B ≤ gu ∧ gu < w.heap.size ∧ ∀ j (hj : j < 3), w.cell? ⟨gu, j, none⟩ = some (.int .i64 ([p0, p1, p2][j]'hj)) := by
  rcases h.2 with ⟨rfl, h0⟩ | ⟨g, cap, cur, rfl, hg, hh, hc, hm, hz, ht⟩
  · simp at h0
  · refine ⟨g, cap, rfl, hc, hg, ?_, fun j hj => ?_⟩
    · rcases Nat.lt_or_ge g w.heap.size with h1 | h1
      · exact h1
      · rw [Array.getElem?_eq_none h1] at hh; cases hh
    · rw [h.cellAt j (by simpa using hj)]
      match j, hj with
      | 0, _ => rfl
      | 1, _ => rfl
      | 2, _ => rfl

set_option maxHeartbeats 2000000 in
set_option maxRecDepth 100000 in
theorem make_any (v : Value) (l : List BRef) (b : Int) (hb : I64 b) (w : World) (hv : IsRefs w v l) :
    Calls Try.prog 4 #[v, .int .i64 b] w (MakeP w l b) := by
  obtain ⟨i0, hi, hz0, hz1, hz2⟩ := info_parts infoBy
  obtain ⟨a, cap, rfl, h2, h3⟩ := hv
  have H3 : Hid (l ≠ [] → ∃ b off, a = some ⟨b, off, none⟩ ∧ _) := h3
  clear h3
  have E1 := isWidth_any b hb w
  unfold I64 at hb
  obtain ⟨post, hpost⟩ : ∃ post, post = MakeP w l b := ⟨_, rfl⟩
  rw [← hpost]
  have HPO : Hid (post = MakeP w l b) := hpost
  clear hpost
  go_enter Try.func4, Try.ntmps4
  by_cases hl : 400 < l.length
  · have g1 : (400 : Int) < l.length := by omega
    go_wp2
    rw [HPO.out]
    exact ⟨⟨_, _, rfl, Or.inl ⟨⟨_, rfl⟩, Or.inl hl⟩⟩, Below.refl _ _⟩
  · have g1 : (l.length : Int) ≤ 400 := by omega
    cases hw : widB b with
    | false =>
      rw [hw] at E1
      go_wp2_with fail
      refine Calls.mono E1 ?_
      rintro e w1 ⟨rfl, rfl⟩
      go_wp2
      rw [HPO.out]
      exact ⟨⟨_, _, rfl, Or.inl ⟨⟨_, rfl⟩, Or.inr (Or.inl hw)⟩⟩, Below.refl _ _⟩
    | true =>
      rw [hw] at E1
      obtain ⟨n, hn8, hn⟩ : ∃ n : Nat, (n : Int) * 8 = b ∧ 1 ≤ n ∧ n ≤ 512 := ⟨(b / 8).toNat, by simp [widB] at hw; omega, by simp [widB] at hw; omega⟩
      have hq : b.tdiv 8 = (n : Int) := by rw [← hn8]; simp
      have hq2 : b / 8 = (n : Int) := by omega
      go_wp2_with fail
      refine Calls.mono E1 ?_
      rintro e w1 ⟨rfl, rfl⟩
      clear E1
      go_wp2_with (first | (refine wpList_make_full _ rfl _ _ 23 rfl w1.heap.size 5 i0 (.int .u8 0) 1 Try.underlying23 hi hz0 hz1 _ _ _ _ n rfl rfl ?c1 ?c2 ?c3 ?c4 ?c5 ?_))
      case c1 => rfl
      case c2 => rfl
      case c3 => rw [hz2]; omega
      case c4 => unfold maxLen; omega
      case c5 => exact Nat.le_refl _
      intro w2 hown hgrow
      have B2 : Below w1.heap.size w1 w2 := ⟨hgrow.os, hgrow.tape, hgrow.output, hgrow.size, fun k hk => hgrow.block k hk (by simp)⟩
      have hcells : (madeCells #[Value.int .u8 0] n).toList = Lib.byteCells (List.replicate n 0) := by
        rw [toList_madeCells_one]
        simp [Lib.byteCells]
      rw [hcells] at hown
      obtain ⟨g, hg⟩ : ∃ g, w1.heap.size = g := ⟨_, rfl⟩
      rw [hg] at hown ⊢
      have hgl : g < w2.heap.size := (hown.lt g rfl).2
      have HR0 : Row w1.heap.size (.slice (some ⟨g, 0, none⟩) n n) (List.replicate n 0) w2 := by unfold Row; rw [List.length_replicate, hg]; exact hown
      have HG : Hid (w1.heap.size = g) := hg
      clear hown hgrow hcells hg
      go_wp2_with fail
      go_loopw [26] (fun i wr => ∃ k : Nat, k ≤ l.length ∧ i = .int .i64 k ∧ (∃ F, F.length = n ∧ Row w1.heap.size (.slice (some ⟨g, 0, none⟩) n n) F wr ∧ ∀ j (hj : j < k) (hl : j < l.length), allB F b l[j]) ∧ Below w1.heap.size w1 wr) (fun i _ => l.length - (RowKit.intOf i).toNat)
      case atStart => exact ⟨0, Nat.zero_le _, rfl, ⟨_, by simp, HR0, fun j hj => absurd hj (Nat.not_lt_zero _)⟩, B2⟩
      case round =>
        obtain ⟨k, hk, rfl, ⟨F, hF, R, hall⟩, hbel⟩ := hrel
        by_cases hlt : k < l.length
        · obtain ⟨br, off, rfl, h4, h5⟩ := H3.out (fun e => by rw [e] at hlt; simp at hlt)
          have x0 : wr.cell? ⟨br, off + k * 2, none⟩ = some (.int .i64 l[k].1) := by rw [hbel.cell (p := ⟨br, off + k * 2, none⟩) h4]; exact (h5 k hlt).1
          have x1 : wr.cell? ⟨br, off + k * 2 + 1, none⟩ = some (.int .i64 l[k].2) := by rw [hbel.cell (p := ⟨br, off + k * 2 + 1, none⟩) h4]; exact (h5 k hlt).2
          have y1 : (k : Int) < l.length := by omega
          obtain ⟨q, hq⟩ : ∃ q : BRef, l[k] = q := ⟨_, rfl⟩
          have HK : Hid (k < l.length) := hlt
          rw [hq] at x0 x1
          obtain ⟨ra, rs⟩ := q
          have HQ : Hid (∀ h : k < l.length, l[k] = (ra, rs)) := fun _ => hq
          simp only at x0 x1
          have HAL : Hid (∀ j (hj : j < k) (hl : j < l.length), allB F b l[j]) := hall
          have HBW : Hid (Below w1.heap.size w1 wr) := hbel
          have HB1 := (Below.refl wr.heap.size wr).alloc (Nat.le_refl _) (.cells #[.int .i64 ra, .int .i64 rs] 29)
          have hsz := hbel.size
          clear hq hall h5 hk hlt hbel
          cases ho : okR ra rs with
          | false =>
            have E2 := places_no ra rs b ho (wr.alloc (.cells #[.int .i64 ra, .int .i64 rs] 29))
            simp only [errR, Bool.false_eq_true, if_false] at E2
            go_wp2_with fail
            refine Calls.mono E2 ?_
            rintro e w3 ⟨rfl, b3⟩
            have B3 : Hid (Below w1.heap.size w1 w3) := HBW.out.trans ((HB1.trans (b3.mono (by simp))).mono HBW.out.size)
            clear E2 b3 HB1
            go_wp2
            rw [HPO.out]
            exact ⟨⟨_, _, rfl, Or.inl ⟨⟨_, rfl⟩, Or.inr (Or.inr ⟨(ra, rs), by have h := HK.out; rw [← HQ.out h]; exact List.getElem_mem h, ho⟩)⟩⟩, B3.out⟩
          | true =>
            have E2 := places_ok ra rs b ho hw (wr.alloc (.cells #[.int .i64 ra, .int .i64 rs] 29))
            go_wp2_with fail
            refine Calls.mono E2 ?_
            rintro e w3 ⟨u, rfl, RI, b3⟩
            have b4 : Below wr.heap.size wr w3 := HB1.trans (b3.mono (by simp))
            have B3 : Below w1.heap.size w1 w3 := HBW.out.trans (b4.mono HBW.out.size)
            have R3 := own_keep R b4 (Nat.le_refl _)
            obtain ⟨gu, cu, rfl, hcu, hgu1, hgu2, hgc⟩ := rowI3 RI
            have hgg : g < wr.heap.size := by have h1 := HG.out; have h2 := (R.lt g rfl).2; exact h2
            have hgu : g < gu := by simp at hgu1; omega
            have hplc : ∀ j (hj : j < 3), w3.cell? ⟨gu, j, none⟩ = some (.int .i64 (plc ra rs b j)) := fun j hj => by
              rw [hgc j hj]
              match j, hj with
              | 0, _ => rfl
              | 1, _ => rfl
              | 2, _ => rfl
            have HC : Hid (∀ j (_ : j < 3), w3.cell? ⟨gu, j, none⟩ = some (.int .i64 (plc ra rs b j))) := hplc
            have HB3 : Hid (Below w1.heap.size w1 w3) := B3
            have HR3 : Hid (Row w1.heap.size (.slice (some ⟨g, 0, none⟩) n n) F w3) := R3
            have HGU : Hid (g < gu ∧ gu < w3.heap.size) := ⟨hgu, hgu2⟩
            clear RI b3 hgc hplc E2 HB1 b4 B3 R3 hgu1 hgu2 hgg hgu R x0 x1
            go_wp2_with fail
            go_loopw [41] (fun i wq => ∃ m : Nat, m ≤ 3 ∧ i = .int .i64 m ∧ (∃ F', F'.length = n ∧ Row w1.heap.size (.slice (some ⟨g, 0, none⟩) n n) F' wq ∧ (∀ j (hj : j < k) (hl : j < l.length), allB F' b l[j]) ∧ ∀ j, j < m → hasB F' (plc ra rs b j).toNat) ∧ (∀ j (_ : j < 3), wq.cell? ⟨gu, j, none⟩ = some (.int .i64 (plc ra rs b j))) ∧ Below w1.heap.size w1 wq) (fun i _ => 3 - (RowKit.intOf i).toNat)
            case atStart => exact ⟨0, by omega, rfl, ⟨F, hF, HR3.out, HAL.out, fun j hj => absurd hj (Nat.not_lt_zero _)⟩, HC.out, HB3.out⟩
            case round =>
              obtain ⟨m, hm, rfl, ⟨F', hF', R', hal, hset⟩, hcs, hbel⟩ := hrel
              have HBW' : Hid (Below w1.heap.size w1 wr) := hbel
              by_cases hlt : m < 3
              · have z0 := hcs m hlt
                have m1 : (m : Int) < 3 := by omega
                have hpr := plc_range ra rs b (by omega) m
                obtain ⟨kk, hkk⟩ : ∃ kk : Nat, plc ra rs b m = kk := ⟨(plc ra rs b m).toNat, by omega⟩
                have HPK : Hid ((plc ra rs b m).toNat = kk) := by show _ = _; rw [hkk]; rfl
                rw [hkk] at z0 hpr
                have hkb : kk < 4096 := by omega
                have hkn : kk / 8 < F'.length := by omega
                obtain ⟨y, hy⟩ : ∃ y, F'[kk / 8]? = some y := ⟨_, List.getElem?_eq_getElem hkn⟩
                have R2 : wr.ownsRow w1.heap.size 5 1 (.slice (some ⟨g, 0, none⟩) n n) n (Lib.byteCells F') := by
                  have h := R'
                  unfold Row at h
                  rw [hF'] at h
                  exact h
                have v0 : wr.cell? ⟨g, kk / 8, none⟩ = some (.int .u8 y.toNat) := by
                  rw [R2.cellAt (kk / 8) (by omega)]
                  simp [Lib.byteCells, hy]
                have v1 := R2.frozenAt (kk / 8)
                have kn : ((kk / 8 : Nat) : Int) < n := by omega
                have HNEW : Hid (Row w1.heap.size (.slice (some ⟨g, 0, none⟩) n n) (F'.set (kk / 8) (markB y kk)) (wr.setCell ⟨g, kk / 8, none⟩ (.int .u8 (markB y kk).toNat)) ∧ wr.grownBy (wr.setCell ⟨g, kk / 8, none⟩ (.int .u8 (markB y kk).toNat)) (some g)) := by
                  have h := World.ownsRow.stored R2 (kk / 8) (.int .u8 (markB y kk).toNat)
                  refine ⟨?_, h.2⟩
                  have e : (Lib.byteCells F').set (kk / 8) (.int .u8 (markB y kk).toNat) = Lib.byteCells (F'.set (kk / 8) (markB y kk)) := by simp [Lib.byteCells, List.map_set]
                  have h1 := h.1
                  rw [e] at h1
                  unfold Row
                  rw [List.length_set, hF']
                  exact h1
                have hor := or_bit y kk
                have E6 : ∀ W, Calls Try.prog 8 #[.int .i64 (kk : Int)] W fun e w' => e = .returned (.int .u8 ((2 ^ (kk % 8) : Nat) : Int)) ∧ w' = W := fun W => bit_any kk hkb W
                obtain ⟨bv, hbv⟩ : ∃ bv : Int, ((2 ^ (kk % 8) : Nat) : Int) = bv := ⟨_, rfl⟩
                obtain ⟨zv, hzv⟩ : ∃ zv : Int, ((markB y kk).toNat : Int) = zv := ⟨_, rfl⟩
                obtain ⟨yv, hyv⟩ : ∃ yv : Int, (y.toNat : Int) = yv := ⟨_, rfl⟩
                rw [hbv, hzv, hyv] at hor
                rw [hzv] at HNEW
                rw [hyv] at v0
                simp only [hbv] at E6
                have HKN : Hid (hasB (F'.set (kk / 8) (markB y kk)) kk ∧ ∀ j, hasB F' j → hasB (F'.set (kk / 8) (markB y kk)) j) := ⟨hasB_mark hy, fun j h => hasB_keep hy h⟩
                have HF2 : Hid ((F'.set (kk / 8) (markB y kk)).length = n) := by show _ = _; rw [List.length_set]; exact hF'
                generalize F'.set (kk / 8) (markB y kk) = F2 at HNEW HKN HF2
                obtain ⟨kq, hkq⟩ : ∃ kq : Nat, kk / 8 = kq := ⟨_, rfl⟩
                have hdv : IntKind.i64.wrap ((kk : Int) / 8) = (kq : Int) := by rw [IntWalk.i64_in _ (by omega)]; omega
                rw [hkq] at v0 v1 kn HNEW
                clear hbv hzv hyv hkq
                have HCS : Hid (∀ j (_ : j < 3), wr.cell? ⟨gu, j, none⟩ = some (.int .i64 (plc ra rs b j))) := hcs
                have HAL' : Hid (∀ j (hj : j < k) (hl : j < l.length), allB F' b l[j]) := hal
                have HSET : Hid (∀ j, j < m → hasB F' (plc ra rs b j).toNat) := hset
                have HF' : Hid (F'.length = n) := hF'
                have HR' : Hid (Row w1.heap.size (.slice (some ⟨g, 0, none⟩) n n) F' wr) := R'
                have HM : Hid (m < 3) := hlt
                clear hcs hal hset hF' hy R' R2 hbel hm hlt hkn hkb hkk hpr
                go_wp2_with fail
                refine wp_region_noPanic ?_
                refine early_begin (S := fun W => W.cell? ⟨g, kq, none⟩ = some (.int .u8 yv) ∧ W.frozen? ⟨g, kq, none⟩ = false) (late := fun k => decide (9 ≤ k)) (by kernel_rfl) ?_
                refine early_take (i := 0) (oi := { dst := some 45, op := Op.move (Operand.tmp 6), type := 23, pos := "bloom.go:57", after := #[], guard := none }) (v := ?_) rfl (by kernel_rfl) (by kernel_rfl) (by kernel_rfl) (by decide) (by kernel_rfl) (fun _ _ _ h => h) (Or.inl ⟨by rfl, ?_⟩) ⟨v0, v1⟩ ?_
                rotate_left
                · intro wz hSw
                  try dsimp only at hSw
                  go_simp
                  try with_reducible rfl
                try simp only [Act.put, List.setIfInBounds_toArray, List.set_cons_zero, List.set_cons_succ]
                refine early_take (i := 1) (oi := { dst := some 46, op := Op.move (Operand.tmp 12), type := 3, pos := "bloom.go:57", after := #[], guard := none }) (v := ?_) rfl (by kernel_rfl) (by kernel_rfl) (by kernel_rfl) (by decide) (by kernel_rfl) (fun _ _ _ h => h) (Or.inl ⟨by rfl, ?_⟩) ⟨v0, v1⟩ ?_
                rotate_left
                · intro wz hSw
                  try dsimp only at hSw
                  go_simp
                  try with_reducible rfl
                try simp only [Act.put, List.setIfInBounds_toArray, List.set_cons_zero, List.set_cons_succ]
                refine early_take (i := 2) (oi := { dst := some 47, op := Op.binOp BinOp.quo 3 (Operand.tmp 46) (Operand.const (Value.int IntKind.i64 8)) 3, type := 3, pos := "bloom.go:57", after := #[{ on := 1, ground := Ground.data }], guard := none }) (v := ?_) rfl (by kernel_rfl) (by kernel_rfl) (by kernel_rfl) (by decide) (by kernel_rfl) (fun _ _ _ h => h) (Or.inl ⟨by rfl, ?_⟩) ⟨v0, v1⟩ ?_
                rotate_left
                · intro wz hSw
                  try dsimp only at hSw
                  go_simp
                  try with_reducible rfl
                try simp only [Act.put, List.setIfInBounds_toArray, List.set_cons_zero, List.set_cons_succ]
                refine early_take (i := 3) (oi := { dst := some 48, op := Op.indexAddr 23 (Operand.tmp 45) (Operand.tmp 47), type := 0, pos := "bloom.go:57", after := #[{ on := 0, ground := Ground.data }, { on := 2, ground := Ground.data }], guard := none }) (v := ?_) rfl (by kernel_rfl) (by kernel_rfl) (by kernel_rfl) (by decide) (by kernel_rfl) (fun _ _ _ h => h) (Or.inl ⟨by rfl, ?_⟩) ⟨v0, v1⟩ ?_
                rotate_left
                · intro wz hSw
                  try dsimp only at hSw
                  go_simp
                  try with_reducible rfl
                try simp only [Act.put, List.setIfInBounds_toArray, List.set_cons_zero, List.set_cons_succ]
                refine early_take (i := 4) (oi := { dst := some 49, op := Op.load 5 (Operand.tmp 48), type := 5, pos := "bloom.go:57", after := #[{ on := 3, ground := Ground.data }], guard := none }) (v := ?_) rfl (by kernel_rfl) (by kernel_rfl) (by kernel_rfl) (by decide) (by kernel_rfl) (fun _ _ _ h => h) (Or.inl ⟨by rfl, ?_⟩) ⟨v0, v1⟩ ?_
                rotate_left
                · intro wz hSw
                  try dsimp only at hSw
                  go_simp
                  try with_reducible rfl
                try simp only [Act.put, List.setIfInBounds_toArray, List.set_cons_zero, List.set_cons_succ]
                refine early_take (i := 5) (oi := { dst := some 50, op := Op.move (Operand.tmp 12), type := 3, pos := "bloom.go:57", after := #[], guard := none }) (v := ?_) rfl (by kernel_rfl) (by kernel_rfl) (by kernel_rfl) (by decide) (by kernel_rfl) (fun _ _ _ h => h) (Or.inl ⟨by rfl, ?_⟩) ⟨v0, v1⟩ ?_
                rotate_left
                · intro wz hSw
                  try dsimp only at hSw
                  go_simp
                  try with_reducible rfl
                try simp only [Act.put, List.setIfInBounds_toArray, List.set_cons_zero, List.set_cons_succ]
                refine early_step (i := 6) (o := { dst := some 51, op := Op.call { callee := Callee.value (Operand.func 8), args := #[Operand.tmp 50], argTypes := #[3] }, type := 5, pos := "bloom.go:57", after := #[{ on := 5, ground := Ground.data }], guard := none }) (by kernel_rfl) rfl (fun K hK => ?_)
                go_simp
                go_at_call 8
                refine Calls.mono (E6 _) ?_
                rintro e w6 ⟨rfl, rfl⟩
                go_wp2_with fail
                refine hK.out _ _ (fun _ => ⟨v0, v1⟩) ?_
                clear hK K
                try simp only [Act.put, List.setIfInBounds_toArray, List.set_cons_zero, List.set_cons_succ]
                refine early_take (i := 7) (oi := { dst := some 52, op := Op.binOp BinOp.or 5 (Operand.tmp 49) (Operand.tmp 51) 5, type := 5, pos := "bloom.go:57", after := #[{ on := 4, ground := Ground.data }, { on := 6, ground := Ground.data }], guard := none }) (v := ?_) rfl (by kernel_rfl) (by kernel_rfl) (by kernel_rfl) (by decide) (by kernel_rfl) (fun _ _ _ h => h) (Or.inl ⟨by rfl, ?_⟩) ⟨v0, v1⟩ ?_
                rotate_left
                · intro wz hSw
                  try dsimp only at hSw
                  go_simp
                  try with_reducible rfl
                try simp only [Act.put, List.setIfInBounds_toArray, List.set_cons_zero, List.set_cons_succ]
                refine early_take (i := 8) (oi := { dst := some 53, op := Op.indexAddr 23 (Operand.tmp 45) (Operand.tmp 47), type := 0, pos := "bloom.go:57", after := #[{ on := 0, ground := Ground.data }, { on := 2, ground := Ground.data }, { on := 0, ground := Ground.phase }, { on := 1, ground := Ground.phase }, { on := 2, ground := Ground.phase }, { on := 3, ground := Ground.phase }, { on := 4, ground := Ground.phase }, { on := 5, ground := Ground.phase }, { on := 6, ground := Ground.phase }, { on := 7, ground := Ground.phase }], guard := none }) (v := ?_) rfl (by kernel_rfl) (by kernel_rfl) (by kernel_rfl) (by decide) (by kernel_rfl) (fun _ _ _ h => h) (Or.inl ⟨by rfl, ?_⟩) ⟨v0, v1⟩ ?_
                rotate_left
                · intro wz hSw
                  try dsimp only at hSw
                  go_simp
                  try with_reducible rfl
                try simp only [Act.put, List.setIfInBounds_toArray, List.set_cons_zero, List.set_cons_succ]
                refine early_step (i := 9) (o := { dst := none, op := Op.store 5 (Operand.tmp 53) (Operand.tmp 52), type := 0, pos := "bloom.go:57", after := #[{ on := 8, ground := Ground.data }, { on := 7, ground := Ground.data }, { on := 6, ground := Ground.chain }, { on := 0, ground := Ground.phase }, { on := 1, ground := Ground.phase }, { on := 2, ground := Ground.phase }, { on := 3, ground := Ground.phase }, { on := 4, ground := Ground.phase }, { on := 5, ground := Ground.phase }, { on := 6, ground := Ground.phase }, { on := 7, ground := Ground.phase }], guard := none }) (by kernel_rfl) rfl (fun K hK => ?_)
                go_simp
                refine hK.out _ _ (fun h => absurd h (by decide)) ?_
                clear hK K
                try simp only [Act.put, List.setIfInBounds_toArray, List.set_cons_zero, List.set_cons_succ]
                refine early_done (by kernel_rfl) ?_ _
                refine NoPanic.normal ?_
                have HND : Hid (Row w1.heap.size (.slice (some ⟨g, 0, none⟩) n n) F2 ((wr.setCell ⟨g, kq, none⟩ (.int .u8 zv)).drew) ∧ Below w1.heap.size w1 ((wr.setCell ⟨g, kq, none⟩ (.int .u8 zv)).drew) ∧ ∀ j (_ : j < 3), (wr.setCell ⟨g, kq, none⟩ (.int .u8 zv)).drew.cell? ⟨gu, j, none⟩ = some (.int .i64 (plc ra rs b j))) := by
                  refine ⟨HNEW.out.1.drew, ?_, fun j hj => ?_⟩
                  · exact (HBW'.out.setCell (by have := HG.out; show _ ≤ g; omega) _).drew
                  · show (wr.setCell ⟨g, kq, none⟩ (.int .u8 zv)).cell? ⟨gu, j, none⟩ = _
                    rw [World.cell?_setCell_other _ _ _ _ (by have := HGU.out; intro e; injection e; omega)]
                    exact HCS.out j hj
                generalize (wr.setCell ⟨g, kq, none⟩ (.int .u8 zv)).drew = wz at HND ⊢
                clear HNEW
                go_wp2
                go_roundw
                case rel =>
                  refine ⟨m + 1, HM.out, by go_num, ⟨F2, HF2.out, HND.out.1, fun j hj hl => ⟨(HAL'.out j hj hl).1, fun q hq => HKN.out.2 _ ((HAL'.out j hj hl).2 q hq)⟩, fun j hj => ?_⟩, HND.out.2.2, HND.out.2.1⟩
                  rcases Nat.lt_or_ge j m with e | e
                  · exact HKN.out.2 _ (HSET.out j e)
                  · obtain rfl : j = m := by omega
                    rw [HPK.out]
                    exact HKN.out.1
                case measure => simp [RowKit.intOf]; have := HM.out; omega
              · have hme : m = 3 := by omega
                subst hme
                have HAL2 : Hid (∀ j (hj : j < k + 1) (hl : j < l.length), allB F' b l[j]) := fun j hj hl => by
                  rcases Nat.lt_or_ge j k with e | e
                  · exact hal j e hl
                  · obtain rfl : j = k := by omega
                    rw [HQ.out hl]
                    refine ⟨ho, fun q hq => ?_⟩
                    simp only [pls, List.mem_cons, List.not_mem_nil, or_false] at hq
                    rcases hq with rfl | rfl | rfl
                    · exact hset 0 (by omega)
                    · exact hset 1 (by omega)
                    · exact hset 2 (by omega)
                have HR' : Hid (Row w1.heap.size (.slice (some ⟨g, 0, none⟩) n n) F' wr) := R'
                clear hal hset hcs hm hlt hbel R'
                go_wp2
                go_roundw
                case rel => exact ⟨k + 1, HK.out, by go_num, ⟨F', hF', HR'.out, HAL2.out⟩, HBW'.out⟩
                case measure => simp [RowKit.intOf]; have := HK.out; omega
        · have hke : k = l.length := by omega
          subst hke
          have HAL : Hid (∀ r ∈ l, allB F b r) := fun r hr => by
            obtain ⟨j, hj, rfl⟩ := List.getElem_of_mem hr
            exact hall j hj hj
          have HBW : Hid (Below w1.heap.size w1 wr) := hbel
          clear hlt hk hall hbel
          go_wp2
          rw [HPO.out]
          exact ⟨⟨_, _, rfl, Or.inr ⟨rfl, hw, g, n, F, rfl, hF, hn8, R, HAL.out⟩⟩, HBW.out⟩
end Go.Proofs.Ytegiaecnikljkaa
