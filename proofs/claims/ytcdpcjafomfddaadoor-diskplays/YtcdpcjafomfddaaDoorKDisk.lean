/-
  What is proved: a disk that lies in memory, with its files; what its ready, find and open answer.
  Conditions: as each theorem says.
-/
import Derived.Test.YtcdpcjafomfddaaDoorKName
namespace Go.Proofs.YtcdpcjafomfddaaDoor
open Go.RowKit Go.Maps

/-- An error, by its number. -/
def errV (e : Int) : Value := if e = 0 then .nilIface else .iface 66 (.int .i64 e)

/-- A file's place. -/
def ptrV (g : Nat) : Value := .pointer (some ⟨g, 0, none⟩)
def pN (o : Option Nat) : Value := match o with | some g => ptrV g | none => .pointer none
/-- Names and their files, as a map has them. -/
def ptrs (F : List (Tx × Nat)) : List (Tx × Value) := F.map fun q => (q.1, ptrV q.2)
/-- The file of a name. -/
def fk (F : List (Tx × Nat)) (s : Tx) : Option Nat := (F.find? (fun q => q.1 == s)).map (·.2)

theorem lk_ptrs (F : List (Tx × Nat)) (s : Tx) : lk (ptrs F) s = (fk F s).map ptrV := by
  unfold lk ptrs fk
  induction F with
  | nil => rfl
  | cons q F ih =>
    simp only [List.map_cons, List.find?_cons]
    split
    · simp
    · exact ih
theorem fk_mem {F : List (Tx × Nat)} {s : Tx} {g : Nat} (h : fk F s = some g) : (s, g) ∈ F := by
  unfold fk at h
  obtain ⟨q, hq, rfl⟩ := Option.map_eq_some_iff.1 h
  have h1 := List.mem_of_find?_eq_some hq
  have h2 := List.find?_some hq
  simp at h2
  subst h2
  exact h1

/-- A file: its box, its row, its bytes, how many are safe. -/
structure Fi where
  g : Nat
  v : Value
  bs : Tx
  sf : Nat

structure FileAt (S : Nat → Prop) (w : World) (x : Fi) : Prop where
  box : w.heap[x.g]? = some (.cells #[x.v, .int .i64 x.sf] 71)
  row : Row 0 x.v x.bs w
  le : x.sf ≤ x.bs.length
  max : x.bs.length ≤ 60000
  sg : S x.g
  sv : ∀ b, x.v.ownBlock = some b → S b

def Apart (x y : Fi) : Prop := x.g ≠ y.g ∧ ∀ b, x.v.ownBlock = some b → y.v.ownBlock ≠ some b

/-- A disk that lies in memory. -/
structure Dk (S : Nat → Prop) (w : World) (p fb sb : Nat) (F Z : List (Tx × Nat)) (n st : Int) (G : List Fi) : Prop where
  box : w.heap[p]? = some (.cells #[.map (some fb), .map (some sb), .int .i64 n, .int .i64 st] 51)
  mf : MapS w fb (ptrs F)
  ms : MapS w sb (ptrs Z)
  ne : fb ≠ sb
  fi : ∀ x ∈ G, FileAt S w x
  inF : ∀ q ∈ F, ∃ x ∈ G, x.g = q.2
  inZ : ∀ q ∈ Z, ∃ x ∈ G, x.g = q.2
  ap : G.Pairwise Apart
  sp : S p
  sfb : S fb
  ssb : S sb

theorem FileAt.keep {S : Nat → Prop} {w w' : World} {x : Fi} (h : FileAt S w x) (hk : ∀ k, S k → k < w.heap.size → w'.heap[k]? = w.heap[k]?) : FileAt S w' x :=
  ⟨(hk x.g h.sg (lt_of_heap h.box)).trans h.box, own_at h.row (fun b hb => hk b (h.sv b hb) (by obtain ⟨_, e⟩ := own_block h.row hb; exact lt_of_heap e)), h.le, h.max, h.sg, h.sv⟩

theorem Dk.keep {S : Nat → Prop} {w w' : World} {p fb sb : Nat} {F Z : List (Tx × Nat)} {n st : Int} {G : List Fi} (h : Dk S w p fb sb F Z n st G) (hk : ∀ k, S k → k < w.heap.size → w'.heap[k]? = w.heap[k]?) : Dk S w' p fb sb F Z n st G :=
  ⟨(hk p h.sp (lt_of_heap h.box)).trans h.box, h.mf.keep (hk fb h.sfb h.mf.lt), h.ms.keep (hk sb h.ssb h.ms.lt), h.ne, fun x hx => (h.fi x hx).keep hk, h.inF, h.inZ, h.ap, h.sp, h.sfb, h.ssb⟩
theorem Dk.below {S : Nat → Prop} {w w' : World} {p fb sb : Nat} {F Z : List (Tx × Nat)} {n st : Int} {G : List Fi} (h : Dk S w p fb sb F Z n st G) (hb : Below w.heap.size w w') : Dk S w' p fb sb F Z n st G :=
  h.keep fun k _ hk => hb.block k hk
theorem Dk.mono {S T : Nat → Prop} {w : World} {p fb sb : Nat} {F Z : List (Tx × Nat)} {n st : Int} {G : List Fi} (h : Dk S w p fb sb F Z n st G) (hT : ∀ k, S k → k < w.heap.size → T k) : Dk T w p fb sb F Z n st G :=
  ⟨h.box, h.mf, h.ms, h.ne, fun x hx => have q := h.fi x hx; ⟨q.box, q.row, q.le, q.max, hT _ q.sg (lt_of_heap q.box), fun b hb => hT b (q.sv b hb) (by obtain ⟨_, e⟩ := own_block q.row hb; exact lt_of_heap e)⟩, h.inF, h.inZ, h.ap, hT _ h.sp (lt_of_heap h.box), hT _ h.sfb h.mf.lt, hT _ h.ssb h.ms.lt⟩

/-- Texts in a row. -/
def IsNames (w : World) (v : Value) (l : List Tx) : Prop := ∃ a c, v = .slice a l.length c ∧ l.length ≤ 10 ∧ (l ≠ [] → ∃ b, a = some ⟨b, 0, none⟩ ∧ ∀ i (h : i < l.length), w.cell? ⟨b, i, none⟩ = some (txV l[i]))

theorem name_take (l : List Tx) (k : Nat) (hk : k < l.length) : (l.take (k + 1)).all nameB = ((l.take k).all nameB && nameB l[k]) := by
  rw [take_snoc l k hk, List.all_append, List.all_cons, List.all_nil, Bool.and_true]

/-- What is wrong ahead of looking for files. -/
def rdy (st n : Int) (l : List Tx) : Int := if 0 ≤ st ∧ st ≤ n then 7 else if l.all nameB then 0 else 2

set_option maxRecDepth 100000 in
set_option maxHeartbeats 2000000 in
theorem ready_any {S : Nat → Prop} {p fb sb : Nat} {F Z : List (Tx × Nat)} {n st : Int} {G : List Fi} (v : Value) (l : List Tx) (w : World) (hd : Dk S w p fb sb F Z n st G) (hv : IsNames w v l) :
    Calls Tryd.prog 31 #[ptrV p, v] w fun e w' => e = .returned (errV (rdy st n l)) ∧ Below w.heap.size w w' := by
  obtain ⟨a, c, rfl, h10, hvs⟩ := hv
  have HV : Hid (l ≠ [] → _) := hvs
  have H10 : Hid (l.length ≤ 10) := h10
  have hbx := hd.box
  have c2 : w.cell? ⟨p, 2, none⟩ = some (.int .i64 n) := Lib.cell_of_heap hbx 2
  have c3 : w.cell? ⟨p, 3, none⟩ = some (.int .i64 st) := Lib.cell_of_heap hbx 3
  have hN := isName_any
  clear hd hbx hvs h10
  unfold ptrV
  by_cases h0 : 0 ≤ st
  · by_cases h1 : st ≤ n
    · have e : rdy st n l = 7 := by unfold rdy; rw [if_pos ⟨h0, h1⟩]
      rw [e]
      have g0 : decide (0 ≤ st) = true := decide_eq_true h0
      have g1 : decide (st ≤ n) = true := decide_eq_true h1
      go_enter Tryd.func31, Tryd.ntmps31
      go_wp2
      go_quiet (fail)
      go_wp2
      go_ret
      exact ⟨rfl, below_drew (Below.refl _ _) _⟩
    · have g0 : decide (0 ≤ st) = true := decide_eq_true h0
      have g1 : decide (st ≤ n) = false := decide_eq_false h1
      have e : rdy st n l = if l.all nameB then 0 else 2 := by unfold rdy; rw [if_neg (fun h => h1 h.2)]
      rw [e]
      obtain ⟨r, hr⟩ : ∃ r : Bool, l.all nameB = r := ⟨_, rfl⟩
      rw [hr]
      have HR : Hid (l.all nameB = r) := hr
      clear h0 h1 e hr
      go_enter Tryd.func31, Tryd.ntmps31
      go_wp2
      go_quiet (fail)
      go_wp2_with fail
      have HB : Hid (Below w.heap.size w (w.drewN nq)) := below_drew (Below.refl _ _) _
      have HV1 : Hid (l ≠ [] → ∃ b, a = some ⟨b, 0, none⟩ ∧ ∀ i (h : i < l.length), (w.drewN nq).cell? ⟨b, i, none⟩ = some (txV l[i])) := HV.out
      clear c2 c3 g0 HV
      generalize w.drewN nq = w1 at *
      go_loopw [26] (fun i wr => ∃ k : Nat, k ≤ l.length ∧ i = .int .i64 k ∧ Hid ((l.take k).all nameB = true) ∧ wr = w1) (fun i _ => l.length - (RowKit.intOf i).toNat)
      case atStart => exact ⟨0, Nat.zero_le _, rfl, by show _ = _; simp, rfl⟩
      case round =>
        obtain ⟨k, hk, rfl, HA, hw⟩ := hrel
        subst hw
        by_cases hlt : k < l.length
        · obtain ⟨b, rfl, hc⟩ := HV1.out (fun e => by rw [e] at hlt; simp at hlt)
          have x0 := hc k hlt
          have HT := name_take l k hlt
          have g2 : (k : Int) < (l.length : Int) := by omega
          have g3 : (k : Int) < 10 := by have := H10.out; omega
          have HK : Hid (k < l.length ∧ l.length ≤ 10) := ⟨hlt, H10.out⟩
          obtain ⟨s, hs⟩ : ∃ s : Tx, l[k] = s := ⟨_, rfl⟩
          rw [hs] at x0 HT
          have M := hN s wr
          obtain ⟨cc, hcc⟩ : ∃ c : Bool, nameB s = c := ⟨_, rfl⟩
          rw [hcc] at M HT
          have HT' : Hid (_ = _) := HT
          unfold txV at x0 M
          clear HT hcc hc hs hk hlt
          cases cc with
          | true =>
            go_wp2_with (go_at_call 25; refine M.mono ?_; rintro e w' ⟨rfl, rfl⟩)
            go_roundw
            case rel => exact ⟨k + 1, HK.out.1, by have := HK.out; go_num, by show _ = _; rw [HT'.out, HA.out]; rfl, by first | rfl | trivial⟩
            case measure => have := HK.out; simp [RowKit.intOf]; omega
          | false =>
            have h5 : l.all nameB = false := by
              rw [List.all_eq_false]
              have h6 := HT'.out
              rw [Bool.and_false, List.all_eq_false] at h6
              obtain ⟨x, hx, h7⟩ := h6
              exact ⟨x, List.mem_of_mem_take hx, h7⟩
            rw [HR.out] at h5
            subst h5
            go_wp2_with (go_at_call 25; refine M.mono ?_; rintro e w' ⟨rfl, rfl⟩)
            go_ret
            exact ⟨rfl, HB.out⟩
        · have hke : k = l.length := by omega
          subst hke
          have h5 : l.all nameB = true := by have := HA.out; rwa [List.take_length] at this
          rw [HR.out] at h5
          subst h5
          go_wp2
          go_ret
          exact ⟨rfl, HB.out⟩
  · have g0 : decide (0 ≤ st) = false := decide_eq_false h0
    have e : rdy st n l = if l.all nameB then 0 else 2 := by unfold rdy; rw [if_neg (fun h => h0 h.1)]
    rw [e]
    obtain ⟨r, hr⟩ : ∃ r : Bool, l.all nameB = r := ⟨_, rfl⟩
    rw [hr]
    have HR : Hid (l.all nameB = r) := hr
    clear h0 e hr
    go_enter Tryd.func31, Tryd.ntmps31
    go_wp2
    go_quiet (fail)
    go_wp2_with fail
    have HB : Hid (Below w.heap.size w (w.drewN nq)) := below_drew (Below.refl _ _) _
    have HV1 : Hid (l ≠ [] → ∃ b, a = some ⟨b, 0, none⟩ ∧ ∀ i (h : i < l.length), (w.drewN nq).cell? ⟨b, i, none⟩ = some (txV l[i])) := HV.out
    clear c2 c3 g0 HV
    generalize w.drewN nq = w1 at *
    go_loopw [26] (fun i wr => ∃ k : Nat, k ≤ l.length ∧ i = .int .i64 k ∧ Hid ((l.take k).all nameB = true) ∧ wr = w1) (fun i _ => l.length - (RowKit.intOf i).toNat)
    case atStart => exact ⟨0, Nat.zero_le _, rfl, by show _ = _; simp, rfl⟩
    case round =>
      obtain ⟨k, hk, rfl, HA, hw⟩ := hrel
      subst hw
      by_cases hlt : k < l.length
      · obtain ⟨b, rfl, hc⟩ := HV1.out (fun e => by rw [e] at hlt; simp at hlt)
        have x0 := hc k hlt
        have HT := name_take l k hlt
        have g2 : (k : Int) < (l.length : Int) := by omega
        have g3 : (k : Int) < 10 := by have := H10.out; omega
        have HK : Hid (k < l.length ∧ l.length ≤ 10) := ⟨hlt, H10.out⟩
        obtain ⟨s, hs⟩ : ∃ s : Tx, l[k] = s := ⟨_, rfl⟩
        rw [hs] at x0 HT
        have M := hN s wr
        obtain ⟨cc, hcc⟩ : ∃ c : Bool, nameB s = c := ⟨_, rfl⟩
        rw [hcc] at M HT
        have HT' : Hid (_ = _) := HT
        unfold txV at x0 M
        clear HT hcc hc hs hk hlt
        cases cc with
        | true =>
          go_wp2_with (go_at_call 25; refine M.mono ?_; rintro e w' ⟨rfl, rfl⟩)
          go_roundw
          case rel => exact ⟨k + 1, HK.out.1, by have := HK.out; go_num, by show _ = _; rw [HT'.out, HA.out]; rfl, by first | rfl | trivial⟩
          case measure => have := HK.out; simp [RowKit.intOf]; omega
        | false =>
          have h5 : l.all nameB = false := by
            rw [List.all_eq_false]
            have h6 := HT'.out
            rw [Bool.and_false, List.all_eq_false] at h6
            obtain ⟨x, hx, h7⟩ := h6
            exact ⟨x, List.mem_of_mem_take hx, h7⟩
          rw [HR.out] at h5
          subst h5
          go_wp2_with (go_at_call 25; refine M.mono ?_; rintro e w' ⟨rfl, rfl⟩)
          go_ret
          exact ⟨rfl, HB.out⟩
      · have hke : k = l.length := by omega
        subst hke
        have h5 : l.all nameB = true := by have := HA.out; rwa [List.take_length] at this
        rw [HR.out] at h5
        subst h5
        go_wp2
        go_ret
        exact ⟨rfl, HB.out⟩
end Go.Proofs.YtcdpcjafomfddaaDoor
