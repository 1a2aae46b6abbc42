/-
  What is proved: the functions Flags, checkCounts and Unflag of package bytes: what is counted of any flags is taken apart into these flags, and nothing that was there has turned.
  Conditions: the list lies in memory, and has at most 400 flags.
-/
import Derived.Test.YteilchcojaakiaaSpreadWalk
namespace Go.Proofs.Yteilchcojaakiaa
open Go.RowKit

/-- Counts of flags, taken apart. -/
def unflF (s : Nat) : List Int → List Bool
  | [] => []
  | m :: r => List.replicate m.toNat (s % 2 == 1) ++ unflF (s + 1) r

theorem unflF_snoc (l : List Int) (m : Int) : ∀ s, unflF s (l ++ [m]) = unflF s l ++ List.replicate m.toNat ((s + l.length) % 2 == 1) := by
  induction l with
  | nil => intro s; simp [unflF]
  | cons x r ih =>
    intro s
    rw [List.cons_append, unflF, unflF, ih (s + 1), List.append_assoc, List.length_cons, show s + 1 + r.length = s + (r.length + 1) from by omega]

def unfl (l : List Int) : List Bool := unflF 0 l

theorem unfl_snoc (l : List Int) (m : Int) : unfl (l ++ [m]) = unfl l ++ List.replicate m.toNat (l.length % 2 == 1) := by
  unfold unfl
  rw [unflF_snoc, Nat.zero_add]

/-- Counts that may be. -/
def Counts (l : List Int) : Prop := ∀ i (h : i < l.length), (if i = 0 then 0 else 1) ≤ l[i]

/-- The counts of the first so many flags. -/
structure Fl (f : List Bool) (k : Nat) (l : List Int) (c : Bool) : Prop where
  all : unfl l = f.take k
  pos : Counts l
  zero : k = 0 → l = [] ∧ c = false
  cnt : 1 ≤ k → ∃ r m, l = r ++ [m] ∧ 1 ≤ m ∧ c = (r.length % 2 == 1)
  len : l.length ≤ k + 1
  le : ∀ x ∈ l, x ≤ k

theorem counts_snoc {l : List Int} {m : Int} (h : Counts l) (hm : 1 ≤ m) : Counts (l ++ [m]) := by
  intro i hi
  rw [List.length_append, List.length_singleton] at hi
  by_cases hl : i < l.length
  · rw [List.getElem_append_left hl]
    exact h i hl
  · rw [List.getElem_append_right (by omega)]
    simp only [List.getElem_singleton]
    split <;> omega

theorem counts_init {r : List Int} {m : Int} (h : Counts (r ++ [m])) : Counts r := by
  intro i hi
  have := h i (by rw [List.length_append]; omega)
  rw [List.getElem_append_left hi] at this
  exact this

theorem Fl.start (f : List Bool) : Fl f 0 [] false := ⟨by simp [unfl, unflF], fun i h => by simp at h, fun _ => ⟨rfl, rfl⟩, fun h => by omega, by simp, by simp⟩

/-- The state when the first flag is looked at, or a later one. -/
structure Pre (f : List Bool) (k : Nat) (r : List Int) (m : Int) (c : Bool) : Prop where
  all : unfl (r ++ [m]) = f.take k
  pos : Counts r
  mpos : 0 ≤ m ∧ (1 ≤ m ∨ r = [])
  cnt : c = (r.length % 2 == 1)
  len : r.length ≤ k
  le : ∀ x ∈ r ++ [m], x ≤ k

theorem Fl.pre0 (f : List Bool) : Pre f 0 [] 0 false := ⟨by simp [unfl, unflF], fun i h => by simp at h, ⟨by omega, Or.inr rfl⟩, rfl, by simp, by simp⟩

theorem Fl.pre {f : List Bool} {k : Nat} {l : List Int} {c : Bool} (h : Fl f k l c) (hk : 1 ≤ k) : ∃ r m, l = r ++ [m] ∧ Pre f k r m c := by
  obtain ⟨r, m, rfl, h1, h2⟩ := h.cnt hk
  have hl := h.len
  rw [List.length_append, List.length_singleton] at hl
  exact ⟨r, m, rfl, h.all, counts_init h.pos, ⟨by omega, Or.inl h1⟩, h2, by omega, h.le⟩

theorem Pre.same {f : List Bool} {k : Nat} {r : List Int} {m : Int} {c : Bool} (h : Pre f k r m c) (hk : k < f.length) (hf : f[k] = c) : Fl f (k + 1) (r ++ [m + 1]) c := by
  have hm := h.mpos
  refine ⟨?_, ?_, fun e => by omega, fun _ => ⟨r, m + 1, rfl, by omega, h.cnt⟩, by have := h.len; simp; omega, fun x hx => ?_⟩
  · have e := h.all
    rw [unfl_snoc] at e
    rw [unfl_snoc, take_snoc f k hk, ← e, hf, h.cnt, show (m + 1).toNat = m.toNat + 1 from by omega, List.replicate_succ', List.append_assoc]
  · exact counts_snoc h.pos (by omega)
  · rcases List.mem_append.1 hx with h1 | h1
    · have := h.le x (List.mem_append_left _ h1); omega
    · rw [List.mem_singleton.1 h1]
      have := h.le m (by simp)
      omega

theorem counts_one {r : List Int} {m : Int} (h : Counts r) (hm : 0 ≤ m ∧ (1 ≤ m ∨ r = [])) : Counts (r ++ [m]) := by
  rcases hm.2 with h1 | h1
  · exact counts_snoc h h1
  · subst h1
    intro i hi
    simp at hi
    subst hi
    simpa using hm.1

theorem Pre.other {f : List Bool} {k : Nat} {r : List Int} {m : Int} {c : Bool} (h : Pre f k r m c) (hk : k < f.length) (hf : f[k] ≠ c) : Fl f (k + 1) (r ++ [m] ++ [1]) f[k] := by
  have hc : f[k] = ((r ++ [m]).length % 2 == 1) := by
    have h1 := h.cnt
    have e : (r ++ [m]).length = r.length + 1 := by simp
    rw [e]
    rcases Nat.mod_two_eq_zero_or_one r.length with h2 | h2
    · rw [h2] at h1
      rw [show (r.length + 1) % 2 = 1 from by omega]
      simp at h1
      rw [h1] at hf
      simpa using hf
    · rw [h2] at h1
      rw [show (r.length + 1) % 2 = 0 from by omega]
      simp at h1
      rw [h1] at hf
      simpa using hf
  refine ⟨?_, counts_snoc (counts_one h.pos h.mpos) (by omega), fun e => by omega, fun _ => ⟨r ++ [m], 1, rfl, by omega, hc⟩, by have := h.len; simp; omega, fun x hx => ?_⟩
  · rw [unfl_snoc, h.all, take_snoc f k hk, hc]
    simp
  · rcases List.mem_append.1 hx with h1 | h1
    · have := h.le x h1; omega
    · rw [List.mem_singleton.1 h1]; omega

/-- A slice value that holds flags. -/
def IsBools (w : World) (v : Value) (l : List Bool) : Prop :=
  ∃ a cap, v = .slice a l.length cap ∧ l.length ≤ cap ∧ l.length ≤ 140737488355328 ∧ (l ≠ [] → ∃ b off, a = some ⟨b, off, none⟩ ∧ b < w.heap.size ∧ ∀ i (h : i < l.length), w.cell? ⟨b, off + i, none⟩ = some (.bool l[i]))

theorem IsBools.below {w w' : World} {v : Value} {l : List Bool} (h : IsBools w v l) (hb : Below w.heap.size w w') : IsBools w' v l := by
  obtain ⟨a, cap, rfl, h1, h2, h3⟩ := h
  refine ⟨a, cap, rfl, h1, h2, fun hl => ?_⟩
  obtain ⟨b, off, rfl, h4, h5⟩ := h3 hl
  exact ⟨b, off, rfl, Nat.lt_of_lt_of_le h4 hb.size, fun i hi => by rw [hb.cell (p := ⟨b, off + i, none⟩) h4]; exact h5 i hi⟩

theorem infoF : (Try.prog.info? 4).map (fun i => (i.zero, i.size, i.bytes)) = some (some (.bool false), 1, 1) := by kernel_rfl

/-- A slice of flags that the call has made. -/
abbrev RowF (B : Nat) (v : Value) (l : List Bool) (w : World) : Prop := w.ownsRow B 4 1 v l.length (l.map Value.bool)

theorem rowF_grown {B : Nat} {w wr w' : World} {v v' : Value} {l m : List Bool} {o : Obj} (own : RowF B v l wr) (bel : Below B w wr) (hB : B ≤ wr.heap.size) (hg : (wr.alloc o).grownBy w' v.ownBlock)
    (own' : w'.ownsRow B 4 1 v' (l.length + m.length) (l.map Value.bool ++ m.map Value.bool)) : RowF B v' (l ++ m) w' ∧ Below B w w' := by
  refine ⟨?_, (bel.alloc hB o).grown hg (by simp; omega) (fun k hk => (own.lt k hk).1)⟩
  unfold RowF
  rw [List.map_append, List.length_append]
  exact own'

theorem rowF_len {B : Nat} {v : Value} {l : List Bool} {w : World} (h : RowF B v l w) : ∃ a c, v = .slice a l.length c := by
  rcases h.2 with ⟨rfl, h0⟩ | ⟨g, cap, cur, rfl, _⟩
  · exact ⟨none, 0, by rw [h0]⟩
  · exact ⟨_, _, rfl⟩

theorem RowF.bools {B : Nat} {w : World} {v : Value} {l : List Bool} (h : RowF B v l w) (hl : l.length ≤ 140737488355328) : IsBools w v l := by
  rcases h.2 with ⟨rfl, h0⟩ | ⟨g, cap, cur, rfl, hg, hh, hc, hm, hz, ht⟩
  · exact ⟨none, 0, by rw [h0], by omega, hl, fun h => absurd (List.length_eq_zero_iff.1 h0) h⟩
  · refine ⟨_, cap, rfl, hc, hl, fun _ => ⟨g, 0, rfl, ?_, fun i hi => ?_⟩⟩
    · rcases Nat.lt_or_ge g w.heap.size with h1 | h1
      · exact h1
      · rw [Array.getElem?_eq_none h1] at hh; cases hh
    · rw [Nat.zero_add, h.cellAt i (by omega)]
      simp [hi]

/-- Where the last number lies. -/
theorem rowI_last {B : Nat} {w : World} {v : Value} {r : List Int} {m : Int} (h : RowI B v (r ++ [m]) w) : ∃ g cap, v = .slice (some ⟨g, 0, none⟩) (r.length + 1) cap ∧ B ≤ g ∧ g < w.heap.size ∧
    w.cell? ⟨g, r.length, none⟩ = some (.int .i64 m) ∧ w.frozen? ⟨g, r.length, none⟩ = false ∧ ∀ m', RowI B v (r ++ [m']) (w.setCell ⟨g, r.length, none⟩ (.int .i64 m')) := by
  rcases h.2 with ⟨rfl, h0⟩ | ⟨g, cap, cur, rfl, hg, hh, hc, hm, hz, ht⟩
  · simp at h0
  · have hlen : (r ++ [m]).length = r.length + 1 := by simp
    refine ⟨g, cap, by rw [hlen], hg, ?_, ?_, ?_, fun m' => ?_⟩
    · rcases Nat.lt_or_ge g w.heap.size with h1 | h1
      · exact h1
      · rw [Array.getElem?_eq_none h1] at hh; cases hh
    · rw [h.cellAt r.length (by rw [hlen]; omega)]
      simp
    · simp [World.frozen?, hh]
    · have := (World.ownsRow.stored h r.length (.int .i64 m')).1
      have e : (intCells (r ++ [m])).set r.length (.int .i64 m') = intCells (r ++ [m']) := by simp
      rw [e] at this
      unfold RowI
      rw [show (r ++ [m']).length = (r ++ [m]).length from by simp]
      exact this

set_option maxHeartbeats 16000000 in
theorem flags_any (v : Value) (f : List Bool) (w : World) (hv : IsBools w v f) (h400 : f.length ≤ 400) :
    Calls Try.prog 17 #[v] w fun e w' => ∃ u l c, e = .returned u ∧ Fl f f.length l c ∧ RowI w.heap.size u l w' ∧ Below w.heap.size w w' := by
  obtain ⟨i0, hi, hz0, hz1, hz2⟩ := info_parts infoI
  obtain ⟨a, cap, rfl, h1, h2, h3⟩ := hv
  go_enter Try.func17, Try.ntmps17
  go_wp2_with fail
  go_loopw [2, 3, 8] (fun o q i wr => ∃ (k : Nat) (l : List Int) (c : Bool), k ≤ f.length ∧ i = .int .i64 k ∧ q = .bool c ∧ Fl f k l c ∧ RowI w.heap.size o l wr ∧ Below w.heap.size w wr) (fun _ _ i _ => f.length - (RowKit.intOf i).toNat)
  case atStart => exact ⟨0, [], false, Nat.zero_le _, rfl, rfl, Fl.start f, World.ownsRow_nil w w.heap.size 3 1, Below.refl _ w⟩
  case round =>
    obtain ⟨k, l, c, hk, rfl, rfl, hfl, hh, hbel⟩ := hrel
    have hz := hbel.size
    by_cases hlt : k < f.length
    · obtain ⟨b, off, rfl, h4, h5⟩ := h3 (fun e => by rw [e] at hlt; simp at hlt)
      have x0 : wr.cell? ⟨b, off + k, none⟩ = some (.bool f[k]) := by rw [hbel.cell (p := ⟨b, off + k, none⟩) h4]; exact h5 k hlt
      have g1 : (k : Int) < f.length := by omega
      clear h5 h3
      by_cases hk0 : k = 0
      · subst hk0
        obtain ⟨rfl, rfl⟩ := hfl.zero rfl
        have hpre := Fl.pre0 f
        rw [Nat.add_zero] at x0
        have hlit : RowI w.heap.size (.slice (some ⟨wr.heap.size, 0, none⟩) 1 1) [0] (wr.alloc (.cells #[.int .i64 0] 3)) := World.ownsRow_lit wr #[.int .i64 0] 1 hz (by unfold maxLen; omega) rfl
        have hbl : Below w.heap.size w (wr.alloc (.cells #[.int .i64 0] 3)) := hbel.alloc hz _
        have hzl : w.heap.size ≤ (wr.alloc (.cells #[.int .i64 0] 3)).heap.size := hbl.size
        have hst : RowI w.heap.size (.slice (some ⟨wr.heap.size, 0, none⟩) 1 1) [1] (wr.alloc (.cells #[.int .i64 1] 3)) := World.ownsRow_lit wr #[.int .i64 1] 1 hz (by unfold maxLen; omega) rfl
        clear hfl hh
        by_cases hf : f[0] = false
        · have HR : Hid (Fl f (0 + 1) ([] ++ [0 + 1]) false) := hpre.same hlt hf
          rw [hf] at x0
          clear hpre hf
          go_wp2_with fail
          go_roundw
          case rel => exact ⟨0 + 1, [1], false, hlt, by rfl, rfl, HR.out, hst, hbel.alloc hz _⟩
          case measure => simp [RowKit.intOf]; omega
        · have HR : Hid (Fl f (0 + 1) ([] ++ [0] ++ [1]) f[0]) := hpre.other hlt hf
          have hft : f[0] = true := by simpa using hf
          rw [hft] at x0 HR
          clear hpre hf hft hst
          generalize hW : wr.alloc (.cells #[.int .i64 0] 3) = W at *
          go_wp2_with (first | (at_builtin; refine wpList_append_own _ rfl _ _ 23 rfl w.heap.size 3 i0 (.int .i64 0) 1 8 Try.underlying23 hi hz0 hz1 hz2 rfl (by decide) _ _ _ rfl (hlit.alloc _) ⟨W.heap.size, 0, none⟩ 1 1 (intCells [0]) rfl rfl ?c1 ?c2 ?c3 ?c4 ?c5 ?_))
          case c1 =>
            intro j u hj
            match j, hj with
            | 0, hj => simp at hj; subst hj; simp [Addr.add]
          case c2 => intro u hu; simp at hu; subst hu; rfl
          case c3 => unfold maxLen; simp
          case c4 => simp
          case c5 => simp; omega
          intro v2 w2 hown hgrow _
          obtain ⟨R2, B2⟩ := rowI_grown (m := [0]) hlit hbl hzl hgrow hown
          clear hown hgrow hlit
          obtain ⟨g, cg, rfl, hg1, hg2, cg0, cgf, hset⟩ := rowI_last R2
          clear R2
          simp only [List.length_cons, List.length_nil, Nat.zero_add] at cg0 cgf hset ⊢
          go_wp2_with fail
          go_roundw
          case rel => exact ⟨0 + 1, [0] ++ [1], true, hlt, by rfl, rfl, HR.out, hset 1, B2.setCell hg1 _⟩
          case measure => simp [RowKit.intOf]; omega
      · obtain ⟨r, m, rfl, hpre⟩ := hfl.pre (by omega)
        have hq0 : ((k : Int) == 0) = false := by rw [beq_eq_false_iff_ne]; omega
        have hmk := hpre.le m (by simp)
        have hm0 := hpre.mpos.1
        have hrk := hpre.len
        clear hfl
        by_cases hf : f[k] = c
        · have HR : Hid (Fl f (k + 1) (r ++ [m + 1]) c) := hpre.same hlt hf
          rw [hf] at x0
          clear hpre hf
          obtain ⟨g, cg, rfl, hg1, hg2, cg0, cgf, hset⟩ := rowI_last hh
          clear hh
          cases c
          all_goals
            go_wp2_with fail
            go_roundw
            case rel => exact ⟨k + 1, r ++ [m + 1], _, hlt, by go_num, rfl, HR.out, hset (m + 1), hbel.setCell hg1 _⟩
            case measure => simp [RowKit.intOf]; omega
        · have HR : Hid (Fl f (k + 1) (r ++ [m] ++ [1]) f[k]) := hpre.other hlt hf
          have hrl : (r ++ [m]).length ≤ 402 := by rw [List.length_append, List.length_singleton]; omega
          have hl := rowI_len hh
          clear hpre
          generalize r ++ [m] = L at *
          generalize f[k] = q at *
          have hqc : q = !c := by cases q <;> cases c <;> simp_all
          subst hqc
          clear hf
          cases c
          all_goals
            go_wp2_with (first | (at_builtin; refine wpList_append_own _ rfl _ _ 23 rfl w.heap.size 3 i0 (.int .i64 0) 1 8 Try.underlying23 hi hz0 hz1 hz2 rfl (by decide) _ _ _ rfl (hh.alloc _) ⟨wr.heap.size, 0, none⟩ 1 1 (intCells [0]) rfl rfl ?c1 ?c2 ?c3 ?c4 ?c5 ?_))
            case c1 =>
              intro j u hj
              match j, hj with
              | 0, hj => simp at hj; subst hj; simp [Addr.add]
            case c2 => intro u hu; simp at hu; subst hu; rfl
            case c3 => unfold maxLen; omega
            case c4 => omega
            case c5 => simp; omega
            intro v2 w2 hown hgrow _
            obtain ⟨R2, B2⟩ := rowI_grown (m := [0]) hh hbel hz hgrow hown
            clear hown hgrow hh
            obtain ⟨g, cg, rfl, hg1, hg2, cg0, cgf, hset⟩ := rowI_last R2
            clear R2
            go_wp2_with fail
            go_roundw
            case rel => exact ⟨k + 1, L ++ [1], _, hlt, by go_num, rfl, HR.out, hset 1, B2.setCell hg1 _⟩
            case measure => simp [RowKit.intOf]; omega
    · have hke : k = f.length := by omega
      subst hke
      have HF : Hid (Fl f f.length l c) := hfl
      clear hfl
      cases c
      all_goals
        go_wp2
        go_ret
        exact ⟨_, l, _, rfl, HF.out, hh, hbel⟩
end Go.Proofs.Yteilchcojaakiaa
