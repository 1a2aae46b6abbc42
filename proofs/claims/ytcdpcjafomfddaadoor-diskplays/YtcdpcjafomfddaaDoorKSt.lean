/-
  What is proved: a disk that a law has made, call by call.
  Conditions: as each theorem says.
-/
import Derived.Test.YtcdpcjafomfddaaDoorKCrash
import Derived.Laws.BytesArg
namespace Go.Proofs.YtcdpcjafomfddaaDoor
open Go.RowKit Go.Maps Go.Sort Go.Shelf

/-- A disk that came up since a world, that never stops. -/
def St (w : World) (p : Nat) (F Z : List (Tx × Nat)) (n : Int) (G : List Fi) (wi : World) : Prop := Below w.heap.size w wi ∧ ∃ fb sb, Dk (fun k => w.heap.size ≤ k) wi p fb sb F Z n (-1) G

variable {w wi : World} {p : Nat} {F Z : List (Tx × Nat)} {n : Int} {G : List Fi}

theorem St.fresh (h : St w p F Z n G wi) : ∀ k, wi.heap.size ≤ k → w.heap.size ≤ k := fun _ hk => Nat.le_trans h.1.size hk
theorem St.next (h : St w p F Z n G wi) {w' : World} (hk : Kp (fun k => w.heap.size ≤ k) wi w') : Below w.heap.size w w' := h.1.trans (hk.below h.1.size (fun _ e => e))
theorem St.keep (h : St w p F Z n G wi) {w' : World} (hb : Below wi.heap.size wi w') : St w p F Z n G w' := by
  obtain ⟨b, fb, sb, d⟩ := h
  exact ⟨b.trans (hb.mono b.size), fb, sb, d.below hb⟩

theorem rdy_yes (n : Int) (l : List Tx) (h : l.all nameB = true) : rdy (-1) n l = 0 := by unfold rdy; rw [if_neg (by omega), if_pos h]

theorem st_new (w : World) : Calls Tryd.prog 4 #[] w fun e w' => ∃ p, e = .returned (.pointer (some ⟨p, 0, none⟩)) ∧ St w p [] [] 0 [] w' :=
  (new_any (fun k => w.heap.size ≤ k) w (fun _ h => h)).mono (by
    rintro e w' ⟨p, fb, sb, rfl, d, b⟩
    exact ⟨p, rfl, b, fb, sb, d⟩)

theorem st_create (s : Tx) (h : St w p F Z n G wi) (hs : nameB s = true) (ht : T64 s) (hn : 0 ≤ n ∧ n < 1000000) (hF : F.length < 1000) (hk : fk F s = none) :
    Calls Tryd.prog 14 #[.pointer (some ⟨p, 0, none⟩), .string ⟨s.toArray⟩] wi fun e w' => e = .returned .nilIface ∧ ∃ g, St w p (F ++ [(s, g)]) Z (n + 1) (G ++ [⟨g, .slice none 0 0, [], 0⟩]) w' := by
  have f := h.fresh
  obtain ⟨b, fb, sb, d⟩ := id h
  refine (create_yes s wi f d ht hn hF (by unfold crE; rw [rdy_yes n [s] (by simp [hs]), hk]; rfl)).mono ?_
  rintro e w' ⟨rfl, k, g, d'⟩
  exact ⟨rfl, g, h.next k, fb, sb, d'⟩

theorem opE_yes (s : Tx) (hs : nameB s = true) {g : Nat} (hk : fk F s = some g) : opE F (-1) n s = 0 := by unfold opE; rw [rdy_yes n [s] (by simp [hs]), hk]; rfl

theorem st_append (s : Tx) (v : Value) (l : Tx) (h : St w p F Z n G wi) (hs : nameB s = true) (ht : T64 s) (hn : 0 ≤ n ∧ n < 1000000) (x : Fi) (hx : x ∈ G) (hk : fk F s = some x.g) (hv : ArgB wi v l) (hl : x.bs.length + l.length ≤ 60000) :
    Calls Tryd.prog 15 #[.pointer (some ⟨p, 0, none⟩), .string ⟨s.toArray⟩, v] wi fun e w' => e = .returned .nilIface ∧ ∃ v', St w p F Z (n + 1) (upd G ⟨x.g, v', x.bs ++ l, x.sf⟩) w' := by
  have f := h.fresh
  obtain ⟨b, fb, sb, d⟩ := id h
  refine (append_yes s v l wi f d ht hn (opE_yes s hs hk) hv x hx hk hl).mono ?_
  rintro e w' ⟨rfl, k, v', d'⟩
  exact ⟨rfl, v', h.next k, fb, sb, d'⟩

theorem st_appendF (s : Tx) (v : Value) (l : Tx) (h : St w p F Z n G wi) (hs : nameB s = true) (ht : T64 s) (x : Fi) (hx : x ∈ G) (hk : fk F s = some x.g) (hv : ArgB wi v l) (hl : 60000 < x.bs.length + l.length) :
    Calls Tryd.prog 15 #[.pointer (some ⟨p, 0, none⟩), .string ⟨s.toArray⟩, v] wi fun e w' => e = .returned (.iface 66 (.int .i64 4)) ∧ St w p F Z n G w' := by
  obtain ⟨b, fb, sb, d⟩ := id h
  refine (append_full s v l wi d ht (opE_yes s hs hk) hv x hx hk hl).mono ?_
  rintro e w' ⟨rfl, k⟩
  exact ⟨rfl, h.keep k⟩

theorem st_sync (s : Tx) (h : St w p F Z n G wi) (hs : nameB s = true) (ht : T64 s) (hn : 0 ≤ n ∧ n < 1000000) (x : Fi) (hx : x ∈ G) (hk : fk F s = some x.g) :
    Calls Tryd.prog 16 #[.pointer (some ⟨p, 0, none⟩), .string ⟨s.toArray⟩] wi fun e w' => e = .returned .nilIface ∧ St w p F Z (n + 1) (upd G ⟨x.g, x.v, x.bs, x.bs.length⟩) w' := by
  obtain ⟨b, fb, sb, d⟩ := id h
  refine (sync_yes s wi d ht hn (opE_yes s hs hk) x hx hk).mono ?_
  rintro e w' ⟨rfl, k, d'⟩
  exact ⟨rfl, h.next k, fb, sb, d'⟩

theorem st_syncN (h : St w p F Z n G wi) (hn : 0 ≤ n ∧ n < 1000000) :
    Calls Tryd.prog 17 #[.pointer (some ⟨p, 0, none⟩)] wi fun e w' => e = .returned .nilIface ∧ St w p F F (n + 1) G w' := by
  have f := h.fresh
  obtain ⟨b, fb, sb, d⟩ := id h
  refine (syncN_yes wi f d hn (rdy_yes n [] rfl)).mono ?_
  rintro e w' ⟨rfl, k, sb', d'⟩
  exact ⟨rfl, h.next k, fb, sb', d'⟩

theorem st_rename (s t : Tx) (g : Nat) (h : St w p F Z n G wi) (hs : nameB s = true) (hs2 : nameB t = true) (ht : T64 s) (ht2 : T64 t) (hn : 0 ≤ n ∧ n < 1000000) (hF : F.length < 1000) (hk : fk F s = some g) :
    Calls Tryd.prog 18 #[.pointer (some ⟨p, 0, none⟩), .string ⟨s.toArray⟩, .string ⟨t.toArray⟩] wi fun e w' => e = .returned .nilIface ∧ St w p (renF F s t g) Z (n + 1) G w' := by
  obtain ⟨b, fb, sb, d⟩ := id h
  refine (rename_yes s t g wi d ht ht2 hn hF (rdy_yes n [s, t] (by simp [hs, hs2])) hk).mono ?_
  rintro e w' ⟨rfl, k, d'⟩
  exact ⟨rfl, h.next k, fb, sb, d'⟩

theorem st_crash (k : Int) (h : St w p F Z n G wi) (hk : I64 k) (hZ : Z.length ≤ 1000) :
    Calls Tryd.prog 20 #[.pointer (some ⟨p, 0, none⟩), .int .i64 k] wi fun e w' => e = .returned (.tuple #[]) ∧ ∃ E, St w p (nmF E) (nmF E) 0 (nwF E) w' ∧ (E.map (·.1)).Perm (Z.map (·.1)) ∧ Made Z G k E := by
  have f := h.fresh
  obtain ⟨b, fb, sb, d⟩ := id h
  refine (crash_any k wi f d hk hZ).mono ?_
  rintro e w' ⟨rfl, k, fb', sb', E, d', h1, h2⟩
  exact ⟨rfl, E, ⟨h.next k, fb', sb', d'⟩, h1, h2⟩

/-- What Read gives. -/
theorem st_read (s : Tx) (h : St w p F Z n G wi) (hs : nameB s = true) (ht : T64 s) (x : Fi) (hx : x ∈ G) (hk : fk F s = some x.g) :
    Calls Tryd.prog 11 #[.pointer (some ⟨p, 0, none⟩), .string ⟨s.toArray⟩] wi fun e w' => ∃ a m c, e = .returned (.tuple #[.slice a m c, .nilIface]) ∧ St w p F Z n G w' ∧ Row 0 (.slice a m c) x.bs w' ∧ x.bs.length ≤ 60000 := by
  obtain ⟨b, fb, sb, d⟩ := id h
  refine (read_yes s wi d ht hs x hx hk).mono ?_
  rintro e w' ⟨v, rfl, r, b'⟩
  have r0 := own_mono r (Nat.zero_le _)
  obtain ⟨a, c, rfl⟩ := row_form r0
  exact ⟨a, _, c, rfl, h.keep b', r0, (d.fi x hx).max⟩

theorem st_names (h : St w p F Z n G wi) (hF : F.length ≤ 1000) :
    Calls Tryd.prog 7 #[.pointer (some ⟨p, 0, none⟩)] wi fun e w' => ∃ a c, e = .returned (.slice a F.length c) ∧ Below wi.heap.size wi w' ∧ St w p F Z n G w' := by
  obtain ⟨b, fb, sb, d⟩ := id h
  refine (names_any wi d (by omega)).mono ?_
  rintro e w' ⟨v, rfl, r, hv, b'⟩
  obtain ⟨a, c, e⟩ : ∃ a c, v = .slice a F.length c := by
    rcases r.2 with ⟨rfl, h0⟩ | ⟨g, cap, cur, rfl, _⟩
    · exact ⟨none, 0, by rw [h0]⟩
    · exact ⟨_, _, rfl⟩
  exact ⟨a, c, by rw [e], b', h.keep b'⟩

/-- A file alone that is changed. -/
theorem upd_one (x y : Fi) (h : x.g = y.g) : upd [x] y = [y] := by unfold upd; simp [h]
theorem upd_one1 (x : Fi) (v : Value) (bs : Tx) (sf : Nat) : upd [x] ⟨x.g, v, bs, sf⟩ = [⟨x.g, v, bs, sf⟩] := upd_one _ _ rfl
theorem upd_two (x z y : Fi) (h : z.g = y.g) (hx : x.g ≠ y.g) : upd [x, z] y = [x, y] := by unfold upd; simp [h, hx]

/-- Bytes as a text. -/
theorem conv_any {w : World} {v : Value} {l : Tx} (h : ArgB w v l) : (convert 23 9 v).run Tryd.prog w = .ok (.string ⟨l.toArray⟩) w := by
  obtain ⟨⟨a, c, rfl, h1, h2, h3⟩, hf⟩ := h
  cases a with
  | none =>
    have hl : l = [] := by
      rcases hf with e | ⟨ad, m, c', e⟩
      · exact List.length_eq_zero_iff.1 (Value.slice.inj e).2.1
      · cases (Value.slice.inj e).1
    subst hl
    exact run_convert_bytes_nil (P := Tryd.prog) (w := w) 23 5 Tryd.underlying23 Tryd.underlying5 0 c 9 Tryd.underlying9
  | some ad =>
    refine run_convert_bytes_back (P := Tryd.prog) w 23 9 5 ad c l Tryd.underlying23 Tryd.underlying5 Tryd.underlying9 (fun t ht => ?_)
    obtain ⟨b, off, e, _, h5⟩ := h3 (fun e => by rw [e] at ht; simp at ht)
    injection e with e
    subst e
    have ea : (⟨b, off, none⟩ : Addr).add t = ⟨b, off + t, none⟩ := by unfold Addr.add; split <;> simp_all
    rw [ea]
    exact h5 t ht

theorem ArgB.below {w w' : World} {v : Value} {l : Tx} (h : ArgB w v l) (hb : Below w.heap.size w w') : ArgB w' v l := ⟨h.1.below hb, h.2⟩
theorem ArgB.take {w : World} {a : Option Addr} {m c : Nat} {l : Tx} (h : ArgB w (.slice a m c) l) (k : Nat) (hk : k ≤ l.length) (ha : a ≠ none) : ArgB w (.slice a k c) (l.take k) := by
  obtain ⟨⟨a', c', e, h1, h2, h3⟩, hf⟩ := h
  obtain ⟨rfl, rfl, rfl⟩ := Value.slice.inj e
  have e1 : (l.take k).length = k := by rw [List.length_take]; omega
  refine ⟨⟨a, c, by rw [e1], by omega, by omega, fun hne => ?_⟩, ?_⟩
  · obtain ⟨b, off, rfl, h5, h6⟩ := h3 (fun e => hne (by rw [e]; simp))
    refine ⟨b, off, rfl, h5, fun i hi => ?_⟩
    rw [List.getElem_take]
    exact h6 i (by omega)
  · cases a with
    | none => exact absurd rfl ha
    | some ad => exact Or.inr ⟨_, _, _, rfl⟩
theorem row_arg {v : Value} {l : Tx} {w : World} (h : Row 0 v l w) (hl : l.length ≤ 60000) : ArgB w v l := ⟨h.bytes (by omega), row_two h⟩
end Go.Proofs.YtcdpcjafomfddaaDoor
