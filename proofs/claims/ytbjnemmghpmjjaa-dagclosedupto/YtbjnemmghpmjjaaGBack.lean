/-
  What is proved: what is still to be read is an end of what was to be read. a change that is written is read as it was, whatever stands behind it; what bytes are read as is written as these bytes; and a change whose last byte is missing is none. what package change's Decode answers of any bytes; and nothing that was there has turned. the function Change of package booksame and the law ChangeBack: called with any change and bytes the law returns true, and nothing that was there has turned.
  Conditions: as each theorem says.
-/
import Derived.Test.YtbjnemmghpmjjaaGCm
import Derived.Test.YtbjnemmghpmjjaaCEncC
import Derived.Test.YtbjnemmghpmjjaaCDecode
import Derived.Test.YtbjnemmghpmjjaaREnc
namespace Go.Proofs.Ytbjnemmghpmjjaa
open Go.RowKit

/-- What is there behind is an end of what was there ahead; once nothing is, nothing comes. -/
def Shr (s s' : St) : Prop := ∀ r, s' = some r → ∃ l k, s = some l ∧ k ≤ l.length ∧ r = l.drop k

theorem Shr.refl (s : St) : Shr s s := fun r h => ⟨r, 0, h, Nat.zero_le _, by simp⟩
theorem Shr.trans {s s1 s2 : St} (h : Shr s s1) (k : Shr s1 s2) : Shr s s2 := by
  intro r hr
  obtain ⟨l1, k1, h1, h2, rfl⟩ := k r hr
  obtain ⟨l, k0, h3, h4, rfl⟩ := h l1 h1
  rw [List.length_drop] at h2
  exact ⟨l, k0 + k1, h3, by omega, by rw [List.drop_drop]⟩
theorem Shr.some {s s' : St} (h : Shr s s') (hs : s' ≠ none) : s ≠ none := by
  intro e
  cases hs' : s' with
  | none => exact hs hs'
  | some r => obtain ⟨l, _, h1, _⟩ := h r hs'; rw [e] at h1; cases h1

theorem shr_get {s : St} {n k : Nat} (h : get (rest s) = some (n, k)) : Shr s (some ((rest s).drop k)) := by
  intro r hr
  cases s with
  | none => cases h
  | some l => exact ⟨l, k, rfl, (get_some h).2.2.2.1, (Option.some.inj hr).symm⟩
theorem shr_num (s : St) : Shr s (rNum s).2 := by
  unfold rNum
  cases h : get (rest s) with
  | none => intro r hr; cases hr
  | some q => obtain ⟨n, k⟩ := q; exact shr_get h
theorem shr_sig (s : St) : Shr s (rSig s).2 := by
  unfold rSig
  cases h : get (rest s) with
  | none => intro r hr; cases hr
  | some q => obtain ⟨n, k⟩ := q; exact shr_get h
theorem shr_cnt (m : Int) (s : St) : Shr s (rCnt m s).2 := by
  unfold rCnt
  split
  · intro r hr; cases hr
  · exact shr_num s
theorem shr_txt (m : Int) (s : St) : Shr s (rTxt m s).2 := by
  refine (shr_cnt m s).trans ?_
  unfold rTxt
  split
  · intro r hr; cases hr
  · rename_i hl
    intro r hr
    cases h : (rCnt m s).2 with
    | none => rw [h] at hr; cases hr
    | some l =>
      rw [h] at hr hl
      refine ⟨l, (rCnt m s).1.toNat, rfl, ?_, (Option.some.inj hr).symm⟩
      simp only [rest, Option.getD_some] at hl
      omega
theorem shr_id (s : St) : Shr s (rId s).2 := (shr_num s).trans (shr_num _)
theorem shr_many {α : Type} (f : St → α × St) (h : ∀ s, Shr s (f s).2) (n : Nat) (s : St) : Shr s (rMany f n s).2 := by
  induction n with
  | zero => exact Shr.refl s
  | succ n ih => rw [rMany]; exact ih.trans (h _)
theorem shr_pairs (m : Int) (s : St) : Shr s (rPairs m s).2 := (shr_cnt m s).trans (shr_many rId shr_id _ _)
theorem shr_val (s : St) : Shr s (rVal s).2 := ((shr_num s).trans (shr_sig _)).trans (shr_txt 60 _)
theorem shr_op (s : St) : Shr s (rOp s).2 := by
  unfold rOp
  dsimp only
  exact ((((((shr_num s).trans (shr_id _)).trans (shr_txt 20 _)).trans (shr_id _)).trans (shr_cnt 1 _)).trans (shr_val _)).trans (shr_pairs 12 _)
theorem shr_ops (s : St) : Shr s (rOps s).2 := (shr_cnt 40 s).trans (shr_many rOp shr_op _ _)
theorem shr_chg (s : St) : Shr s (rChg s).2 := by
  unfold rChg
  dsimp only
  exact ((((shr_num s).trans (shr_num _)).trans (shr_num _)).trans (shr_pairs 12 _)).trans (shr_ops _)
end Go.Proofs.Ytbjnemmghpmjjaa

namespace Go.Proofs.Ytbjnemmghpmjjaa
open Go.RowKit

theorem encN_one (n : Int) : encN [n] = put n.toNat := by simp [encN]
theorem encN_two (a b : Int) : encN [a, b] = encN [a] ++ encN [b] := by simp [encN]

theorem num_put {n : Int} (h : N63 n) (r : List UInt8) : rNum (some (encN [n] ++ r)) = (n, some r) := by
  obtain ⟨h1, h2⟩ := h
  unfold rNum
  rw [rest_some, encN_one, get_put _ (by omega)]
  simp only
  rw [List.drop_append_of_le_length (Nat.le_refl _), List.drop_length, List.nil_append]
  congr 1
  unfold wrap64
  omega

theorem cnt_put {n m : Int} (h0 : 0 ≤ n) (h1 : n ≤ m) (h2 : n < 9223372036854775808) (r : List UInt8) : rCnt m (some (encN [n] ++ r)) = (n, some r) := by
  unfold rCnt
  rw [num_put ⟨h0, h2⟩]
  simp only
  rw [if_neg (by omega)]

theorem sig_put {n : Int} (h : I64 n) (r : List UInt8) : rSig (some (put (zig n) ++ r)) = (n, some r) := by
  unfold rSig
  rw [rest_some, get_put _ (zig_lt h.1 h.2)]
  simp only
  rw [List.drop_append_of_le_length (Nat.le_refl _), List.drop_length, List.nil_append, zag_zig]

theorem data_len (t : ByteArray) : t.data.toList.length = t.size := by rw [Array.length_toList]; rfl
theorem asText_data (t : ByteArray) : asText t.data.toList = t := by
  cases t with
  | mk d => simp [asText]

theorem txt_put {t : ByteArray} {m : Int} (h : (t.size : Int) ≤ m) (h2 : t.size ≤ 1000) (r : List UInt8) : rTxt m (some (encT t ++ r)) = (t.data.toList, some r) := by
  unfold rTxt encT
  rw [List.append_assoc, cnt_put (by omega) h (by omega)]
  have e := data_len t
  rw [if_neg (by show ¬ (((t.data.toList ++ r).length : Int) < (t.size : Int)); rw [List.length_append, e]; omega)]
  simp only [rest_some, Int.toNat_natCast]
  rw [← e]
  simp

theorem id_put {a b : Int} (h : N63 a) (k : N63 b) (r : List UInt8) : rId (some (encN [a, b] ++ r)) = ((a, b), some r) := by
  unfold rId
  rw [encN_two, List.append_assoc, num_put h]
  simp only
  rw [num_put k]

theorem many_put {α : Type} (f : St → α × St) (enc : α → List UInt8) : ∀ (n : Nat) (l : List α), l.length = n → (∀ x ∈ l, ∀ r, f (some (enc x ++ r)) = (x, some r)) → ∀ r, rMany f n (some (l.flatMap enc ++ r)) = (l, some r) := by
  intro n
  induction n with
  | zero =>
    intro l hl _ r
    rw [List.length_eq_zero_iff.1 hl]
    rfl
  | succ n ih =>
    intro l hl h r
    rcases List.eq_nil_or_concat l with rfl | ⟨l', x, rfl⟩
    · cases hl
    · rw [List.concat_eq_append] at hl h ⊢
      have e : (l' ++ [x]).flatMap enc ++ r = l'.flatMap enc ++ (enc x ++ r) := by simp
      have hi := ih l' (by simpa using hl) (fun y hy => h y (by simp [hy])) (enc x ++ r)
      rw [rMany, e, hi]
      simp only
      rw [h x (by simp) r]

theorem pairs_put {l : List Pr} (h : l.length ≤ 12) (k : ∀ q ∈ l, N63 q.1 ∧ N63 q.2) (r : List UInt8) : rPairs 12 (some (encN [(l.length : Int)] ++ (encP l ++ r))) = (l, some r) := by
  unfold rPairs
  rw [cnt_put (by omega) (by omega) (by omega)]
  simp only [Int.toNat_natCast]
  exact many_put rId (fun q => encN [q.1, q.2]) l.length l rfl (fun q hq r => id_put (k q hq).1 (k q hq).2 r) r

theorem value_put {v : V} (h1 : N63 v.k) (h2 : I64 v.n) (h3 : v.t.size ≤ 60) (h4 : v.o = 0 ∧ v.a = 0) (r : List UInt8) : rVal (some (encV v ++ r)) = (v, some r) := by
  obtain ⟨k, n, t, o, a⟩ := v
  obtain ⟨rfl, rfl⟩ := h4
  unfold rVal encV
  dsimp only at h1 h2 h3 ⊢
  rw [List.append_assoc, List.append_assoc, num_put h1]
  simp only
  rw [sig_put h2]
  simp only
  rw [txt_put (by omega) (by omega)]
  simp only
  rw [asText_data]

theorem flag_put (b : Bool) (r : List UInt8) : rCnt 1 (some (encB b ++ r)) = (if b then 1 else 0, some r) := by
  unfold encB
  cases b
  · exact cnt_put (by decide) (by decide) (by decide) r
  · exact cnt_put (by decide) (by decide) (by decide) r

theorem op_put {o : OpM} (h : OpFit o) (r : List UInt8) : rOp (some (encOp o ++ r)) = (o, some r) := by
  have e : encOp o ++ r = encN [o.kind] ++ (encN [o.obj.1, o.obj.2] ++ (encT o.key ++ (encN [o.elem.1, o.elem.2] ++ (encB o.ins ++ (encV o.val ++ (encN [(o.preds.length : Int)] ++ (encP o.preds ++ r))))))) := by
    unfold encOp
    have : encN [o.kind, o.obj.1, o.obj.2] = encN [o.kind] ++ encN [o.obj.1, o.obj.2] := by simp [encN]
    rw [this]
    simp only [List.append_assoc]
  unfold rOp
  rw [e]
  dsimp only
  rw [num_put h.kind]
  dsimp only
  rw [id_put h.obj.1 h.obj.2]
  dsimp only
  rw [txt_put (by have := h.key; omega) (by have := h.key; omega)]
  dsimp only
  rw [id_put h.elem.1 h.elem.2]
  dsimp only
  rw [flag_put]
  dsimp only
  rw [value_put h.vk h.vn h.vt h.vo]
  dsimp only
  rw [pairs_put h.preds.1 h.preds.2, asText_data]
  obtain ⟨ki, ob, ke, el, ins, va, pr⟩ := o
  cases ins <;> rfl

theorem chg_put {c : Chg} (h : ChgFit c) (r : List UInt8) : rChg (some (encC c ++ r)) = (c, some r) := by
  have e : encC c ++ r = encN [c.actor] ++ (encN [c.seq] ++ (encN [c.start] ++ (encN [(c.deps.length : Int)] ++ (encP c.deps ++ (encN [(c.ops.length : Int)] ++ (encOs c.ops ++ r)))))) := by
    unfold encC
    have : encN [c.actor, c.seq, c.start, (c.deps.length : Int)] = encN [c.actor] ++ (encN [c.seq] ++ (encN [c.start] ++ encN [(c.deps.length : Int)])) := by simp [encN]
    rw [this]
    simp only [List.append_assoc]
  unfold rChg
  rw [e]
  dsimp only
  rw [num_put h.head.1]
  dsimp only
  rw [num_put h.head.2.1]
  dsimp only
  rw [num_put h.head.2.2]
  dsimp only
  rw [pairs_put h.deps.1 h.deps.2]
  dsimp only
  unfold rOps
  rw [cnt_put (by omega) (by have := h.ops.1; omega) (by have := h.ops.1; omega)]
  simp only [Int.toNat_natCast]
  have m := many_put rOp encOp c.ops.length c.ops rfl (fun o ho r => op_put (h.ops.2 o ho) r) r
  unfold encOs
  rw [m]

theorem dec_enc {c : Chg} (h : ChgFit c) (hc : chk c = 0) (r : List UInt8) : dec (encC c ++ r) = some (c, (encC c).length) := by
  unfold dec
  rw [chg_put h]
  simp only
  rw [if_pos hc, List.length_append]
  congr 2
  omega

theorem num_back {l l' : List UInt8} {n : Int} (h : rNum (some l) = (n, some l')) (hn : 0 ≤ n) : l = encN [n] ++ l' ∧ N63 n := by
  unfold rNum at h
  rw [rest_some] at h
  split at h
  · rename_i m k hg
    obtain ⟨a1, a2, _, a4, _⟩ := get_some hg
    injection h with h1 h2
    injection h2 with h2
    subst h2
    have hm : n = (m : Int) ∧ m < 9223372036854775808 := by
      unfold wrap64 at h1
      omega
    refine ⟨?_, by unfold N63; omega⟩
    rw [encN_one, hm.1, Int.toNat_natCast, a1, List.take_append_drop]
  · injection h with _ h2
    cases h2

theorem cnt_back {l l' : List UInt8} {n m : Int} (h : rCnt m (some l) = (n, some l')) : l = encN [n] ++ l' ∧ 0 ≤ n ∧ n ≤ m := by
  unfold rCnt at h
  split at h
  · injection h with _ h2
    cases h2
  · rename_i hc
    have hn : 0 ≤ n ∧ n ≤ m := by
      have := congrArg Prod.fst h
      simp only at this
      omega
    exact ⟨(num_back h hn.1).1, hn⟩

theorem sig_back {l l' : List UInt8} {n : Int} (h : rSig (some l) = (n, some l')) : l = put (zig n) ++ l' := by
  unfold rSig at h
  rw [rest_some] at h
  split at h
  · rename_i m k hg
    obtain ⟨a1, a2, _, a4, _⟩ := get_some hg
    injection h with h1 h2
    injection h2 with h2
    subst h1 h2
    rw [zig_zag, a1, List.take_append_drop]
  · injection h with _ h2
    cases h2

/-- What was there ahead, if something is there behind. -/
theorem shr_out {s : St} {l' : List UInt8} (h : Shr s (some l')) : ∃ l, s = some l := by
  obtain ⟨l, k, h1, _⟩ := h l' rfl
  exact ⟨l, h1⟩

theorem txt_back {l l' t : List UInt8} {m : Int} (h : rTxt m (some l) = (t, some l')) : l = encT (asText t) ++ l' := by
  have hs : Shr (rCnt m (some l)).2 (some l') := by
    have := shr_txt m (some l)
    unfold rTxt at h
    split at h
    · injection h with _ h2
      cases h2
    · rename_i hl
      injection h with _ h2
      intro r hr
      injection hr with hr
      subst hr
      cases hc : (rCnt m (some l)).2 with
      | none => rw [hc] at h2; cases h2
      | some q =>
        rw [hc] at h2 hl
        refine ⟨q, (rCnt m (some l)).1.toNat, rfl, ?_, ?_⟩
        · rw [rest_some] at hl; omega
        · injection h2 with h2; exact h2.symm
  obtain ⟨q, hq⟩ := shr_out hs
  obtain ⟨n, hn⟩ : ∃ n, (rCnt m (some l)).1 = n := ⟨_, rfl⟩
  have hc : rCnt m (some l) = (n, some q) := by rw [← hn, ← hq]
  obtain ⟨e1, e2, e3⟩ := cnt_back hc
  unfold rTxt at h
  rw [hc] at h
  split at h
  · injection h with _ h2
    cases h2
  · rename_i hl
    simp only [rest_some] at h hl
    injection h with h1 h2
    injection h2 with h2
    have hlen : t.length = n.toNat := by
      rw [← h1, List.length_take]
      have : ¬ ((q.length : Int) < n) := hl
      omega
    have hsz : (asText t).size = t.length := by simp [asText, ByteArray.size]
    have hdt : (asText t).data.toList = t := by simp [asText]
    unfold encT
    rw [hsz, hdt, hlen, e1, List.append_assoc]
    congr 2
    · congr 1; omega
    · rw [← h1, ← h2, List.take_append_drop]

theorem id_back {l l' : List UInt8} {q : Pr} (h : rId (some l) = (q, some l')) (h1 : 0 ≤ q.1) (h2 : 0 ≤ q.2) : l = encN [q.1, q.2] ++ l' := by
  obtain ⟨a, b⟩ := q
  unfold rId at h
  injection h with h3 h4
  injection h3 with h5 h6
  have hs : Shr (rNum (some l)).2 (some l') := by have := shr_num (rNum (some l)).2; rw [h4] at this; exact this
  obtain ⟨l1, hl1⟩ := shr_out hs
  have e1 : rNum (some l) = (a, some l1) := by rw [← h5, ← hl1]
  rw [hl1] at h4 h6
  have e2 : rNum (some l1) = (b, some l') := by rw [← h6, ← h4]
  rw [encN_two, List.append_assoc, ← (num_back e2 h2).1]
  exact (num_back e1 h1).1

theorem many_back {α : Type} (f : St → α × St) (hf : ∀ s, Shr s (f s).2) (enc : α → List UInt8) (P : α → Prop) (h : ∀ l l' x, f (some l) = (x, some l') → P x → l = enc x ++ l') :
    ∀ (n : Nat) (l l' : List UInt8) (xs : List α), rMany f n (some l) = (xs, some l') → (∀ x ∈ xs, P x) → l = xs.flatMap enc ++ l' := by
  intro n
  induction n with
  | zero =>
    intro l l' xs e _
    rw [rMany] at e
    injection e with e1 e2
    injection e2 with e2
    subst e1 e2
    rfl
  | succ n ih =>
    intro l l' xs e hp
    rw [rMany] at e
    injection e with e1 e2
    have hs : Shr (rMany f n (some l)).2 (some l') := by have := hf (rMany f n (some l)).2; rw [e2] at this; exact this
    obtain ⟨l1, hl1⟩ := shr_out hs
    rw [hl1] at e1 e2
    have e3 : f (some l1) = ((f (some l1)).1, some l') := by rw [← e2]
    have i1 := ih l l1 (rMany f n (some l)).1 (by rw [← hl1]) (fun x hx => hp x (by rw [← e1]; simp [hx]))
    have i2 := h l1 l' _ e3 (hp _ (by rw [← e1]; simp))
    have e4 : [(f (some l1)).1].flatMap enc ++ l' = enc (f (some l1)).1 ++ l' := by simp
    rw [← e1, List.flatMap_append, List.append_assoc, e4, ← i2]
    exact i1

theorem pairs_back {l l' : List UInt8} {ps : List Pr} (h : rPairs 12 (some l) = (ps, some l')) (hp : ∀ q ∈ ps, N63 q.1 ∧ N63 q.2) : l = encN [(ps.length : Int)] ++ (encP ps ++ l') := by
  unfold rPairs at h
  have hs : Shr (rCnt 12 (some l)).2 (some l') := by have := shr_many rId shr_id (rCnt 12 (some l)).1.toNat (rCnt 12 (some l)).2; rw [h] at this; exact this
  obtain ⟨l1, hl1⟩ := shr_out hs
  obtain ⟨n, hn⟩ : ∃ n, (rCnt 12 (some l)).1 = n := ⟨_, rfl⟩
  have hc : rCnt 12 (some l) = (n, some l1) := by rw [← hn, ← hl1]
  obtain ⟨e1, e2, e3⟩ := cnt_back hc
  rw [hc] at h
  have hlen := rMany_len rId n.toNat (some l1)
  rw [h] at hlen
  have i := many_back rId shr_id (fun q => encN [q.1, q.2]) (fun q => N63 q.1 ∧ N63 q.2) (fun l l' q e hq => id_back e hq.1.1 hq.2.1) n.toNat l1 l' ps h hp
  have en : (ps.length : Int) = n := by simp only at hlen; omega
  rw [en, e1]
  congr 1

theorem value_back {l l' : List UInt8} {v : V} (h : rVal (some l) = (v, some l')) (hk : 0 ≤ v.k) : l = encV v ++ l' := by
  have hs2 := shr_txt 60 (rSig (rNum (some l)).2).2
  have e2 : (rTxt 60 (rSig (rNum (some l)).2).2).2 = some l' := congrArg Prod.snd h
  have e1 : v = ⟨(rNum (some l)).1, (rSig (rNum (some l)).2).1, asText (rTxt 60 (rSig (rNum (some l)).2).2).1, 0, 0⟩ := (congrArg Prod.fst h).symm
  rw [e2] at hs2
  obtain ⟨l2, hl2⟩ := shr_out hs2
  have hs1 := shr_sig (rNum (some l)).2
  rw [hl2] at hs1
  obtain ⟨l1, hl1⟩ := shr_out hs1
  obtain ⟨k, hkk⟩ : ∃ k, (rNum (some l)).1 = k := ⟨_, rfl⟩
  obtain ⟨n, hnn⟩ : ∃ n, (rSig (rNum (some l)).2).1 = n := ⟨_, rfl⟩
  obtain ⟨t, htt⟩ : ∃ t, (rTxt 60 (rSig (rNum (some l)).2).2).1 = t := ⟨_, rfl⟩
  rw [hkk, hnn, htt] at e1
  rw [hl2] at e2 htt
  rw [hl1] at hl2 hnn
  have a1 : rNum (some l) = (k, some l1) := by rw [← hkk, ← hl1]
  have a2 : rSig (some l1) = (n, some l2) := by rw [← hnn, ← hl2]
  have a3 : rTxt 60 (some l2) = (t, some l') := by rw [← htt, ← e2]
  subst e1
  dsimp only at hk
  unfold encV
  dsimp only
  rw [List.append_assoc, List.append_assoc, ← txt_back a3, ← sig_back a2]
  exact (num_back a1 hk).1

theorem op_back {l l' : List UInt8} {o : OpM} (h : rOp (some l) = (o, some l')) (hf : OpFit o) : l = encOp o ++ l' := by
  unfold rOp at h
  dsimp only at h
  have z := congrArg Prod.snd h
  have y := congrArg Prod.fst h
  dsimp only at z y
  have s6 := shr_pairs 12 (rVal (rCnt 1 (rId (rTxt 20 (rId (rNum (some l)).2).2).2).2).2).2
  rw [z] at s6
  obtain ⟨l6, h6⟩ := shr_out s6
  have s5 := shr_val (rCnt 1 (rId (rTxt 20 (rId (rNum (some l)).2).2).2).2).2
  rw [h6] at s5
  obtain ⟨l5, h5⟩ := shr_out s5
  have s4 := shr_cnt 1 (rId (rTxt 20 (rId (rNum (some l)).2).2).2).2
  rw [h5] at s4
  obtain ⟨l4, h4⟩ := shr_out s4
  have s3 := shr_id (rTxt 20 (rId (rNum (some l)).2).2).2
  rw [h4] at s3
  obtain ⟨l3, h3⟩ := shr_out s3
  have s2 := shr_txt 20 (rId (rNum (some l)).2).2
  rw [h3] at s2
  obtain ⟨l2, h2⟩ := shr_out s2
  have s1 := shr_id (rNum (some l)).2
  rw [h2] at s1
  obtain ⟨l1, h1⟩ := shr_out s1
  rw [h6] at z
  rw [h5] at h6
  rw [h4] at h5
  rw [h3] at h4
  rw [h2] at h3
  rw [h1] at h2
  simp only [h1, h2, h3, h4, h5, h6] at y
  have a0 : rNum (some l) = (o.kind, some l1) := by rw [← y, ← h1]
  have a1 : rId (some l1) = (o.obj, some l2) := by rw [← y, ← h2]
  have a2 : rTxt 20 (some l2) = ((rTxt 20 (some l2)).1, some l3) := by rw [← h3]
  have a3 : rId (some l3) = (o.elem, some l4) := by rw [← y, ← h4]
  have a4 : rCnt 1 (some l4) = ((rCnt 1 (some l4)).1, some l5) := by rw [← h5]
  have a5 : rVal (some l5) = (o.val, some l6) := by rw [← y, ← h6]
  have a6 : rPairs 12 (some l6) = (o.preds, some l') := by rw [← y, ← z]
  have k2 : o.key = asText (rTxt 20 (some l2)).1 := by rw [← y]
  have k4 : o.ins = ((rCnt 1 (some l4)).1 == 1) := by rw [← y]
  obtain ⟨b4, b5, b6⟩ := cnt_back a4
  have k5 : encB o.ins = encN [(rCnt 1 (some l4)).1] := by
    unfold encB
    rw [k4]
    rcases (show (rCnt 1 (some l4)).1 = 0 ∨ (rCnt 1 (some l4)).1 = 1 by omega) with e | e <;> rw [e] <;> rfl
  have e0 := (num_back a0 hf.kind.1).1
  have e1 := id_back a1 hf.obj.1.1 hf.obj.2.1
  have e2 := txt_back a2
  have e3 := id_back a3 hf.elem.1.1 hf.elem.2.1
  have e5 := value_back a5 hf.vk.1
  have e6 := pairs_back a6 hf.preds.2
  rw [← k2] at e2
  rw [← k5] at b4
  have e : encOp o ++ l' = encN [o.kind] ++ (encN [o.obj.1, o.obj.2] ++ (encT o.key ++ (encN [o.elem.1, o.elem.2] ++ (encB o.ins ++ (encV o.val ++ (encN [(o.preds.length : Int)] ++ (encP o.preds ++ l'))))))) := by
    unfold encOp
    have : encN [o.kind, o.obj.1, o.obj.2] = encN [o.kind] ++ encN [o.obj.1, o.obj.2] := by simp [encN]
    rw [this]
    simp only [List.append_assoc]
  rw [e, ← e6, ← e5, ← b4, ← e3, ← e2, ← e1]
  exact e0

theorem chg_back {l l' : List UInt8} {c : Chg} (h : rChg (some l) = (c, some l')) (hf : ChgFit c) : l = encC c ++ l' := by
  unfold rChg at h
  dsimp only at h
  have z := congrArg Prod.snd h
  have y := congrArg Prod.fst h
  dsimp only at z y
  have s4 := shr_ops (rPairs 12 (rNum (rNum (rNum (some l)).2).2).2).2
  rw [z] at s4
  obtain ⟨l4, h4⟩ := shr_out s4
  have s3 := shr_pairs 12 (rNum (rNum (rNum (some l)).2).2).2
  rw [h4] at s3
  obtain ⟨l3, h3⟩ := shr_out s3
  have s2 := shr_num (rNum (rNum (some l)).2).2
  rw [h3] at s2
  obtain ⟨l2, h2⟩ := shr_out s2
  have s1 := shr_num (rNum (some l)).2
  rw [h2] at s1
  obtain ⟨l1, h1⟩ := shr_out s1
  rw [h4] at z
  rw [h3] at h4
  rw [h2] at h3
  rw [h1] at h2
  simp only [h1, h2, h3, h4] at y
  have a0 : rNum (some l) = (c.actor, some l1) := by rw [← y, ← h1]
  have a1 : rNum (some l1) = (c.seq, some l2) := by rw [← y, ← h2]
  have a2 : rNum (some l2) = (c.start, some l3) := by rw [← y, ← h3]
  have a3 : rPairs 12 (some l3) = (c.deps, some l4) := by rw [← y, ← h4]
  have a4 : rOps (some l4) = (c.ops, some l') := by rw [← y, ← z]
  unfold rOps at a4
  have s5 : Shr (rCnt 40 (some l4)).2 (some l') := by have := shr_many rOp shr_op (rCnt 40 (some l4)).1.toNat (rCnt 40 (some l4)).2; rw [a4] at this; exact this
  obtain ⟨l5, h5⟩ := shr_out s5
  obtain ⟨n, hn⟩ : ∃ n, (rCnt 40 (some l4)).1 = n := ⟨_, rfl⟩
  have hc : rCnt 40 (some l4) = (n, some l5) := by rw [← hn, ← h5]
  obtain ⟨b1, b2, b3⟩ := cnt_back hc
  rw [hc] at a4
  have hlen := rMany_len rOp n.toNat (some l5)
  rw [a4] at hlen
  have i := many_back rOp shr_op encOp OpFit (fun l l' o e ho => op_back e ho) n.toNat l5 l' c.ops a4 hf.ops.2
  have en : (c.ops.length : Int) = n := by simp only at hlen; omega
  have e0 := (num_back a0 hf.head.1.1).1
  have e1 := (num_back a1 hf.head.2.1.1).1
  have e2 := (num_back a2 hf.head.2.2.1).1
  have e3 := pairs_back a3 hf.deps.2
  have e : encC c ++ l' = encN [c.actor] ++ (encN [c.seq] ++ (encN [c.start] ++ (encN [(c.deps.length : Int)] ++ (encP c.deps ++ (encN [(c.ops.length : Int)] ++ (encOs c.ops ++ l')))))) := by
    unfold encC
    have : encN [c.actor, c.seq, c.start, (c.deps.length : Int)] = encN [c.actor] ++ (encN [c.seq] ++ (encN [c.start] ++ encN [(c.deps.length : Int)])) := by simp [encN]
    rw [this]
    simp only [List.append_assoc]
  have i2 : l5 = encOs c.ops ++ l' := i
  rw [e, ← i2, en, ← b1, ← e3, ← e2, ← e1]
  exact e0

theorem rChg_nums (s : St) : ∀ o ∈ (rChg s).1.ops, I64 o.val.n := by
  unfold rChg
  dsimp only
  intro o ho
  exact (rOps_all _ o ho).1.2.2.2.2.1

/-- What bytes are read as is written as these bytes. -/
theorem dec_back {b : List UInt8} {c : Chg} {n : Nat} (h : dec b = some (c, n)) : encC c = b.take n ∧ n ≤ b.length ∧ chk c = 0 ∧ ChgFit c := by
  unfold dec at h
  split at h
  · rename_i r hr
    split at h
    · rename_i hc
      injection h with h
      injection h with h1 h2
      have hf : ChgFit c := by rw [← h1]; exact chg_fit hc (rChg_nums _)
      have hrc : rChg (some b) = (c, some r) := Prod.ext h1 hr
      have e := chg_back hrc hf
      rw [h1] at hc
      have hl := congrArg List.length e
      rw [List.length_append] at hl
      have hn : n = (encC c).length := by omega
      refine ⟨?_, by omega, hc, hf⟩
      rw [hn]
      conv => rhs; rw [e]
      rw [List.take_left]
    · cases h
  · cases h

/-- A change whose last byte is missing is none. -/
theorem dec_cut {c : Chg} (h : ChgFit c) (hc : chk c = 0) : dec (encC c).dropLast = none := by
  cases e : dec (encC c).dropLast with
  | none => rfl
  | some q =>
    obtain ⟨d, n⟩ := q
    obtain ⟨e1, e2, e3, e4⟩ := dec_back e
    have hne : encC c ≠ [] := by
      intro h0
      unfold encC at h0
      have e5 : encN [c.actor, c.seq, c.start, (c.deps.length : Int)] = put c.actor.toNat ++ encN [c.seq, c.start, (c.deps.length : Int)] := by simp [encN]
      rw [e5] at h0
      simp only [List.append_assoc] at h0
      exact put_ne _ (List.append_eq_nil_iff.1 h0).1
    have e6 : encC c = encC d ++ ((encC c).dropLast.drop n ++ [(encC c).getLast hne]) := by
      rw [← List.append_assoc, e1, List.take_append_drop, List.dropLast_concat_getLast]
    have d1 := dec_enc h hc []
    rw [List.append_nil] at d1
    have d2 := dec_enc e4 e3 ((encC c).dropLast.drop n ++ [(encC c).getLast hne])
    rw [← e6, d1] at d2
    have d3 : (encC c).length = (encC d).length := congrArg Prod.snd (Option.some.inj d2)
    have := congrArg List.length e6
    simp only [List.length_append, List.length_cons, List.length_nil] at this
    omega
end Go.Proofs.Ytbjnemmghpmjjaa

namespace Go.Proofs.Ytbjnemmghpmjjaa
open Go.RowKit

/-- A change without anything. -/
abbrev noChg : Value := .agg #[.int .i64 0, .int .i64 0, .int .i64 0, .slice none 0 0, .slice none 0 0]

theorem Off.drew {g : Nat} {w w' : World} (h : Off g w w') : Off g w w'.drew := ⟨h.os, h.tape, h.output, h.size, h.block⟩

end Go.Proofs.Ytbjnemmghpmjjaa

namespace Go.Proofs.Ytbjnemmghpmjjaa
open Go.RowKit

theorem encC_ne (c : Chg) : encC c ≠ [] := by
  intro h0
  unfold encC at h0
  have e5 : encN [c.actor, c.seq, c.start, (c.deps.length : Int)] = put c.actor.toNat ++ encN [c.seq, c.start, (c.deps.length : Int)] := by simp [encN]
  rw [e5] at h0
  simp only [List.append_assoc] at h0
  exact put_ne _ (List.append_eq_nil_iff.1 h0).1

theorem encC_len (c : Chg) (h : ChgFit c) : (encC c).length ≤ 21000 := by
  unfold encC
  have h1 := encN_len4 h.head.1 h.head.2.1 h.head.2.2 (show N63 (c.deps.length : Int) by have := h.deps.1; unfold N63; omega)
  have h2 := encP_len c.deps h.deps.2
  have h3 := encN_len1 (show N63 (c.ops.length : Int) by have := h.ops.1; unfold N63; omega)
  have h4 := encOs_len c.ops h.ops.2
  have h5 := h.deps.1
  have h6 := h.ops.1
  simp only [List.length_append]
  omega

set_option maxRecDepth 100000 in
set_option maxHeartbeats 4000000 in
theorem same_any (v u : Value) (c : Chg) (w : World) (hv : IsChg w v c) (hu : IsChg w u c) (h : chk c = 0) :
    Calls Try.prog 26 #[v, u] w fun e w' => e = .returned (.bool true) ∧ Below w.heap.size w w' := by
  have hv0 := hv
  have hu0 := hu
  obtain ⟨ud, uo, l, rfl, -, -, -, hd, ho, -⟩ := hv
  obtain ⟨ad, cd, rfl, -⟩ := hd
  obtain ⟨ao, co, rfl, -⟩ := ho
  obtain ⟨ud', uo', l', rfl, -, -, -, hd', ho', -⟩ := hu
  obtain ⟨ad', cd', rfl, -⟩ := hd'
  obtain ⟨ao', co', rfl, -⟩ := ho'
  have A1 := (Below.refl w.heap.size w).alloc (Nat.le_refl _) (.cells #[.int .i64 c.actor, .int .i64 c.seq, .int .i64 c.start, .slice ad c.deps.length cd, .slice ao l.length co] 31)
  have A2 := A1.alloc A1.size (.cells #[.int .i64 c.actor, .int .i64 c.seq, .int .i64 c.start, .slice ad' c.deps.length cd', .slice ao' l'.length co'] 31)
  have hbx : ((w.alloc (.cells #[.int .i64 c.actor, .int .i64 c.seq, .int .i64 c.start, .slice ad c.deps.length cd, .slice ao l.length co] 31)).alloc (.cells #[.int .i64 c.actor, .int .i64 c.seq, .int .i64 c.start, .slice ad' c.deps.length cd', .slice ao' l'.length co'] 31)).heap[w.heap.size + 1]? = some (.cells #[.int .i64 c.actor, .int .i64 c.seq, .int .i64 c.start, .slice ad' c.deps.length cd', .slice ao' l'.length co'] 31) := by
    have := (MapKept.heap_alloc (w.alloc (.cells #[.int .i64 c.actor, .int .i64 c.seq, .int .i64 c.start, .slice ad c.deps.length cd, .slice ao l.length co] 31)) (.cells #[.int .i64 c.actor, .int .i64 c.seq, .int .i64 c.start, .slice ad' c.deps.length cd', .slice ao' l'.length co'] 31)).1
    simpa using this
  have E1 := rEncode_any _ c _ (hv0.below A2) h
  go_enter Try.func26, Try.ntmps26
  go_wp2_with fail
  refine E1.mono ?_
  rintro e w1 ⟨u1, rfl, R1, b1⟩
  have B1 : Below w.heap.size w w1 := A2.trans (b1.mono A2.size)
  have X1 := heap_below hbx b1 (Nat.le_refl _)
  have y0 : w1.cell? ⟨w.heap.size + 1, 0, none⟩ = some (.int .i64 c.actor) := Lib.cell_of_heap X1 0
  have y1 : w1.cell? ⟨w.heap.size + 1, 1, none⟩ = some (.int .i64 c.seq) := Lib.cell_of_heap X1 1
  have y2 : w1.cell? ⟨w.heap.size + 1, 2, none⟩ = some (.int .i64 c.start) := Lib.cell_of_heap X1 2
  have y3 : w1.cell? ⟨w.heap.size + 1, 3, none⟩ = some (.slice ad' c.deps.length cd') := Lib.cell_of_heap X1 3
  have y4 : w1.cell? ⟨w.heap.size + 1, 4, none⟩ = some (.slice ao' l'.length co') := Lib.cell_of_heap X1 4
  have E2 := rEncode_any _ c _ (hu0.below B1) h
  clear E1 hbx hv0 hu0 A1 A2
  go_wp2_with fail
  refine E2.mono ?_
  rintro e w2 ⟨u2, rfl, R2, b2⟩
  have B2 : Below w.heap.size w w2 := B1.trans (b2.mono B1.size)
  obtain ⟨g1, c1, rfl, t1⟩ := row_text (own_below R1 b2 (Nat.le_refl _)) (encC_ne c)
  obtain ⟨g2, c2, rfl, t2⟩ := row_text R2 (encC_ne c)
  have v1 := run_convert_bytes_back (P := Try.prog) w2 78 9 5 ⟨g1, 0, none⟩ c1 (encC c) Try.underlying78 Try.underlying5 Try.underlying9 (fun t ht => t1 t _ (by simp [Lib.byteCells, ht]))
  have v2 := run_convert_bytes_back (P := Try.prog) w2 78 9 5 ⟨g2, 0, none⟩ c2 (encC c) Try.underlying78 Try.underlying5 Try.underlying9 (fun t ht => t2 t _ (by simp [Lib.byteCells, ht]))
  clear t1 t2 R1 R2 b1 b2 E2 y0 y1 y2 y3 y4 X1
  generalize encC c = P at *
  go_wp2
  go_ret
  exact ⟨by simp, B2⟩

/-- The change of the law's fact. -/
def oneC : Chg := ⟨1, 1, 1, [], [⟨1, (0, 0), ⟨#[97]⟩, (0, 0), false, ⟨2, 5, .empty, 0, 0⟩, []⟩]⟩
theorem oneC_ok : chk oneC = 0 := by decide +kernel
theorem oneC_len : ¬ (encC oneC).length < 10 := by decide +kernel
end Go.Proofs.Ytbjnemmghpmjjaa
