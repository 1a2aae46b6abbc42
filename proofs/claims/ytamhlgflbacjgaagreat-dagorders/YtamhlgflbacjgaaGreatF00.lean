/-
  What is proved: as each theorem says.
  Conditions: as each theorem says.
-/
import Derived.Test.YtamhlgflbacjgaaGreatProg
import Derived.Deep.RegionHeld3
import Derived.Handy
import Derived.Below
import Derived.Lib.Builder
import Derived.WalkKit
import Derived.WalkSpells
import Derived.WalkLawsBesides
import Derived.Deep.RegionWith
import Derived.Deep.QuietTactic
import Derived.BigQuiet
import Derived.Laws.BitsAllLaws
import Derived.Deep.DeepAppendWide
import Derived.Laws.AppendOwnNone
import Derived.Maps.RangeWalk
import Derived.Maps.OwnOps
import Derived.Maps.Ext
import Derived.DeepKeys4
set_option maxRecDepth 100000
set_option maxHeartbeats 16000000
namespace Go.Proofs.YtamhlgflbacjgaaGreat
open Go
section
variable {P : Program} {ops : Array Oper} {Q : Exit → Act → World → Prop} {md : Region.Mode} {S : World → Prop}
abbrev aD (n : Nat) : Edge := { on := n, ground := Ground.data }
abbrev aP (n : Nat) : Edge := { on := n, ground := Ground.phase }
abbrev aC (n : Nat) : Edge := { on := n, ground := Ground.chain }
abbrev aG (n : Nat) : Edge := { on := n, ground := Ground.guard }
def nth {α : Type} : List α → Nat → Option α
  | [], _ => none
  | x :: _, 0 => some x
  | _ :: l, n + 1 => nth l n
theorem nth_eq {α : Type} : ∀ (l : List α) (i : Nat), nth l i = l[i]?
  | [], _ => by simp [nth]
  | _ :: _, 0 => by simp [nth]
  | _ :: l, n + 1 => by simp [nth, nth_eq l n]
theorem nm {α : Type} : (∀ (l : List α) (i : Nat) (a : α), l.toArray.setIfInBounds i a = (l.set i a).toArray) ∧ (∀ (x : α) (l : List α) (a : α), (x :: l).set 0 a = a :: l) ∧ (∀ (x : α) (l : List α) (i : Nat) (a : α), (x :: l).set (i + 1) a = x :: l.set i a) :=
  ⟨fun _ _ _ => List.setIfInBounds_toArray .., fun _ _ _ => rfl, fun _ _ _ _ => rfl⟩
theorem tk (i : Nat) {oi : Oper} {v : Value} {fuel : Nat} {listed l' : Array Bool} {a a' : Act} {w : World} (hi : nth ops.toList i = some oi)
    (h : wpAnyH P md ops Q S fuel l' a' w) (hy : ∀ w, S w → (execOp a.eval oi).run P w = .ok (.value v) w := by intro wz hSw; (try dsimp only at hSw); go_simp; try with_reducible rfl)
    (ha : a.put oi.dst v = a' := by first | (simp only [Act.put, nm]; done) | (simp only [Act.put, nm]; rfl) | rfl) (hl : listed.setIfInBounds i true = l' := by first | (simp only [nm]; done) | (simp only [nm]; rfl) | rfl)
    (hs : Region.noSelect ops = true := by kernel_rfl) (hf : Region.free md ops listed i = true := by kernel_rfl) (hr : (Region.ready md ops listed).contains i = true := by kernel_rfl)
    (hQ : ∀ c a w, Q (.panic c) (a.put oi.dst v) w → Q (.panic c) a w := by exact fun _ _ _ h => h) (hw : Region.wanted oi (yielded ops a.tmps) = true := by rfl) (hS : S w := by assumption) : wpAnyH P md ops Q S (fuel + 1) listed a w := by
  subst ha hl
  exact wpAnyH_take (by rw [← Array.getElem?_toList, ← nth_eq]; exact hi) hs hf hr hQ (Or.inl ⟨hw, hy⟩) hS h
theorem tkC (i : Nat) {C : World → Prop} (F : RowKit.Hid (∀ W, S W → C W)) {oi : Oper} {v : Value} {fuel : Nat} {listed l' : Array Bool} {a a' : Act} {w : World} (hi : nth ops.toList i = some oi)
    (h : wpAnyH P md ops Q S fuel l' a' w) (hy : ∀ w, C w → (execOp a.eval oi).run P w = .ok (.value v) w := by intro wz hC; (try dsimp only at hC); go_simp; try with_reducible rfl)
    (ha : a.put oi.dst v = a' := by first | (simp only [Act.put, nm]; done) | (simp only [Act.put, nm]; rfl) | rfl) (hl : listed.setIfInBounds i true = l' := by first | (simp only [nm]; done) | (simp only [nm]; rfl) | rfl)
    (hs : Region.noSelect ops = true := by kernel_rfl) (hf : Region.free md ops listed i = true := by kernel_rfl) (hr : (Region.ready md ops listed).contains i = true := by kernel_rfl)
    (hQ : ∀ c a w, Q (.panic c) (a.put oi.dst v) w → Q (.panic c) a w := by exact fun _ _ _ h => h) (hw : Region.wanted oi (yielded ops a.tmps) = true := by rfl) (hS : S w := by assumption) : wpAnyH P md ops Q S (fuel + 1) listed a w :=
  tk i hi h (fun w hs => hy w (F.out w hs)) ha hl hs hf hr hQ hw hS
theorem rNh (S : World → Prop) {id : Nat} {a : Act} {w : World} (hS : S w.drew) (h : S w.drew → wpAnyH P .any ops (NoPanic Q) S ops.size (Array.replicate ops.size false) a w.drew) (hm : P.follows .mixedOrders = true := by kernel_rfl) : (Code.region id ops true).wp P Q a w :=
  wp_region_noPanic (wp_region_held_drew hm hS h)
theorem wDn {fuel : Nat} {listed : Array Bool} {a : Act} {w : World} (h : Q .normal a w) (hr : Region.ready md ops listed = [] := by kernel_rfl) : wpAnyH P md ops (NoPanic Q) S fuel listed a w := wpAnyH_done hr (NoPanic.normal h) fuel
theorem bAl (w : World) (o : Obj) : RowKit.Below w.heap.size w (w.alloc o) := (RowKit.Below.refl _ _).alloc (Nat.le_refl _) o
theorem sk (i : Nat) {oi : Oper} {fuel : Nat} {listed l' : Array Bool} {a a' : Act} {w : World} (hi : nth ops.toList i = some oi)
    (h : wpAnyH P md ops Q S fuel l' a' w)
    (ha : a.put oi.dst undef = a' := by first | (simp only [Act.put, nm]; done) | (simp only [Act.put, nm]; rfl) | rfl) (hl : listed.setIfInBounds i true = l' := by first | (simp only [nm]; done) | (simp only [nm]; rfl) | rfl)
    (hs : Region.noSelect ops = true := by kernel_rfl) (hf : Region.free md ops listed i = true := by kernel_rfl) (hr : (Region.ready md ops listed).contains i = true := by kernel_rfl)
    (hQ : ∀ c a w, Q (.panic c) (a.put oi.dst undef) w → Q (.panic c) a w := by exact fun _ _ _ h => h) (hw : Region.wanted oi (yielded ops a.tmps) = false := by rfl) (hS : S w := by assumption) : wpAnyH P md ops Q S (fuel + 1) listed a w := by
  subst ha hl
  exact wpAnyH_take (by rw [← Array.getElem?_toList, ← nth_eq]; exact hi) hs hf hr hQ (Or.inr ⟨hw, rfl⟩) hS h
theorem nm1 {α : Type} (l : List α) (i : Nat) (a : α) : l.toArray.setIfInBounds i a = (l.set i a).toArray := List.setIfInBounds_toArray ..
theorem nm2 {α : Type} (x : α) (l : List α) (a : α) : (x :: l).set 0 a = a :: l := rfl
theorem nm3 {α : Type} (x : α) (l : List α) (i : Nat) (a : α) : (x :: l).set (i + 1) a = x :: l.set i a := rfl
end
def CSs (w : World) (b : Nat) : List Value → Prop
  | [a0, a1] => w.cell? ⟨b, 0, none⟩ = some a0 ∧ w.cell? ⟨b, 1, none⟩ = some a1 ∧ True
  | [a0, a1, a2] => w.cell? ⟨b, 0, none⟩ = some a0 ∧ w.cell? ⟨b, 1, none⟩ = some a1 ∧ w.cell? ⟨b, 2, none⟩ = some a2 ∧ True
  | [a0, a1, a2, a3, a4] => w.cell? ⟨b, 0, none⟩ = some a0 ∧ w.cell? ⟨b, 1, none⟩ = some a1 ∧ w.cell? ⟨b, 2, none⟩ = some a2 ∧ w.cell? ⟨b, 3, none⟩ = some a3 ∧ w.cell? ⟨b, 4, none⟩ = some a4 ∧ True
  | [a0, a1, a2, a3, a4, a5, a6, a7, a8, a9, a10, a11, a12] => w.cell? ⟨b, 0, none⟩ = some a0 ∧ w.cell? ⟨b, 1, none⟩ = some a1 ∧ w.cell? ⟨b, 2, none⟩ = some a2 ∧ w.cell? ⟨b, 3, none⟩ = some a3 ∧ w.cell? ⟨b, 4, none⟩ = some a4 ∧ w.cell? ⟨b, 5, none⟩ = some a5 ∧ w.cell? ⟨b, 6, none⟩ = some a6 ∧ w.cell? ⟨b, 7, none⟩ = some a7 ∧ w.cell? ⟨b, 8, none⟩ = some a8 ∧ w.cell? ⟨b, 9, none⟩ = some a9 ∧ w.cell? ⟨b, 10, none⟩ = some a10 ∧ w.cell? ⟨b, 11, none⟩ = some a11 ∧ w.cell? ⟨b, 12, none⟩ = some a12 ∧ True
  | [a0, a1, a2, a3, a4, a5, a6, a7, a8, a9, a10, a11, a12, a13, a14] => w.cell? ⟨b, 0, none⟩ = some a0 ∧ w.cell? ⟨b, 1, none⟩ = some a1 ∧ w.cell? ⟨b, 2, none⟩ = some a2 ∧ w.cell? ⟨b, 3, none⟩ = some a3 ∧ w.cell? ⟨b, 4, none⟩ = some a4 ∧ w.cell? ⟨b, 5, none⟩ = some a5 ∧ w.cell? ⟨b, 6, none⟩ = some a6 ∧ w.cell? ⟨b, 7, none⟩ = some a7 ∧ w.cell? ⟨b, 8, none⟩ = some a8 ∧ w.cell? ⟨b, 9, none⟩ = some a9 ∧ w.cell? ⟨b, 10, none⟩ = some a10 ∧ w.cell? ⟨b, 11, none⟩ = some a11 ∧ w.cell? ⟨b, 12, none⟩ = some a12 ∧ w.cell? ⟨b, 13, none⟩ = some a13 ∧ w.cell? ⟨b, 14, none⟩ = some a14 ∧ True
  | _ => True
theorem cLs0 {w : World} {b : Nat} : ∀ (l : List Value), (∀ j, w.cell? ⟨b, j, none⟩ = l[j]?) → CSs w b l
  | [], _ => trivial
  | [_], _ => trivial
  | [_, _], k => ⟨k 0, k 1, trivial⟩
  | [_, _, _], k => ⟨k 0, k 1, k 2, trivial⟩
  | [_, _, _, _], _ => trivial
  | [_, _, _, _, _], k => ⟨k 0, k 1, k 2, k 3, k 4, trivial⟩
  | [_, _, _, _, _, _], _ => trivial
  | [_, _, _, _, _, _, _], _ => trivial
  | [_, _, _, _, _, _, _, _], _ => trivial
  | [_, _, _, _, _, _, _, _, _], _ => trivial
  | [_, _, _, _, _, _, _, _, _, _], _ => trivial
  | [_, _, _, _, _, _, _, _, _, _, _], _ => trivial
  | [_, _, _, _, _, _, _, _, _, _, _, _], _ => trivial
  | [_, _, _, _, _, _, _, _, _, _, _, _, _], k => ⟨k 0, k 1, k 2, k 3, k 4, k 5, k 6, k 7, k 8, k 9, k 10, k 11, k 12, trivial⟩
  | [_, _, _, _, _, _, _, _, _, _, _, _, _, _], _ => trivial
  | [_, _, _, _, _, _, _, _, _, _, _, _, _, _, _], k => ⟨k 0, k 1, k 2, k 3, k 4, k 5, k 6, k 7, k 8, k 9, k 10, k 11, k 12, k 13, k 14, trivial⟩
  | _ :: _ :: _ :: _ :: _ :: _ :: _ :: _ :: _ :: _ :: _ :: _ :: _ :: _ :: _ :: _ :: _, _ => trivial
theorem cLs {w : World} {b : Nat} {vs : Array Value} {t : TypeId} {z : Nat × Nat} (h : w.heap[b]? = some (.cells vs t z)) : CSs w b vs.toList :=
  cLs0 _ fun j => by rw [Lib.cell_of_heap h j, Array.getElem?_toList]
theorem cLo {w : World} {b : Nat} {vs : Array Value} {t : TypeId} {z : Nat × Nat} (h : w.heap[b]? = some (.cells vs t z)) (j : Nat) : w.cell? ⟨b, j, none⟩ = vs[j]? := Lib.cell_of_heap h j
theorem fRz {w : World} {b : Nat} {vs : Array Value} {t : TypeId} (h : w.heap[b]? = some (.cells vs t (0, 0))) (j : Nat) : w.frozen? ⟨b, j, none⟩ = false := Lib.frozen_of_heap h j
theorem gNz {α : Type} (a : α) : ∃ z, a = z := ⟨a, rfl⟩
theorem lRf {n : Nat} : n ≤ n := Nat.le_refl n
theorem hY2 {a b : Prop} (xa : a) (xb : b) : RowKit.Hid (a ∧ b) := ⟨xa, xb⟩
theorem hY3 {a b c : Prop} (xa : a) (xb : b) (xc : c) : RowKit.Hid (a ∧ b ∧ c) := ⟨xa, xb, xc⟩
theorem hY4 {a b c d : Prop} (xa : a) (xb : b) (xc : c) (xd : d) : RowKit.Hid (a ∧ b ∧ c ∧ d) := ⟨xa, xb, xc, xd⟩
theorem hY5 {a b c d e : Prop} (xa : a) (xb : b) (xc : c) (xd : d) (xe : e) : RowKit.Hid (a ∧ b ∧ c ∧ d ∧ e) := ⟨xa, xb, xc, xd, xe⟩
theorem hY6 {a b c d e f : Prop} (xa : a) (xb : b) (xc : c) (xd : d) (xe : e) (xf : f) : RowKit.Hid (a ∧ b ∧ c ∧ d ∧ e ∧ f) := ⟨xa, xb, xc, xd, xe, xf⟩
theorem hY7 {a b c d e f g : Prop} (xa : a) (xb : b) (xc : c) (xd : d) (xe : e) (xf : f) (xg : g) : RowKit.Hid (a ∧ b ∧ c ∧ d ∧ e ∧ f ∧ g) := ⟨xa, xb, xc, xd, xe, xf, xg⟩
theorem hY8 {a b c d e f g h : Prop} (xa : a) (xb : b) (xc : c) (xd : d) (xe : e) (xf : f) (xg : g) (xh : h) : RowKit.Hid (a ∧ b ∧ c ∧ d ∧ e ∧ f ∧ g ∧ h) := ⟨xa, xb, xc, xd, xe, xf, xg, xh⟩
theorem hY9 {a b c d e f g h i : Prop} (xa : a) (xb : b) (xc : c) (xd : d) (xe : e) (xf : f) (xg : g) (xh : h) (xi : i) : RowKit.Hid (a ∧ b ∧ c ∧ d ∧ e ∧ f ∧ g ∧ h ∧ i) := ⟨xa, xb, xc, xd, xe, xf, xg, xh, xi⟩
end Go.Proofs.YtamhlgflbacjgaaGreat
namespace Go.Proofs.YtamhlgflbacjgaaGreat
def putF:Nat→Nat→List UInt8
 | 0,n=>[UInt8.ofNat n]
 | f+1,n=>if n<128 then [UInt8.ofNat n] else UInt8.ofNat (128+n % 128)::putF f (n / 128)
def put (n:Nat):List UInt8:=putF n n
theorem putF_same:∀(f g n:Nat),n≤f→n≤g→putF f n=putF g n
 | 0,0,n,_,_=>rfl
 | 0,g+1,n,h,_=>by
  have:n=0:=by omega
  subst this;rfl
 | f+1,0,n,_,h=>by
  have:n=0:=by omega
  subst this;rfl
 | f+1,g+1,n,h1,h2=>by
  rw[putF,putF];by_cases h:n<128
  ·rw[if_pos h,if_pos h]
  ·rw[if_neg h,if_neg h,putF_same f g (n / 128) (by omega) (by omega)]
def val:List UInt8→Nat
 | []=>0
 | b::r=>b.toNat % 128+128*val r
theorem put_small {n:Nat} (h:n<128):put n=[UInt8.ofNat n]:=by
 unfold put;cases n with
 | zero=>rfl
 | succ n=>rw[putF,if_pos h]
theorem put_more {n:Nat} (h:128≤n):put n=UInt8.ofNat (128+n % 128)::put (n / 128):=by
 unfold put;cases n with
 | zero=>omega
 | succ n=>rw[putF,if_neg (by omega),putF_same n ((n+1) / 128) ((n+1) / 128) (by omega) lRf]
theorem byte_low {n:Nat} (h:n<128):(UInt8.ofNat n).toNat=n:=by simp;omega
theorem byte_high (n:Nat):(UInt8.ofNat (128+n % 128)).toNat=128+n % 128:=by simp;omega
theorem put_ne (n:Nat):put n≠[]:=by
 by_cases h:n<128
 ·rw[put_small h];simp
 ·rw[put_more (by omega)];simp
theorem put_len:∀(k n:Nat),n<128 ^ (k+1)→(put n).length≤k+1
 | 0,n,h=>by rw[put_small (by simpa using h)];simp
 | k+1,n,h=>by
  by_cases h1:n<128
  ·rw[put_small h1];simp
  ·rw[put_more (by omega),List.length_cons];have:=put_len k (n / 128) (by rw[Nat.pow_succ] at h;omega);omega
theorem put_len10 {n:Nat} (h:n<18446744073709551616):(put n).length≤10:=put_len 9 n (by omega)
def get (l:List UInt8):Option (Nat×Nat):=
 match (l.take 10).findIdx? (fun b=>decide (b.toNat<128)) with
 | none=>none
 | some i=>if put (val (l.take (i+1)) % 18446744073709551616)=l.take (i+1) then some (val (l.take (i+1)) % 18446744073709551616,i+1) else none
def zig (n:Int):Nat:=if n<0 then (-2*n - 1).toNat else (2*n).toNat
theorem zig_lt {n:Int} (h1: -9223372036854775808≤n) (h2:n<9223372036854775808):zig n<18446744073709551616:=by
 unfold zig;split <;> omega
end Go.Proofs.YtamhlgflbacjgaaGreat
namespace Go.Proofs.YtamhlgflbacjgaaGreat
open Go.RowKit
theorem infoB:(Tryz.prog.info? 5).map (fun i=>(i.zero,i.size,i.bytes))=some (some (.int .u8 0),1,1):=by kernel_rfl
abbrev Row (B:Nat) (v:Value) (l:List UInt8) (w:World):Prop:=w.ownsRow B 5 1 v l.length (Lib.byteCells l)
theorem row_grown {B:Nat} {w wr w':World} {v v':Value} {l m:List UInt8} {o:Obj} (own:Row B v l wr) (bel:Below B w wr) (hB:B≤wr.heap.size) (hg:(wr.alloc o).grownBy w' v.ownBlock)
 (own':w'.ownsRow B 5 1 v' (l.length+m.length) (Lib.byteCells l++Lib.byteCells m)):Row B v' (l++m) w'∧Below B w w':=by
 refine⟨?_,(bel.alloc hB o).grown hg (by simp;omega) (fun k hk=>(own.lt k hk).1)⟩;have e:Lib.byteCells (l++m)=Lib.byteCells l++Lib.byteCells m:=by simp[Lib.byteCells]
 unfold Row;rw[e,List.length_append];exact own'
theorem own_row_len {B:Nat} {v:Value} {l:List UInt8} {w:World} (h:Row B v l w):∃a c,v=.slice a l.length c:=by
 rcases h.2 with⟨rfl,h0⟩ | ⟨g,cap,cur,rfl,_⟩
 ·exact⟨none,0,by rw[h0]⟩
 ·exact⟨_,_,rfl⟩
theorem row_at (g t:Nat):(⟨g,0,none⟩:Addr).add t=⟨g,t,none⟩:=by cases t <;> simp[Addr.add]
def IsBytes (w:World) (v:Value) (l:List UInt8):Prop:=
 ∃a cap,v=.slice a l.length cap∧l.length≤cap∧l.length≤140737488400000∧(l≠[]→∃b off,a=some ⟨b,off,none⟩∧b<w.heap.size∧∀i (h:i<l.length),w.cell? ⟨b,off+i,none⟩=some (.int .u8 l[i].toNat))
theorem IsBytes.below {w w':World} {v:Value} {l:List UInt8} (h:IsBytes w v l) (hb:Below w.heap.size w w'):IsBytes w' v l:=by
 obtain⟨a,cap,rfl,h1,h2,h3⟩:=h;refine⟨a,cap,rfl,h1,h2,fun hl=>?_⟩;obtain⟨b,off,rfl,h4,h5⟩:=h3 hl;exact⟨b,off,rfl,Nat.lt_of_lt_of_le h4 hb.size,fun i hi=>by rw[hb.cell (p:=⟨b,off+i,none⟩) h4];exact h5 i hi⟩
theorem Row.bytes {B:Nat} {w:World} {v:Value} {l:List UInt8} (h:Row B v l w) (hl:l.length≤140737488400000):IsBytes w v l:=by
 rcases h.2 with⟨rfl,h0⟩ | ⟨g,cap,cur,rfl,hg,hh,hc,hm,hz,ht⟩
 ·exact⟨none,0,by rw[h0],by omega,hl,fun h=>absurd (List.length_eq_zero_iff.1 h0) h⟩
 ·refine⟨_,cap,rfl,hc,hl,fun _=>⟨g,0,rfl,?_,fun i hi=>?_⟩⟩
  ·rcases Nat.lt_or_ge g w.heap.size with h1 | h1
   ·exact h1
   ·rw[Array.getElem?_eq_none h1] at hh;cases hh
  ·rw[Nat.zero_add,h.cellAt i (by omega)];simp[Lib.byteCells,hi]
theorem IsBytes.take {w:World} {b off cap:Nat} {l:List UInt8} (h:IsBytes w (.slice (some ⟨b,off,none⟩) l.length cap) l) (k:Nat) (hk:k≤l.length):IsBytes w (.slice (some ⟨b,off,none⟩) k cap) (l.take k):=by
 obtain⟨a,cap',e,h1,h2,h3⟩:=h;injection e with e1 e2 e3
 subst e1 e3;have hl:(l.take k).length=k:=by rw[List.length_take];omega
 refine⟨_,cap,by rw[hl],by omega,by omega,fun hne=>?_⟩;obtain⟨b',off',e,h4,h5⟩:=h3 (fun e=>hne (by rw[e];simp));injection e with e
 injection e with e1 e2
 subst e1 e2;refine⟨b,off,rfl,h4,fun i hi=>?_⟩;rw[List.getElem_take];exact h5 i (by omega)
theorem IsBytes.drop {w:World} {b off cap:Nat} {l:List UInt8} (h:IsBytes w (.slice (some ⟨b,off,none⟩) l.length cap) l) (k:Nat) (hk:k≤l.length):IsBytes w (.slice (some ⟨b,off+k,none⟩) (l.length - k) (cap - k)) (l.drop k):=by
 obtain⟨a,cap',e,h1,h2,h3⟩:=h;injection e with e1 e2 e3
 subst e1 e3;have hl:(l.drop k).length=l.length - k:=by rw[List.length_drop]
 refine⟨_,cap - k,by rw[hl],by omega,by omega,fun hne=>?_⟩;obtain⟨b',off',e,h4,h5⟩:=h3 (fun e=>hne (by rw[e];simp));injection e with e
 injection e with e1 e2
 subst e1 e2;refine⟨b,off+k,rfl,h4,fun i hi=>?_⟩;rw[List.getElem_drop,Nat.add_assoc];exact h5 (k+i) (by omega)
theorem below_drew {B:Nat} {w wr:World} (h:Below B w wr) (n:Nat):Below B w (wr.drewN n):=⟨h.os,h.tape,h.output,h.size,h.block⟩


def I64 (x:Int):Prop:= -9223372036854775808≤x∧x<9223372036854775808
theorem i64_wrap (x:Int):I64 (wrap64 x):=by unfold I64 wrap64;omega
theorem own_below {B C e s n:Nat} {w w':World} {v:Value} {xs:List Value} (h:w.ownsRow B e s v n xs) (hb:Below C w w') (hC:w.heap.size≤C):w'.ownsRow B e s v n xs:=by
 refine⟨h.1,?_⟩;rcases h.2 with h0 | ⟨g,cap,cur,h1,h2,h3,h4⟩
 ·exact Or.inl h0
 ·refine Or.inr ⟨g,cap,cur,h1,h2,?_,h4⟩;have hlt:g<w.heap.size:=by
   rcases Nat.lt_or_ge g w.heap.size with h | h
   ·exact h
   ·rw[Array.getElem?_eq_none h] at h3;cases h3
  rw[hb.block g (by omega)];exact h3
theorem row_grown0 {B:Nat} {w wr w':World} {v v':Value} {l m:List UInt8} (own:Row B v l wr) (bel:Below B w wr) (hB:B≤wr.heap.size) (hg:wr.grownBy w' v.ownBlock)
 (own':w'.ownsRow B 5 1 v' (l.length+m.length) (Lib.byteCells l++Lib.byteCells m)):Row B v' (l++m) w'∧Below B w w':=by
 refine⟨?_,bel.grown hg hB (fun k hk=>(own.lt k hk).1)⟩;have e:Lib.byteCells (l++m)=Lib.byteCells l++Lib.byteCells m:=by simp[Lib.byteCells]
 unfold Row;rw[e,List.length_append];exact own'
theorem box_grown0 {B e s b n:Nat} {T:TypeId} {wr w':World} {v:Value} {xs:List Value} {cs:Array Value} (own:wr.ownsRow B e s v n xs) (hb:wr.heap[b]?=some (.cells cs T)) (hT:T≠e) (hg:wr.grownBy w' v.ownBlock):w'.heap[b]?=some (.cells cs T):=by
 have hlt:b<wr.heap.size:=by
  rcases Nat.lt_or_ge b wr.heap.size with h | h
  ·exact h
  ·rw[Array.getElem?_eq_none h] at hb;cases hb
 have hne:some b≠v.ownBlock:=by
  intro e1;rcases own.2 with⟨rfl,_⟩ | ⟨g,cap,cur,rfl,_,hh,_⟩
  ·cases e1
  ·have:b=g:=Option.some.inj e1;subst this;rw[hb] at hh;injection hh with hh
   injection hh with _ hh _
   exact hT hh
 rw[hg.block b hlt hne];exact hb
theorem heap_below {B b:Nat} {w w':World} {o:Obj} (h:w.heap[b]?=some o) (hb:Below B w w') (hB:w.heap.size≤B):w'.heap[b]?=some o:=by
 have hlt:b<w.heap.size:=by
  rcases Nat.lt_or_ge b w.heap.size with h1 | h1
  ·exact h1
  ·rw[Array.getElem?_eq_none h1] at h;cases h
 rw[hb.block b (by omega)];exact h
theorem row_text {B:Nat} {v:Value} {l:List UInt8} {w:World} (h:Row B v l w) (h0:l≠[]):∃g cap,v=.slice (some ⟨g,0,none⟩) l.length cap∧∀(j:Nat) (u:Value),(Lib.byteCells l)[j]?=some u→w.cell? ((⟨g,0,none⟩:Addr).add j)=some u:=by
 rcases h.2 with⟨rfl,hl⟩ | ⟨g,cap,cur,rfl,hg,hh,hc,hm,hz,ht⟩
 ·exact absurd (List.length_eq_zero_iff.1 hl) h0
 ·refine⟨g,cap,rfl,fun j u hj=>?_⟩;have hlt:j<l.length:=by
   rcases Nat.lt_or_ge j l.length with h1 | h1
   ·exact h1
   ·rw[List.getElem?_eq_none (by simpa [Lib.byteCells] using h1)] at hj;cases hj
  rw[row_at,h.cellAt j (by omega)];exact hj
theorem one_cell (l:List UInt8):∀u∈Lib.byteCells l,u.oneCell'=true:=by
 intro u hu;unfold Lib.byteCells at hu;rw[List.mem_map] at hu;obtain⟨b,_,rfl⟩:=hu;rfl
theorem cells_len (l:List UInt8):(Lib.byteCells l).length=l.length*1:=by simp[Lib.byteCells]
theorem own_mono {B C e s n:Nat} {w:World} {v:Value} {xs:List Value} (h:w.ownsRow B e s v n xs) (hC:C≤B):w.ownsRow C e s v n xs:=by
 refine⟨h.1,?_⟩;rcases h.2 with h0 | ⟨g,cap,cur,h1,h2,h3⟩
 ·exact Or.inl h0
 ·exact Or.inr ⟨g,cap,cur,h1,Nat.le_trans hC h2,h3⟩
theorem take_snoc {α:Type} (l:List α) (k:Nat) (h:k<l.length):l.take (k+1)=l.take k++[l[k]]:=List.take_succ_eq_append_getElem h
abbrev Pr:Type:=Int×Int
def pcells (p:List Pr):List Value:=p.flatMap fun q=>[.int .i64 q.1,.int .i64 q.2]
theorem pcells_len (p:List Pr):(pcells p).length=p.length*2:=by
 induction p with
 | nil=>rfl
 | cons q r ih=>
  unfold pcells at ih ⊢;rw[List.flatMap_cons,List.length_append,ih];simp;omega
theorem pcells_append (p q:List Pr):pcells (p++q)=pcells p++pcells q:=by simp[pcells]
theorem pcells_at (p:List Pr) (i:Nat) (h:i<p.length):(pcells p)[i*2]?=some (.int .i64 p[i].1)∧(pcells p)[i*2+1]?=some (.int .i64 p[i].2):=by
 induction p generalizing i with
 | nil=>simp at h
 | cons q r ih=>
  have e:pcells (q::r)=.int .i64 q.1::.int .i64 q.2::pcells r:=by simp[pcells]
  rw[e];cases i with
  | zero=>simp
  | succ i=>
   have:=ih i (by simpa using h);rw[show(i+1)*2=i*2+1+1 from by omega];simpa using this
def IsPairs (w:World) (v:Value) (p:List Pr):Prop:=
 ∃a cap,v=.slice a p.length cap∧p.length≤cap∧p.length≤8796093022208∧(∀q∈p,I64 q.1∧I64 q.2)∧(p≠[]→∃b off,a=some ⟨b,off,none⟩∧b<w.heap.size∧∀i (h:i<p.length),w.cell? ⟨b,off+i*2,none⟩=some (.int .i64 p[i].1)∧w.cell? ⟨b,off+i*2+1,none⟩=some (.int .i64 p[i].2))
theorem IsPairs.below {w w':World} {v:Value} {p:List Pr} (h:IsPairs w v p) (hb:Below w.heap.size w w'):IsPairs w' v p:=by
 obtain⟨a,cap,rfl,h1,h2,hr,h3⟩:=h;refine⟨a,cap,rfl,h1,h2,hr,fun hl=>?_⟩;obtain⟨b,off,rfl,h4,h5⟩:=h3 hl;exact⟨b,off,rfl,Nat.lt_of_lt_of_le h4 hb.size,fun i hi=>⟨by rw[hb.cell (p:=⟨b,off+i*2,none⟩) h4];exact(h5 i hi).1,by rw[hb.cell (p:=⟨b,off+i*2+1,none⟩) h4];exact(h5 i hi).2⟩⟩
theorem isPairs_nil (w:World) (a:Option Addr) (c:Nat):IsPairs w (.slice a 0 c) []:=⟨a,c,rfl,by simp,by simp,by simp,fun h=>absurd rfl h⟩
abbrev RowPr (T:TypeId) (B:Nat) (v:Value) (p:List Pr) (w:World):Prop:=w.ownsRow B T 2 v p.length (pcells p)
theorem rowPr_len {T:TypeId} {B:Nat} {v:Value} {l:List Pr} {w:World} (h:RowPr T B v l w):∃a c,v=.slice a l.length c:=by
 rcases h.2 with⟨rfl,h0⟩ | ⟨g,cap,cur,rfl,_⟩
 ·exact⟨none,0,by rw[h0]⟩
 ·exact⟨_,_,rfl⟩
theorem RowPr.pairs {T:TypeId} {B:Nat} {w:World} {v:Value} {p:List Pr} (h:RowPr T B v p w) (hl:p.length≤8796093022208) (hr:∀q∈p,I64 q.1∧I64 q.2):IsPairs w v p:=by
 rcases h.2 with⟨rfl,h0⟩ | ⟨g,cap,cur,rfl,hg,hh,hc,hm,hz,ht⟩
 ·exact⟨none,0,by rw[h0],by omega,hl,hr,fun h=>absurd (List.length_eq_zero_iff.1 h0) h⟩
 ·refine⟨_,cap,rfl,hc,hl,hr,fun _=>⟨g,0,rfl,?_,fun i hi=>⟨?_,?_⟩⟩⟩
  ·rcases Nat.lt_or_ge g w.heap.size with h1 | h1
   ·exact h1
   ·rw[Array.getElem?_eq_none h1] at hh;cases hh
  ·rw[Nat.zero_add,h.cellAt (i*2) (by omega),(pcells_at p i hi).1]
  ·rw[Nat.zero_add,h.cellAt (i*2+1) (by omega),(pcells_at p i hi).2]
structure Off (g:Nat) (w w':World):Prop where
 os:w'.os=w.os
 tape:w'.tape=w.tape
 output:w'.output=w.output
 size:w.heap.size≤w'.heap.size
 block:∀k,k<w.heap.size→k≠g→w'.heap[k]?=w.heap[k]?
theorem Off.refl (g:Nat) (w:World):Off g w w:=⟨rfl,rfl,rfl,lRf,fun _ _ _=>rfl⟩
theorem Off.of {g:Nat} {w w':World} (h:Below w.heap.size w w'):Off g w w':=⟨h.os,h.tape,h.output,h.size,fun k hk _=>h.block k hk⟩
theorem Off.trans {g:Nat} {w w1 w2:World} (h:Off g w w1) (k:Off g w1 w2):Off g w w2:=
 ⟨k.os.trans h.os,k.tape.trans h.tape,k.output.trans h.output,Nat.le_trans h.size k.size,fun b hb hg=>(k.block b (Nat.lt_of_lt_of_le hb h.size) hg).trans (h.block b hb hg)⟩
theorem Off.below {g B:Nat} {w w':World} (h:Off g w w') (hB:B≤g) (hz:B≤w.heap.size):Below B w w':=⟨h.os,h.tape,h.output,h.size,fun k hk=>h.block k (by omega) (by omega)⟩
theorem Off.set {g:Nat} {w w':World} (h:Off g w w') (o:Nat) (v:Value):Off g w (w'.setCell ⟨g,o,none⟩ v):=by
 have hb:Below g w' (w'.setCell ⟨g,o,none⟩ v):=(Below.refl g w').setCell lRf v;refine⟨hb.os.trans h.os,hb.tape.trans h.tape,hb.output.trans h.output,Nat.le_trans h.size hb.size,fun k hk hg=>?_⟩;rw[Below.heap_setCell _ _ _ _ hg];exact h.block k hk hg
theorem Off.heap {g b:Nat} {w w':World} {o:Obj} (h:Off g w w') (hb:w.heap[b]?=some o) (hne:b≠g):w'.heap[b]?=some o:=by
 have hlt:b<w.heap.size:=by
  rcases Nat.lt_or_ge b w.heap.size with h1 | h1
  ·exact h1
  ·rw[Array.getElem?_eq_none h1] at hb;cases hb
 rw[h.block b hlt hne];exact hb
theorem own_off {B e s n g:Nat} {T:TypeId} {cs:Array Value} {w w':World} {v:Value} {xs:List Value} (h:w.ownsRow B e s v n xs) (hg:w.heap[g]?=some (.cells cs T)) (hT:T≠e) (ho:Off g w w'):w'.ownsRow B e s v n xs:=by
 refine⟨h.1,?_⟩;rcases h.2 with h0 | ⟨b,cap,cur,h1,h2,h3,h4⟩
 ·exact Or.inl h0
 ·refine Or.inr ⟨b,cap,cur,h1,h2,ho.heap h3 ?_,h4⟩;rintro rfl;rw[hg] at h3;injection h3 with h3
  injection h3 with _ h3 _
  exact hT h3
end Go.Proofs.YtamhlgflbacjgaaGreat
namespace Go.Proofs.YtamhlgflbacjgaaGreat
open Go.RowKit Go.Maps
theorem laidOut:laidOutB Tryz.prog=true:=by kernel_rfl
theorem refRow:(45:TypeId)<Tryz.prog.types.size:=of_decide_eq_true (by kernel_rfl)
theorem refWide:(match Tryz.prog.underlying 45 with | some (.array _ _) | some (.struct _)=>true | _=>false)=true:=by rw[Tryz.underlying45]
theorem refLaw:Keyed Tryz.prog 45:=Keyed.of_law (deep_law_laid laidOut (m:=2) (by omega) refRow (by kernel_rfl) refWide)
theorem refCells:Tryz.prog.cellsOf 45=2:=by kernel_rfl
theorem cells3:Tryz.prog.cellsOf 3=1:=by kernel_rfl
theorem typesN:Tryz.prog.types.size=207:=by kernel_rfl
theorem refKey:Tryz.prog.keyType 45=true:=by kernel_rfl
abbrev refV (r:Pr):Value:=.agg #[.int .i64 r.1,.int .i64 r.2]
abbrev R64 (r:Pr):Prop:=I64 r.1∧I64 r.2
def refL (r:Pr):Lit:=.string (keyBytes [.int .i64 r.1,.int .i64 r.2])
theorem wf64 {x:Int} (h:I64 x):(Lit.int .i64 x).wf=true:=by
 unfold I64 at h;simp[Lit.wf,IntKind.min,IntKind.max,IntKind.bits,IntKind.signed];omega
theorem of_wf64 {x:Int} (h:(Lit.int .i64 x).wf=true):I64 x:=by
 simp[Lit.wf,IntKind.min,IntKind.max,IntKind.bits,IntKind.signed] at h;unfold I64;omega
theorem keyLits3 (d:Nat) {x:Int} (h:I64 x):Tryz.prog.keyLits (d+1) 3 [.int .i64 x]=some [.int .i64 x]:=by
 unfold Program.keyLits;rw[Tryz.underlying3];simp[wf64 h]
theorem keyLitsR (d:Nat) {r:Pr} (h:R64 r):Tryz.prog.keyLits (d+2) 45 [.int .i64 r.1,.int .i64 r.2]=some [.int .i64 r.1,.int .i64 r.2]:=by
 have h1:=keyLits3 d h.1;have h2:=keyLits3 d h.2;unfold Program.keyLits;rw[Tryz.underlying45];simp only[refCells];simp[cells3,h1,h2]
theorem keyOf_ref {r:Pr} (h:R64 r):keyOf Tryz.prog 45 (refV r)=some (refL r):=by
 have f:(refV r).formed Tryz.prog 45=true:=by simp[Value.formed,Tryz.underlying45,refCells]
 obtain⟨d,hd⟩:∃d,Tryz.prog.types.size+1=d+2:=⟨207 - 1,by rw[typesN]⟩
 have e:(refV r).cells.toList=[.int .i64 r.1,.int .i64 r.2]:=rfl;unfold keyOf;rw[Tryz.underlying45];simp only[refKey,f,Bool.and_self,if_true,hd,e,keyLitsR d h,Option.map_some];rfl
theorem refL_inj {r s:Pr} (hr:R64 r) (hs:R64 s) (h:refL r=refL s):r=s:=by
 have:=refLaw.inj (keyOf_ref hr) (by rw[h];exact keyOf_ref hs);simp at this;exact Prod.ext this.1 this.2
theorem refL_key (r:Pr):WideAt.IsKeyLit (refL r):=trivial
theorem keyLits3_inv {d:Nat} {cs:List Value} {ls:List Lit} (h:Tryz.prog.keyLits (d+1) 3 cs=some ls):∃x,cs=[.int .i64 x]∧I64 x:=by
 unfold Program.keyLits at h;rw[Tryz.underlying3] at h
 match cs,h with
 | [],h=>simp at h
 | [v],h=>
  cases v <;> simp at h
  obtain⟨⟨rfl,hw⟩,_⟩:=h;exact⟨_,rfl,of_wf64 hw⟩
 | a::b::c,h=>simp at h
theorem keyOf_inv {v:Value} {l:Lit} (h:keyOf Tryz.prog 45 v=some l):∃r:Pr,v=refV r∧l=refL r∧R64 r:=by
 have h0:=h;unfold keyOf at h;rw[Tryz.underlying45] at h;simp only[refKey,Bool.true_and] at h;split at h
 ·rename_i f;cases v <;> simp[Value.formed,Tryz.underlying45] at f
  rename_i cs;rw[refCells] at f;obtain⟨d,hd⟩:∃d,Tryz.prog.types.size+1=d+2:=⟨207 - 1,by rw[typesN]⟩
  rw[hd,Option.map_eq_some_iff] at h;obtain⟨ls,h,_⟩:=h;obtain⟨cl⟩:=cs
  match cl,f with
  | [a,b],_=>
   unfold Program.keyLits at h;rw[Tryz.underlying45] at h;simp[refCells,cells3,Value.cells] at h;cases ha:Tryz.prog.keyLits (d+1) 3 [a] with
   | none=>simp[ha] at h
   | some la=>
    cases hb:Tryz.prog.keyLits (d+1) 3 [b] with
    | none=>simp[ha,hb] at h
    | some lb=>
     obtain⟨x,ex,hx⟩:=keyLits3_inv ha;obtain⟨y,ey,hy⟩:=keyLits3_inv hb;simp at ex ey;subst ex ey;refine⟨(x,y),rfl,?_,hx,hy⟩;have:=keyOf_ref (r:=(x,y)) ⟨hx,hy⟩;rw[h0] at this;exact Option.some.inj this
 ·cases h
end Go.Proofs.YtamhlgflbacjgaaGreat
