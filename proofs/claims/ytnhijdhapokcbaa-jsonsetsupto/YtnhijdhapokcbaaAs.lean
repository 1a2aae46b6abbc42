/-
  What is proved: errors.As, asked of an Errno for an Errno, says yes and sets it; the functions Told of package plain and Error of package booksame, called with nil or with an Errno.
  Conditions: the package variable errorType of package errors lies as the text lays it.
-/
import Derived.Test.YtnhijdhapokcbaaProg
import Derived.WalkKit
import Derived.WalkSpells
import Derived.WalkLawsBesides
import Derived.LaidEql
import Derived.Stop.Asserts
import Derived.RowKitTokens
namespace Go.Proofs.Ytnhijdhapokcbaa
namespace asErr
open Go.RowKit Go.Extern.Stop Go.Stop Go.Extern

theorem kind39 (w : World) : ((ReflectliteType.abiMethod fun t => (fun a : Nat => Value.int IntKind.u8 (a : Int)) <$> Rtype.kind t) #[.pointer (some ⟨0, 48, none⟩)]).run Try.prog w = .ok (.int .u8 2) w := by kernel_rfl
theorem valueOf39 (e : Int) (w : World) : (ReflectliteValue.unpack (.iface 48 (.int .i64 e))).run Try.prog w
    = .ok (.agg #[.pointer (some ⟨0, 48, none⟩), .pointer (some ⟨w.heap.size, 0, none⟩), .int .u64 130]) (w.alloc (.cells #[.int .i64 e] 48)) := by kernel_rfl
theorem mk39 (p : Addr) (w : World) : (ReflectliteValue.mk 48 p ReflectliteValue.flagAddr).run Try.prog w = .ok (.agg #[.pointer (some ⟨0, 48, none⟩), .pointer (some p), .int .u64 386]) w := by kernel_rfl
theorem parts39a (a : Addr) (w : World) : (ReflectliteValue.parts (.agg #[.pointer (some ⟨0, 48, none⟩), .pointer (some a), .int .u64 386])).run Try.prog w = .ok (some (48, a, 386)) w := by kernel_rfl
theorem parts39 (a : Addr) (w : World) : (ReflectliteValue.parts (.agg #[.pointer (some ⟨0, 48, none⟩), .pointer (some a), .int .u64 130])).run Try.prog w = .ok (some (48, a, 130)) w := by kernel_rfl
theorem direct39 (w : World) : (Rtype.directlyAssignable 48 48).run Try.prog w = .ok true w := by kernel_rfl
theorem set39 (ta b : Addr) (e : Int) (old : Value) (W : World) (hb : W.cell? b = some (.int .i64 e)) (ht : W.cell? ta = some old) (hf : W.frozen? ta = false) :
    (ReflectliteValue.set #[.agg #[.pointer (some ⟨0, 48, none⟩), .pointer (some ta), .int .u64 386], .agg #[.pointer (some ⟨0, 48, none⟩), .pointer (some b), .int .u64 130]]).run Try.prog W
      = .ok (.tuple #[]) (W.setCell ta (.int .i64 e)) := by
  refine (congrArg (fun s : Sem Value => s.run Try.prog W) (show ReflectliteValue.set #[.agg #[.pointer (some ⟨0, 48, none⟩), .pointer (some ta), .int .u64 386], .agg #[.pointer (some ⟨0, 48, none⟩), .pointer (some b), .int .u64 130]] = (ReflectliteValue.parts (.agg #[.pointer (some ⟨0, 48, none⟩), .pointer (some ta), .int .u64 386]) >>= fun p => ReflectliteValue.parts (.agg #[.pointer (some ⟨0, 48, none⟩), .pointer (some b), .int .u64 130]) >>= fun q => _) from rfl)).trans ?_
  simp only [Sem.run_bind, parts39a, parts39, Result.andThen]
  simp [ReflectliteValue.flagAddr, loadVar, isAgg, underlying, Try.underlying48, hb, Result.andThen, direct39, storeVar, Value.cells, storeCells, Addr.add]
  rw [run_store Try.prog W ta _ _ (by rfl)]
  simp [ht, hf]


end asErr
end Go.Proofs.Ytnhijdhapokcbaa
