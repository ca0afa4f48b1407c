/- Plain arithmetic of layer 19: sums. -/
import Derived.Test.YtmihmgjbecedaaaFn19
namespace Go.Proofs.Ytmihmgjbecedaaa.Fx
open Go.RowKit
/-- The sum of the first k of a row. -/
def sumF (f : Nat → Int) : Nat → Int
  | 0 => 0
  | k + 1 => addS (sumF f k) (f k)
theorem sumF_i64 (f : Nat → Int) (k : Nat) : I64 (sumF f k) := by
  cases k
  · unfold sumF I64; omega
  · exact add_i64 _ _
theorem wrap_i64 (x : Int) : I64 (IntKind.i64.wrap x) := by
  unfold I64; simp [IntKind.wrap, IntKind.bits, IntKind.signed]; (try split) <;> omega
noncomputable def cohX (x y : Int) (n : Nat) (f g : Nat → Int) (k : Int) : Int := if n = 0 then 0 else towX x y (IntKind.i64.wrap ((sumF f n).tdiv n)) (IntKind.i64.wrap ((sumF g n).tdiv n)) k
noncomputable def cohY (x y : Int) (n : Nat) (f g : Nat → Int) (k : Int) : Int := if n = 0 then 0 else towY x y (IntKind.i64.wrap ((sumF f n).tdiv n)) (IntKind.i64.wrap ((sumF g n).tdiv n)) k
end Go.Proofs.Ytmihmgjbecedaaa.Fx
