/- Nearness, as a truth. -/
import Derived.Test.YtgmhalcofcokbaaFt
namespace Go.Proofs.Ytgmhalcofcokbaa.Fx
set_option linter.unusedVariables false
def withinS (a b c d r : Int) : Bool := decide (0 ≤ r) && decide (SQ (subS a c) (subS b d) < r * r)
theorem sub_self {a : Int} (h : I64 a) : subS a a = 0 := by
  have h1 := cnt_bd h
  unfold subS addS negS
  rw [cnt_in (x := -cnt a) (by omega), show cnt a + -cnt a = 0 by omega]
  decide
theorem SQ_zero : SQ 0 0 = 0 := by decide
theorem within_zero {a b c d : Int} : withinS a b c d 0 = false := by
  have h1 : 0 ≤ SQ (subS a c) (subS b d) := by
    unfold SQ
    have := Int.mul_nonneg (sz_bd (sub_i64 a c)).1 (sz_bd (sub_i64 a c)).1
    have := Int.mul_nonneg (sz_bd (sub_i64 b d)).1 (sz_bd (sub_i64 b d)).1
    omega
  unfold withinS
  rw [decide_eq_false (p := SQ (subS a c) (subS b d) < 0 * 0) (by omega)]
  simp
theorem within_self {a b : Int} (ha : I64 a) (hb : I64 b) : withinS a b a b 1 = true := by
  unfold withinS; rw [sub_self ha, sub_self hb, SQ_zero]; decide
end Go.Proofs.Ytgmhalcofcokbaa.Fx
