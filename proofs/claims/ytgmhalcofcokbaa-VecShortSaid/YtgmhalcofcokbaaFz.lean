/- The root of a fixed number, as a number. -/
import Derived.Test.YtgmhalcofcokbaaFy
namespace Go.Proofs.Ytgmhalcofcokbaa.Fx
set_option linter.unusedVariables false
/-- The square that a root is of. -/
def under (a : Int) : Int := if a < 0 then 0 else a * 65536
theorem under_nonneg (a : Int) : 0 ≤ under a := by unfold under; split <;> omega
noncomputable def sqrtS (a : Int) : Int := Classical.choose (root_ex (under_nonneg a))
theorem sqrtS_root (a : Int) : IsRoot (under a) (sqrtS a) := Classical.choose_spec (root_ex (under_nonneg a))
theorem sqrtS_of {a S : Int} (h : IsRoot (under a) S) : sqrtS a = S := (sqrtS_root a).uniq h
theorem sqrtS_neg {a : Int} (h : a < 0) : sqrtS a = 0 := sqrtS_of (by unfold under; rw [if_pos h]; exact ⟨by omega, by omega, by omega⟩)
theorem sqrtS_zero : sqrtS 0 = 0 := sqrtS_of ⟨by omega, by decide, by decide⟩
theorem sqrtS_bd {a : Int} (h : I64 a) : 0 ≤ sqrtS a ∧ sqrtS a ≤ 1099511627775 := by
  have hr := sqrtS_root a
  refine ⟨hr.R0, ?_⟩
  have hu : under a < 1208925819614629174706176 := by unfold I64 at h; unfold under; split <;> omega
  have h2 : sqrtS a * sqrtS a < 1099511627776 * 1099511627776 := by have := hr.lo; omega
  have := sq_lt hr.R0 h2 (by omega)
  omega
theorem sqrtS_four : sqrtS 262144 = 131072 := sqrtS_of ⟨by omega, by decide, by decide⟩
theorem mulS_nine : mulS 98304 98304 = 147456 := by decide
end Go.Proofs.Ytgmhalcofcokbaa.Fx
