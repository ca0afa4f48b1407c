/- The contracts of package fixed at the constants that the statements of layer 1 name. -/
import Derived.Test.YtgmhalcofcokbaaFixi
import Derived.Test.YtgmhalcofcokbaaFv
namespace Go.Proofs.Ytgmhalcofcokbaa
open Go.RowKit
set_option linter.unusedVariables false
theorem k_add (w : World) : Calls Try.prog 46 #[.int .i64 9223372036854775807, .int .i64 1] w fun e w' => e = .returned (.int .i64 9223372036854775807) ∧ w = w' := by
  have h := add_any 9223372036854775807 1 w (by unfold Fx.I64; omega) (by unfold Fx.I64; omega)
  rw [show Fx.addS 9223372036854775807 1 = 9223372036854775807 by decide] at h
  exact h
theorem k_sub (w : World) : Calls Try.prog 36 #[.int .i64 (-9223372036854775807), .int .i64 1] w fun e w' => e = .returned (.int .i64 (-9223372036854775807)) ∧ w = w' := by
  have h := sub_any (-9223372036854775807) 1 w (by unfold Fx.I64; omega) (by unfold Fx.I64; omega)
  rw [show Fx.subS (-9223372036854775807) 1 = (-9223372036854775807) by decide] at h
  exact h
theorem k_neg (w : World) : Calls Try.prog 50 #[.int .i64 (-9223372036854775808)] w fun e w' => e = .returned (.int .i64 9223372036854775807) ∧ w = w' := by
  have h := neg_any (-9223372036854775808) w (by unfold Fx.I64; omega)
  rw [show Fx.negS (-9223372036854775808) = 9223372036854775807 by decide] at h
  exact h
end Go.Proofs.Ytgmhalcofcokbaa
