/- The contracts of package fixed at the constants that the statements of layer 1 name. -/
import Derived.Test.YtdammgpflfoppabFixi
import Derived.Test.YtdammgpflfoppabFv
namespace Go.Proofs.Ytdammgpflfoppab
open Go.RowKit
set_option linter.unusedVariables false
theorem k_add (w : World) : Calls Try.prog 63 #[.int .i64 9223372036854775807, .int .i64 1] w fun e w' => e = .returned (.int .i64 9223372036854775807) ∧ w = w' := by
  have h := add_any 9223372036854775807 1 w (by unfold Fx.I64; omega) (by unfold Fx.I64; omega)
  rw [show Fx.addS 9223372036854775807 1 = 9223372036854775807 by decide] at h
  exact h
theorem k_sub (w : World) : Calls Try.prog 65 #[.int .i64 (-9223372036854775807), .int .i64 1] w fun e w' => e = .returned (.int .i64 (-9223372036854775807)) ∧ w = w' := by
  have h := sub_any (-9223372036854775807) 1 w (by unfold Fx.I64; omega) (by unfold Fx.I64; omega)
  rw [show Fx.subS (-9223372036854775807) 1 = (-9223372036854775807) by decide] at h
  exact h
theorem k_neg (w : World) : Calls Try.prog 62 #[.int .i64 (-9223372036854775808)] w fun e w' => e = .returned (.int .i64 9223372036854775807) ∧ w = w' := by
  have h := neg_any (-9223372036854775808) w (by unfold Fx.I64; omega)
  rw [show Fx.negS (-9223372036854775808) = 9223372036854775807 by decide] at h
  exact h
theorem k_mul1 (w : World) : Calls Try.prog 64 #[.int .i64 9223372036854775807, .int .i64 131072] w fun e w' => e = .returned (.int .i64 9223372036854775807) ∧ Below w.heap.size w w' := by
  have h := mul_any 9223372036854775807 131072 w (by unfold Fx.I64; omega) (by unfold Fx.I64; omega)
  rw [show Fx.mulS 9223372036854775807 131072 = 9223372036854775807 by decide] at h
  exact h
theorem k_mul2 (w : World) : Calls Try.prog 64 #[.int .i64 9223372036854775807, .int .i64 (-131072)] w fun e w' => e = .returned (.int .i64 (-9223372036854775807)) ∧ Below w.heap.size w w' := by
  have h := mul_any 9223372036854775807 (-131072) w (by unfold Fx.I64; omega) (by unfold Fx.I64; omega)
  rw [show Fx.mulS 9223372036854775807 (-131072) = (-9223372036854775807) by decide] at h
  exact h
theorem k_cmp (w : World) : Calls Try.prog 56 #[.int .i64 (-9223372036854775808), .int .i64 (-9223372036854775807)] w fun e w' => e = .returned (.int .i64 0) ∧ w = w' := by
  have h := cmp_any (-9223372036854775808) (-9223372036854775807) w (by unfold Fx.I64; omega) (by unfold Fx.I64; omega)
  rw [show Fx.cmpS (-9223372036854775808) (-9223372036854775807) = 0 by decide] at h
  exact h
theorem k_mul3 (w : World) : Calls Try.prog 64 #[.int .i64 (-1), .int .i64 1] w fun e w' => e = .returned (.int .i64 (-1)) ∧ Below w.heap.size w w' := by
  have h := mul_any (-1) 1 w (by unfold Fx.I64; omega) (by unfold Fx.I64; omega)
  rw [show Fx.mulS (-1) 1 = (-1) by decide] at h
  exact h
end Go.Proofs.Ytdammgpflfoppab
