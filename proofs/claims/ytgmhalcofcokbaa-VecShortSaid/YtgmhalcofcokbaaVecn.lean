/- The contracts of nearness and length at what VecSquares names. -/
import Derived.Test.YtgmhalcofcokbaaVecg
import Derived.Test.YtgmhalcofcokbaaFq
namespace Go.Proofs.Ytgmhalcofcokbaa
open Go.RowKit
set_option linter.unusedVariables false
theorem within_as (a b c d r : Int) (g : Bool) (w : World) (ha : Fx.I64 a) (hb : Fx.I64 b) (hc : Fx.I64 c) (hd : Fx.I64 d) (hr : Fx.I64 r) (G : Fx.Hd (Fx.withinS a b c d r = g)) :
    Calls Try.prog 12 #[.agg #[.int .i64 a, .int .i64 b], .agg #[.int .i64 c, .int .i64 d], .int .i64 r] w fun e w' => e = .returned (.bool g) ∧ Below w.heap.size w w' := by
  obtain ⟨rfl⟩ := G
  exact within_any a b c d r w ha hb hc hd hr
theorem k_len1 (w : World) : Calls Try.prog 8 #[.agg #[.int .i64 (-3), .int .i64 (-4)]] w fun e w' => e = .returned (.int .i64 5) ∧ Below w.heap.size w w' := by
  have h := len_any (-3) (-4) w (by unfold Fx.I64; omega) (by unfold Fx.I64; omega)
  rw [Fx.len_three] at h
  exact h
theorem k_len2 (w : World) : Calls Try.prog 8 #[.agg #[.int .i64 9223372036854775807, .int .i64 9223372036854775807]] w fun e w' => e = .returned (.int .i64 9223372036854775807) ∧ Below w.heap.size w w' := by
  have h := len_any 9223372036854775807 9223372036854775807 w (by unfold Fx.I64; omega) (by unfold Fx.I64; omega)
  rw [Fx.len_most] at h
  exact h
end Go.Proofs.Ytgmhalcofcokbaa
