/- The contract of what is made shorter of the reference of layer 2. -/
import Derived.Test.YtgmhalcofcokbaaVecj
namespace Go.Proofs.Ytgmhalcofcokbaa
open Go.RowKit
set_option linter.unusedVariables false
theorem rlen_cnt (a b : Int) (w : World) (ha : Fx.I64 a) (hb : Fx.I64 b) :
    Calls Try.prog 26 #[.agg #[.int .i64 (Fx.cnt a), .int .i64 (Fx.cnt b)]] w fun e w' => e = .returned (.int .i64 (Fx.lenS a b)) ∧ Below w.heap.size w w' := by
  have h := rlen_any (Fx.cnt a) (Fx.cnt b) w (Fx.cnt_i64 ha) (Fx.cnt_i64 hb)
  rw [Fx.lenS_cnt ha hb] at h
  exact h
end Go.Proofs.Ytgmhalcofcokbaa
