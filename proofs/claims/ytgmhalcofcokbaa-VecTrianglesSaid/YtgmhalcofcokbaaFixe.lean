/- The contract of fixed.quotient, the end of products and quotients: rounded towards minus infinity, cut off at Most. -/
import Derived.Test.YtgmhalcofcokbaaFixb
import Derived.Test.YtgmhalcofcokbaaFixc
import Derived.Test.YtgmhalcofcokbaaFixd
namespace Go.Proofs.Ytgmhalcofcokbaa
open Go.RowKit
set_option linter.unusedVariables false
theorem wdiv_any (h l b : Int) (w : World) (h0 : 0 ≤ h) (h1 : h ≤ 18446744073709551615) (l0 : 0 ≤ l) (l1 : l ≤ 18446744073709551615) (b0 : 1 ≤ b) (b1 : b ≤ 9223372036854775808) :
    Calls Try.prog 47 #[.agg #[.int .u64 h, .int .u64 l], .int .u64 b] w fun e w' => e = .returned (.tuple #[.agg #[.int .u64 (Fx.dT h l / b / 18446744073709551616), .int .u64 (Fx.dT h l / b % 18446744073709551616)], .int .u64 (Fx.dT h l % b)]) ∧ Below w.heap.size w w' := by
  by_cases hr : h % b = 0
  · exact wdiv_even h l b w h0 h1 l0 l1 b0 b1 hr
  · exact wdiv_rest h l b w h0 h1 l0 l1 b0 b1 hr
theorem wdiv_as (h l b q1 q2 r : Int) (w : World) (h0 : 0 ≤ h) (h1 : h ≤ 18446744073709551615) (l0 : 0 ≤ l) (l1 : l ≤ 18446744073709551615) (b0 : 1 ≤ b) (b1 : b ≤ 9223372036854775808)
    (e : Fx.Hd (q1 = Fx.dT h l / b / 18446744073709551616 ∧ q2 = Fx.dT h l / b % 18446744073709551616 ∧ r = Fx.dT h l % b)) :
    Calls Try.prog 47 #[.agg #[.int .u64 h, .int .u64 l], .int .u64 b] w fun e w' => e = .returned (.tuple #[.agg #[.int .u64 q1, .int .u64 q2], .int .u64 r]) ∧ Below w.heap.size w w' := by
  obtain ⟨⟨rfl, rfl, rfl⟩⟩ := e
  exact wdiv_any h l b w h0 h1 l0 l1 b0 b1
theorem wadd_one (a b x y : Int) (w : World) (ha : 0 ≤ a) (hb : 0 ≤ b) (hb' : b ≤ 18446744073709551615) (hs : a < 18446744073709551615)
    (e : Fx.Hd (x = a + (b + 1) / 18446744073709551616 ∧ y = (b + 1) % 18446744073709551616)) :
    Calls Try.prog 49 #[.agg #[.int .u64 a, .int .u64 b], .agg #[.int .u64 0, .int .u64 1]] w fun e w' => e = .returned (.agg #[.int .u64 x, .int .u64 y]) ∧ Below w.heap.size w w' := by
  obtain ⟨⟨rfl, rfl⟩⟩ := e
  have h := wadd_any a b 0 1 w ha hb (by omega) (by omega) hb' (by omega) (by omega)
  rw [Int.add_zero] at h
  exact h
end Go.Proofs.Ytgmhalcofcokbaa
