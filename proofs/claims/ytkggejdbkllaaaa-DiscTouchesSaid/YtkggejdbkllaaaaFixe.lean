/- The contract of fixed.quotient, the end of products and quotients: rounded towards minus infinity, cut off at Most. -/
import Derived.Test.YtkggejdbkllaaaaFixb
import Derived.Test.YtkggejdbkllaaaaFixc
import Derived.Test.YtkggejdbkllaaaaFixd
namespace Go.Proofs.Ytkggejdbkllaaaa
open Go.RowKit
set_option linter.unusedVariables false
theorem wadd_one (a b x y : Int) (w : World) (ha : 0 ≤ a) (hb : 0 ≤ b) (hb' : b ≤ 18446744073709551615) (hs : a < 18446744073709551615)
    (e : Fx.Hd (x = a + (b + 1) / 18446744073709551616 ∧ y = (b + 1) % 18446744073709551616)) :
    Calls Try.prog 66 #[.agg #[.int .u64 a, .int .u64 b], .agg #[.int .u64 0, .int .u64 1]] w fun e w' => e = .returned (.agg #[.int .u64 x, .int .u64 y]) ∧ Below w.heap.size w w' := by
  obtain ⟨⟨rfl, rfl⟩⟩ := e
  have h := wadd_any a b 0 1 w ha hb (by omega) (by omega) hb' (by omega) (by omega)
  rw [Int.add_zero] at h
  exact h
end Go.Proofs.Ytkggejdbkllaaaa
