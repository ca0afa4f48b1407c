/- The contracts of the roots of package fixed and of the reference of layer 1, and of the statements' own small call. -/
import Derived.Test.YtgmhalcofcokbaaFixg
import Derived.Test.YtgmhalcofcokbaaFixh
import Derived.Test.YtgmhalcofcokbaaFz
namespace Go.Proofs.Ytgmhalcofcokbaa
open Go.RowKit
set_option linter.unusedVariables false
theorem root_as (h l p S : Int) (w : World) (p0 : Fx.Hd (0 ≤ p ∧ p < 340282366920938463463374607431768211456)) (e : Fx.Hd (h = p / 18446744073709551616 ∧ l = p % 18446744073709551616)) (hS : Fx.Hd (Fx.IsRoot p S)) :
    Calls Try.prog 34 #[.agg #[.int .u64 h, .int .u64 l]] w fun e w' => e = .returned (.int .u64 S) ∧ Below w.heap.size w w' := by
  obtain ⟨⟨rfl, rfl⟩⟩ := e
  have := p0.out
  exact root_any _ _ S w (by omega) (by omega) (by omega) (by omega) (by rw [Fx.dT_div]; exact hS.out)
theorem rroot_as (h l p m S : Int) (w : World) (p0 : Fx.Hd (0 ≤ p ∧ p < 340282366920938463463374607431768211456)) (e : Fx.Hd (h = p / 18446744073709551616 ∧ l = p % 18446744073709551616)) (m0 : 0 ≤ m) (m1 : m ≤ 9223372036854775807) (hm : S ≤ m) (hS : Fx.Hd (Fx.IsRoot p S)) :
    Calls Try.prog 39 #[.agg #[.int .u64 h, .int .u64 l], .int .u64 m] w fun e w' => e = .returned (.int .u64 S) ∧ Below w.heap.size w w' := by
  obtain ⟨⟨rfl, rfl⟩⟩ := e
  have := p0.out
  exact rroot_any _ _ m S w (by omega) (by omega) (by omega) (by omega) m0 m1 (by rw [Fx.dT_div]; exact hS.out) hm
end Go.Proofs.Ytgmhalcofcokbaa
