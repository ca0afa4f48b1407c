/- The contracts of the order of ways of package vec and of the reference. -/
import Derived.Test.YtgmhalcofcokbaaVecg
namespace Go.Proofs.Ytgmhalcofcokbaa
open Go.RowKit
set_option linter.unusedVariables false
theorem Fx.vless_not (a b c d : Int) (h : Fx.vlessS a b c d = true) : Fx.vlessS c d a b = false := by
  have e1 := Fx.cmp_flip a c
  have e2 := Fx.cmp_flip b d
  unfold Fx.vlessS at *
  simp at h ⊢
  omega
theorem Fx.vless_self (a b : Int) : Fx.vlessS a b a b = false := by
  unfold Fx.vlessS; rw [Fx.cmp_self, Fx.cmp_self]; decide
end Go.Proofs.Ytgmhalcofcokbaa
