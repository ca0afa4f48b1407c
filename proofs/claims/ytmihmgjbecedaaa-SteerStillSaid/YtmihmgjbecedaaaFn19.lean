/- Plain arithmetic of layer 19. -/
import Derived.Test.YtmihmgjbecedaaaFo
namespace Go.Proofs.Ytmihmgjbecedaaa.Fx
noncomputable def towX (x y u v k : Int) : Int := clampX (subS u x) (subS v y) k
noncomputable def towY (x y u v k : Int) : Int := clampY (subS u x) (subS v y) k
theorem len_65536 : lenS 327680 0 = 327680 := by
  unfold lenS
  rw [rootS_of (R := 327680) ⟨by decide, by decide, by decide⟩]
  decide
theorem tow_wakes : towX 0 0 327680 0 65536 = 65536 ∧ towY 0 0 327680 0 65536 = 0 := by
  have h1 : subS 327680 0 = 327680 := by decide
  have h2 : subS 0 0 = 0 := by decide
  unfold towX towY
  rw [h1, h2]
  unfold clampX clampY
  rw [len_65536]
  decide
end Go.Proofs.Ytmihmgjbecedaaa.Fx
