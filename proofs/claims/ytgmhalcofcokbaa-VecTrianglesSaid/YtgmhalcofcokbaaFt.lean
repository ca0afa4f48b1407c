/- Lengths as roots up to a bound; three, four, five. -/
import Derived.Test.YtgmhalcofcokbaaFu
namespace Go.Proofs.Ytgmhalcofcokbaa.Fx
set_option linter.unusedVariables false
theorem lenS_upto {a b : Int} (ha : I64 a) (hb : I64 b) : IsRootUpto (SQ a b) 9223372036854775807 (lenS a b) := by
  have hs := SQ_bd ha hb
  have hr := rootS_root hs.1
  have hl := lenS_bd ha hb
  unfold lenS at hl ⊢
  split
  · rename_i hc
    refine ⟨by omega, by omega, ?_, .inr rfl⟩
    have := sq_le (a := 9223372036854775807) (b := rootS (SQ a b)) (by omega) (by omega)
    have := hr.lo
    omega
  · rename_i hc
    exact ⟨hr.R0, by omega, hr.lo, .inl hr.hi⟩
theorem len_five : lenS 196608 262144 = 327680 := by
  have h : rootS (SQ 196608 262144) = 327680 := rootS_of ⟨by omega, by decide, by decide⟩
  unfold lenS; rw [h]; rfl
end Go.Proofs.Ytgmhalcofcokbaa.Fx
