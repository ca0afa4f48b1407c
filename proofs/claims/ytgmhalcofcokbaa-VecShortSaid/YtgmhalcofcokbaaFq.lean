/- Small ways: lengths, nearness. -/
import Derived.Test.YtgmhalcofcokbaaFrp
namespace Go.Proofs.Ytgmhalcofcokbaa.Fx
set_option linter.unusedVariables false
theorem sz_sq {X : Int} (h : -1073741824 < X ∧ X < 1073741824) : sz X * sz X = X * X ∧ 0 ≤ X * X ∧ X * X ≤ 1152921504606846976 := by
  have hb := (mul_small h h).1
  have h0 : 0 ≤ X * X := by
    rcases Int.le_total 0 X with hx | hx
    · exact Int.mul_nonneg hx hx
    · exact Int.mul_nonneg_of_nonpos_of_nonpos hx hx
  refine ⟨?_, h0, hb.2⟩
  unfold sz; rw [cnt_in (by omega)]; split
  · exact Int.neg_mul_neg X X
  · rfl
theorem small_len {X Y : Int} (hX : -1073741824 < X ∧ X < 1073741824) (hY : -1073741824 < Y ∧ Y < 1073741824) :
    (0 ≤ lenS X Y ∧ lenS X Y ≤ 2147483648) ∧ lenS X Y * lenS X Y ≤ X * X + Y * Y ∧ X * X + Y * Y < (lenS X Y + 1) * (lenS X Y + 1) ∧ 0 ≤ lenS X Y * lenS X Y ∧ 0 ≤ (lenS X Y + 1) * (lenS X Y + 1) ∧ (lenS X Y + 1) * (lenS X Y + 1) ≤ 9223372036854775807 := by
  obtain ⟨ex, x0, x1⟩ := sz_sq hX
  obtain ⟨ey, y0, y1⟩ := sz_sq hY
  have es : SQ X Y = X * X + Y * Y := by unfold SQ; rw [ex, ey]
  have hr := rootS_root (T := SQ X Y) (by omega)
  have hb : rootS (SQ X Y) < 2147483649 := sq_lt hr.R0 (by have := hr.lo; omega) (by omega)
  have el : lenS X Y = rootS (SQ X Y) := by unfold lenS; rw [if_neg (by omega)]
  rw [el]
  have h1 := hr.lo
  have h2 := hr.hi
  have h0 := hr.R0
  have h3 := Int.mul_nonneg h0 h0
  have h4 : (rootS (SQ X Y) + 1) * (rootS (SQ X Y) + 1) = rootS (SQ X Y) * rootS (SQ X Y) + 2 * rootS (SQ X Y) + 1 := by rw [Int.add_mul, Int.mul_add]; omega
  omega
theorem small_within {X Y Z : Int} (hX : -1073741824 < X ∧ X < 1073741824) (hY : -1073741824 < Y ∧ Y < 1073741824) :
    withinS X 0 0 Y Z = (decide (0 ≤ Z) && decide (X * X + Y * Y < Z * Z)) := by
  obtain ⟨ex, x0, x1⟩ := sz_sq hX
  obtain ⟨ey, y0, y1⟩ := sz_sq hY
  obtain ⟨en, _, _⟩ := sz_sq (X := -Y) (by omega)
  have s1 : subS X 0 = X := by
    unfold subS addS negS
    rw [show cnt (-cnt 0) = 0 by decide, cnt_in (x := X) (by omega), Int.add_zero]; exact clamp_in (by omega)
  have s2 : subS 0 Y = -Y := by
    unfold subS addS negS
    rw [show cnt 0 = 0 by decide, cnt_in (x := Y) (by omega), cnt_in (x := -Y) (by omega), Int.zero_add]; exact clamp_in (by omega)
  unfold withinS SQ
  rw [s1, s2, ex, en, Int.neg_mul_neg]
theorem len_three : lenS (-3) (-4) = 5 := by
  have h : rootS (SQ (-3) (-4)) = 5 := rootS_of ⟨by omega, by decide, by decide⟩
  unfold lenS; rw [h]; rfl
theorem len_most : lenS 9223372036854775807 9223372036854775807 = 9223372036854775807 := by
  have hr := rootS_root (T := SQ 9223372036854775807 9223372036854775807) (by decide)
  have h1 : (9223372036854775808 : Int) * 9223372036854775808 ≤ SQ 9223372036854775807 9223372036854775807 := by decide
  have h2 := sq_lt (a := 9223372036854775808) (by omega) (Int.lt_of_le_of_lt h1 hr.hi) (by have := hr.R0; omega)
  unfold lenS; rw [if_pos (by omega)]
end Go.Proofs.Ytgmhalcofcokbaa.Fx
