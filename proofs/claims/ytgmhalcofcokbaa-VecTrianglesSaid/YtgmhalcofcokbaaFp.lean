/- Ways turned round, scaled by One and by nothing. -/
import Derived.Test.YtgmhalcofcokbaaFq
namespace Go.Proofs.Ytgmhalcofcokbaa.Fx
set_option linter.unusedVariables false
def Mid (X : Int) : Prop := -2305843009213693952 ≤ X ∧ X ≤ 2305843009213693952
theorem Mid.i64 {X : Int} (h : Mid X) : I64 X := by unfold Mid at h; unfold I64; omega
theorem Mid.neg {X : Int} (h : Mid X) : Mid (-X) := by unfold Mid at *; omega
theorem Mid.cnt {X : Int} (h : Mid X) : Fx.cnt X = X := by unfold Mid at h; exact cnt_in (by omega)
theorem neg_mid {X : Int} (h : Mid X) : negS X = -X := by unfold negS; rw [h.cnt]
theorem add_neg_mid {X : Int} (h : Mid X) : addS X (-X) = 0 := by
  unfold addS; rw [h.cnt, h.neg.cnt, show X + -X = 0 by omega]; decide
theorem mul_one_mid {X : Int} (h : Mid X) : mulS X 65536 = X := by rw [mul_one h.i64, h.cnt]
theorem mul_zero_mid {X : Int} (h : Mid X) : mulS X 0 = 0 := by
  rw [mulS_floor h.i64 (by unfold I64; omega), show Fx.cnt 0 = 0 by decide, Int.mul_zero]; decide
theorem sz_neg {X : Int} (h : Mid X) : sz (-X) = sz X := by
  unfold sz; rw [h.cnt, h.neg.cnt]; split <;> split <;> omega
theorem len_neg {X Y : Int} (hX : Mid X) (hY : Mid Y) : lenS (-X) (-Y) = lenS X Y := by
  unfold lenS SQ; rw [sz_neg hX, sz_neg hY]
theorem len_turn {X Y : Int} (hX : Mid X) : lenS Y (-X) = lenS X Y := by
  unfold lenS SQ; rw [sz_neg hX, Int.add_comm]
theorem small_ge {X Y : Int} (hX : -1073741824 < X ∧ X < 1073741824) (hY : -1073741824 < Y ∧ Y < 1073741824) : X ≤ lenS X Y ∧ -X ≤ lenS X Y ∧ Y ≤ lenS X Y ∧ -Y ≤ lenS X Y := by
  obtain ⟨n0, n1, n2, n3, n4, n5⟩ := small_len hX hY
  obtain ⟨_, x0, x1⟩ := sz_sq hX
  obtain ⟨_, y0, y1⟩ := sz_sq hY
  have a1 : X < lenS X Y + 1 := by
    rcases Int.lt_or_le X 0 with h | h
    · omega
    · exact sq_lt h (by omega) (by omega)
  have a2 : -X < lenS X Y + 1 := by
    rcases Int.lt_or_le (-X) 0 with h | h
    · omega
    · exact sq_lt h (by rw [Int.neg_mul_neg]; omega) (by omega)
  have a3 : Y < lenS X Y + 1 := by
    rcases Int.lt_or_le Y 0 with h | h
    · omega
    · exact sq_lt h (by omega) (by omega)
  have a4 : -Y < lenS X Y + 1 := by
    rcases Int.lt_or_le (-Y) 0 with h | h
    · omega
    · exact sq_lt h (by rw [Int.neg_mul_neg]; omega) (by omega)
  omega
end Go.Proofs.Ytgmhalcofcokbaa.Fx
