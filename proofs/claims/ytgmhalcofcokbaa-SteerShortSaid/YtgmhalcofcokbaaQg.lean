import Derived.Test.YtgmhalcofcokbaaQf
import Derived.Test.YtgmhalcofcokbaaQe
/- Small ways: lengths, nearness. -/
namespace Go.Proofs.Ytgmhalcofcokbaa.Fx
set_option linter.unusedVariables false
theorem sz_sq {X : Int} (h : -1073741824 < X ∧ X < 1073741824) : sz X * sz X = X * X ∧ 0 ≤ X * X ∧ X * X ≤ 1152921504606846976 := by
  have hb := (mul_small h h).1
  have h0 : 0 ≤ X * X := by
    rcases Int.le_total 0 X with hx | hx
    · exact Int.mul_nonneg hx hx
    · exact Int.mul_nonneg_of_nonpos_of_nonpos hx hx
  refine ⟨?_, h0, hb.2⟩
  unfold sz; rw [cnt_in (by omega)]; split
  · exact Int.neg_mul_neg X X
  · rfl
theorem small_len {X Y : Int} (hX : -1073741824 < X ∧ X < 1073741824) (hY : -1073741824 < Y ∧ Y < 1073741824) :
    (0 ≤ lenS X Y ∧ lenS X Y ≤ 2147483648) ∧ lenS X Y * lenS X Y ≤ X * X + Y * Y ∧ X * X + Y * Y < (lenS X Y + 1) * (lenS X Y + 1) ∧ 0 ≤ lenS X Y * lenS X Y ∧ 0 ≤ (lenS X Y + 1) * (lenS X Y + 1) ∧ (lenS X Y + 1) * (lenS X Y + 1) ≤ 9223372036854775807 := by
  obtain ⟨ex, x0, x1⟩ := sz_sq hX
  obtain ⟨ey, y0, y1⟩ := sz_sq hY
  have es : SQ X Y = X * X + Y * Y := by unfold SQ; rw [ex, ey]
  have hr := rootS_root (T := SQ X Y) (by omega)
  have hb : rootS (SQ X Y) < 2147483649 := sq_lt hr.R0 (by have := hr.lo; omega) (by omega)
  have el : lenS X Y = rootS (SQ X Y) := by unfold lenS; rw [if_neg (by omega)]
  rw [el]
  have h1 := hr.lo
  have h2 := hr.hi
  have h0 := hr.R0
  have h3 := Int.mul_nonneg h0 h0
  have h4 : (rootS (SQ X Y) + 1) * (rootS (SQ X Y) + 1) = rootS (SQ X Y) * rootS (SQ X Y) + 2 * rootS (SQ X Y) + 1 := by rw [Int.add_mul, Int.mul_add]; omega
  omega
theorem small_within {X Y Z : Int} (hX : -1073741824 < X ∧ X < 1073741824) (hY : -1073741824 < Y ∧ Y < 1073741824) :
    withinS X 0 0 Y Z = (decide (0 ≤ Z) && decide (X * X + Y * Y < Z * Z)) := by
  obtain ⟨ex, x0, x1⟩ := sz_sq hX
  obtain ⟨ey, y0, y1⟩ := sz_sq hY
  obtain ⟨en, _, _⟩ := sz_sq (X := -Y) (by omega)
  have s1 : subS X 0 = X := by
    unfold subS addS negS
    rw [show cnt (-cnt 0) = 0 by decide, cnt_in (x := X) (by omega), Int.add_zero]; exact clamp_in (by omega)
  have s2 : subS 0 Y = -Y := by
    unfold subS addS negS
    rw [show cnt 0 = 0 by decide, cnt_in (x := Y) (by omega), cnt_in (x := -Y) (by omega), Int.zero_add]; exact clamp_in (by omega)
  unfold withinS SQ
  rw [s1, s2, ex, en, Int.neg_mul_neg]
theorem len_three : lenS (-3) (-4) = 5 := by
  have h : rootS (SQ (-3) (-4)) = 5 := rootS_of ⟨by omega, by decide, by decide⟩
  unfold lenS; rw [h]; rfl
theorem len_most : lenS 9223372036854775807 9223372036854775807 = 9223372036854775807 := by
  have hr := rootS_root (T := SQ 9223372036854775807 9223372036854775807) (by decide)
  have h1 : (9223372036854775808 : Int) * 9223372036854775808 ≤ SQ 9223372036854775807 9223372036854775807 := by decide
  have h2 := sq_lt (a := 9223372036854775808) (by omega) (Int.lt_of_le_of_lt h1 hr.hi) (by have := hr.R0; omega)
  unfold lenS; rw [if_pos (by omega)]
end Go.Proofs.Ytgmhalcofcokbaa.Fx
/- Ways turned round, scaled by One and by nothing. -/
namespace Go.Proofs.Ytgmhalcofcokbaa.Fx
set_option linter.unusedVariables false
def Mid (X : Int) : Prop := -2305843009213693952 ≤ X ∧ X ≤ 2305843009213693952
theorem Mid.i64 {X : Int} (h : Mid X) : I64 X := by unfold Mid at h; unfold I64; omega
theorem Mid.neg {X : Int} (h : Mid X) : Mid (-X) := by unfold Mid at *; omega
theorem Mid.cnt {X : Int} (h : Mid X) : Fx.cnt X = X := by unfold Mid at h; exact cnt_in (by omega)
theorem neg_mid {X : Int} (h : Mid X) : negS X = -X := by unfold negS; rw [h.cnt]
theorem add_neg_mid {X : Int} (h : Mid X) : addS X (-X) = 0 := by
  unfold addS; rw [h.cnt, h.neg.cnt, show X + -X = 0 by omega]; decide
theorem mul_one_mid {X : Int} (h : Mid X) : mulS X 65536 = X := by rw [mul_one h.i64, h.cnt]
theorem mul_zero_mid {X : Int} (h : Mid X) : mulS X 0 = 0 := by
  rw [mulS_floor h.i64 (by unfold I64; omega), show Fx.cnt 0 = 0 by decide, Int.mul_zero]; decide
theorem sz_neg {X : Int} (h : Mid X) : sz (-X) = sz X := by
  unfold sz; rw [h.cnt, h.neg.cnt]; split <;> split <;> omega
theorem len_neg {X Y : Int} (hX : Mid X) (hY : Mid Y) : lenS (-X) (-Y) = lenS X Y := by
  unfold lenS SQ; rw [sz_neg hX, sz_neg hY]
theorem len_turn {X Y : Int} (hX : Mid X) : lenS Y (-X) = lenS X Y := by
  unfold lenS SQ; rw [sz_neg hX, Int.add_comm]
theorem small_ge {X Y : Int} (hX : -1073741824 < X ∧ X < 1073741824) (hY : -1073741824 < Y ∧ Y < 1073741824) : X ≤ lenS X Y ∧ -X ≤ lenS X Y ∧ Y ≤ lenS X Y ∧ -Y ≤ lenS X Y := by
  obtain ⟨n0, n1, n2, n3, n4, n5⟩ := small_len hX hY
  obtain ⟨_, x0, x1⟩ := sz_sq hX
  obtain ⟨_, y0, y1⟩ := sz_sq hY
  have a1 : X < lenS X Y + 1 := by
    rcases Int.lt_or_le X 0 with h | h
    · omega
    · exact sq_lt h (by omega) (by omega)
  have a2 : -X < lenS X Y + 1 := by
    rcases Int.lt_or_le (-X) 0 with h | h
    · omega
    · exact sq_lt h (by rw [Int.neg_mul_neg]; omega) (by omega)
  have a3 : Y < lenS X Y + 1 := by
    rcases Int.lt_or_le Y 0 with h | h
    · omega
    · exact sq_lt h (by omega) (by omega)
  have a4 : -Y < lenS X Y + 1 := by
    rcases Int.lt_or_le (-Y) 0 with h | h
    · omega
    · exact sq_lt h (by rw [Int.neg_mul_neg]; omega) (by omega)
  omega
end Go.Proofs.Ytgmhalcofcokbaa.Fx
/- Ways that are made shorter; a way over a third place: plain numbers. -/
namespace Go.Proofs.Ytgmhalcofcokbaa.Fx
set_option linter.unusedVariables false
theorem lagrange (p1 p2 q1 q2 : Int) : (p1 * p1 + p2 * p2) * (q1 * q1 + q2 * q2) = (p1 * q1 + p2 * q2) * (p1 * q1 + p2 * q2) + (p1 * q2 - p2 * q1) * (p1 * q2 - p2 * q1) := by grind
theorem sqnn (a : Int) : 0 ≤ a * a := by
  rcases Int.le_total 0 a with h | h
  · exact Int.mul_nonneg h h
  · exact Int.mul_nonneg_of_nonpos_of_nonpos h h
theorem mul_lt {a b c d : Int} (ha : 0 ≤ a) (hc : 0 ≤ c) (hab : a < b) (hcd : c < d) : a * c < b * d := by
  have h1 : a * c ≤ a * d := Int.mul_le_mul_of_nonneg_left (by omega) ha
  have h2 : a * d < b * d := Int.mul_lt_mul_of_pos_right hab (by omega)
  omega
/-- A way over a third place is not shorter, but for the rounding. -/
theorem triangle {p1 p2 q1 q2 x y w : Int} (hx : IsRoot ((p1 + q1) * (p1 + q1) + (p2 + q2) * (p2 + q2)) x) (hy : IsRoot (p1 * p1 + p2 * p2) y) (hw : IsRoot (q1 * q1 + q2 * q2) w) : x ≤ y + w + 1 := by
  have y0 := hy.R0; have w0 := hw.R0
  have hQ := hy.hi; have hR := hw.hi
  have Q0 : 0 ≤ p1 * p1 + p2 * p2 := by have := sqnn p1; have := sqnn p2; omega
  have R0 : 0 ≤ q1 * q1 + q2 * q2 := by have := sqnn q1; have := sqnn q2; omega
  have hm := mul_lt Q0 R0 hQ hR
  have hl := lagrange p1 p2 q1 q2
  have hs := sqnn (p1 * q2 - p2 * q1)
  have hd : (p1 * q1 + p2 * q2) * (p1 * q1 + p2 * q2) < ((y + 1) * (w + 1)) * ((y + 1) * (w + 1)) := by
    have e : (y + 1) * (y + 1) * ((w + 1) * (w + 1)) = ((y + 1) * (w + 1)) * ((y + 1) * (w + 1)) := by grind
    omega
  have hyw : 0 ≤ (y + 1) * (w + 1) := Int.mul_nonneg (by omega) (by omega)
  have hdot : p1 * q1 + p2 * q2 < (y + 1) * (w + 1) := by
    rcases Int.lt_or_le (p1 * q1 + p2 * q2) 0 with h | h
    · have : 0 < (y + 1) * (w + 1) := Int.mul_pos (by omega) (by omega)
      omega
    · exact sq_lt h hd hyw
  have e1 : (p1 + q1) * (p1 + q1) + (p2 + q2) * (p2 + q2) = (p1 * p1 + p2 * p2) + (q1 * q1 + q2 * q2) + 2 * (p1 * q1 + p2 * q2) := by grind
  have e2 : (y + w + 2) * (y + w + 2) = (y + 1) * (y + 1) + (w + 1) * (w + 1) + 2 * ((y + 1) * (w + 1)) := by grind
  have hlo := hx.lo
  have := sq_lt hx.R0 (b := y + w + 2) (by omega) (by omega)
  omega
def Near (X : Int) : Prop := -576460752303423488 ≤ X ∧ X ≤ 576460752303423488
theorem Near.i64 {X : Int} (h : Near X) : I64 X := by unfold Near at h; unfold I64; omega
theorem sub_near {X Y : Int} (hX : Near X) (hY : Near Y) : subS X Y = X - Y := by
  unfold Near at hX hY
  unfold subS addS negS
  rw [cnt_in (x := Y) (by omega), cnt_in (x := X) (by omega), cnt_in (x := -Y) (by omega), clamp_in (by omega)]; omega
theorem sz_sqr {D : Int} (h : -9223372036854775807 ≤ D ∧ D ≤ 9223372036854775807) : sz D * sz D = D * D := by
  unfold sz; rw [cnt_in (by omega)]; split
  · exact Int.neg_mul_neg D D
  · rfl
theorem len_near {X Y : Int} (hX : -1152921504606846976 ≤ X ∧ X ≤ 1152921504606846976) (hY : -1152921504606846976 ≤ Y ∧ Y ≤ 1152921504606846976) : IsRoot (X * X + Y * Y) (lenS X Y) ∧ 0 ≤ lenS X Y ∧ lenS X Y ≤ 2305843009213693952 := by
  have es : SQ X Y = X * X + Y * Y := by unfold SQ; rw [sz_sqr (by omega), sz_sqr (by omega)]
  have hb : ∀ Z : Int, -1152921504606846976 ≤ Z ∧ Z ≤ 1152921504606846976 → Z * Z ≤ 1329227995784915872903807060280344576 := by
    intro Z hZ
    rcases Int.le_total 0 Z with h | h
    · exact Int.mul_le_mul hZ.2 hZ.2 h (by omega)
    · rw [← Int.neg_mul_neg]; have := sq_le (a := -Z) (b := 1152921504606846976) (by omega) (by omega); omega
  have h1 := hb X hX; have h2 := hb Y hY
  have x0 := sqnn X; have y0 := sqnn Y
  have hr := rootS_root (T := X * X + Y * Y) (by omega)
  have hlt : rootS (X * X + Y * Y) < 2305843009213693952 := sq_lt hr.R0 (by have := hr.lo; omega) (by omega)
  have el : lenS X Y = rootS (X * X + Y * Y) := by unfold lenS; rw [es, if_neg (by omega)]
  rw [el]
  exact ⟨hr, hr.R0, by omega⟩
theorem near_triangle {a b c d u v : Int} (ha : Near a) (hb : Near b) (hc : Near c) (hd : Near d) (hu : Near u) (hv : Near v) :
    lenS (subS a c) (subS b d) ≤ lenS (subS a u) (subS b v) + lenS (subS u c) (subS v d) + 1 := by
  rw [sub_near ha hc, sub_near hb hd, sub_near ha hu, sub_near hb hv, sub_near hu hc, sub_near hv hd]
  unfold Near at *
  obtain ⟨h1, _⟩ := len_near (X := a - c) (Y := b - d) (by omega) (by omega)
  obtain ⟨h2, _⟩ := len_near (X := a - u) (Y := b - v) (by omega) (by omega)
  obtain ⟨h3, _⟩ := len_near (X := u - c) (Y := v - d) (by omega) (by omega)
  refine triangle (p1 := a - u) (p2 := b - v) (q1 := u - c) (q2 := v - d) ?_ h2 h3
  rwa [show a - u + (u - c) = a - c by omega, show b - v + (v - d) = b - d by omega]
theorem near_lens {a b c d : Int} (ha : Near a) (hb : Near b) (hc : Near c) (hd : Near d) : 0 ≤ lenS (subS a c) (subS b d) ∧ lenS (subS a c) (subS b d) ≤ 2305843009213693952 := by
  rw [sub_near ha hc, sub_near hb hd]
  unfold Near at *
  exact (len_near (X := a - c) (Y := b - d) (by omega) (by omega)).2
theorem within_swap {a b c d r : Int} (ha : Near a) (hb : Near b) (hc : Near c) (hd : Near d) : withinS c d a b r = withinS a b c d r := by
  unfold withinS
  rw [sub_near ha hc, sub_near hb hd, sub_near hc ha, sub_near hd hb]
  unfold Near at *
  have e1 : SQ (c - a) (d - b) = SQ (a - c) (b - d) := by
    unfold SQ; rw [sz_sqr (by omega), sz_sqr (by omega), sz_sqr (by omega), sz_sqr (by omega)]
    grind
  rw [e1]
theorem within_len {a b c d r : Int} (ha : Near a) (hb : Near b) (hc : Near c) (hd : Near d) (hr : 0 < r) : withinS a b c d r = decide (lenS (subS a c) (subS b d) < r) := by
  unfold withinS
  rw [sub_near ha hc, sub_near hb hd]
  unfold Near at *
  obtain ⟨h1, h2, _⟩ := len_near (X := a - c) (Y := b - d) (by omega) (by omega)
  have e1 : SQ (a - c) (b - d) = (a - c) * (a - c) + (b - d) * (b - d) := by unfold SQ; rw [sz_sqr (by omega), sz_sqr (by omega)]
  rw [e1, decide_eq_true (p := 0 ≤ r) (by omega), Bool.true_and]
  by_cases h : (a - c) * (a - c) + (b - d) * (b - d) < r * r
  · rw [decide_eq_true h, decide_eq_true (sq_lt h2 (Int.lt_of_le_of_lt h1.lo h) (by omega))]
  · rw [decide_eq_false h, decide_eq_false]
    intro h3
    have := sq_le (a := lenS (a - c) (b - d) + 1) (b := r) (by omega) (by omega)
    have := h1.hi
    omega
/-! ### What is made shorter -/
theorem sz_part {c m n : Int} (hc : I64 c) (hm : 0 ≤ m) (hn : m < n) : sz (partS c m n) = sz c * m / n := by
  have h := part_q hc hm hn
  have hs := sz_bd hc
  have hb := part_bd hc hm hn
  have e : partS c m n = -(sz c * m / n) ∨ partS c m n = sz c * m / n := by unfold partS; split <;> simp
  unfold sz; rw [cnt_in (by omega)]
  rw [show (if cnt c < 0 then -cnt c else cnt c) = sz c from rfl]
  rcases e with e | e <;> rw [e] <;> split <;> omega
theorem short_sq {a b m n : Int} (ha : I64 a) (hb : I64 b) (hm : 0 ≤ m) (hn : m < n) (hr : SQ a b < (n + 1) * (n + 1)) : SQ (partS a m n) (partS b m n) < (m + 1) * (m + 1) := by
  have qa := part_q ha hm hn; have qb := part_q hb hm hn
  unfold SQ at hr ⊢
  rw [sz_part ha hm hn, sz_part hb hm hn]
  have sa := sz_bd ha; have sb := sz_bd hb
  have ea : sz a * m / n * n ≤ sz a * m := Int.ediv_mul_le _ (by omega)
  have eb : sz b * m / n * n ≤ sz b * m := Int.ediv_mul_le _ (by omega)
  generalize sz a * m / n = p at *
  generalize sz b * m / n = q at *
  generalize sz a = A at *
  generalize sz b = B at *
  have h1 := sq_le (a := p * n) (b := A * m) (Int.mul_nonneg (by omega) (by omega)) ea
  have h2 := sq_le (a := q * n) (b := B * m) (Int.mul_nonneg (by omega) (by omega)) eb
  have h3 : (A * A + B * B) * (m * m) ≤ (n + 1) * (n + 1) * (m * m) := Int.mul_le_mul_of_nonneg_right (by omega) (sqnn m)
  have h4 : (n * m + m) * (n * m + m) < (n * m + n) * (n * m + n) := by
    have h0 : 0 ≤ n * m := Int.mul_nonneg (by omega) hm
    exact mul_lt (by omega) (by omega) (by omega) (by omega)
  have e1 : (p * n) * (p * n) + (q * n) * (q * n) = (p * p + q * q) * (n * n) := by grind
  have e2 : (A * m) * (A * m) + (B * m) * (B * m) = (A * A + B * B) * (m * m) := by grind
  have e3 : (n + 1) * (n + 1) * (m * m) = (n * m + m) * (n * m + m) := by grind
  have e4 : (n * m + n) * (n * m + n) = (m + 1) * (m + 1) * (n * n) := by grind
  have h5 : (p * p + q * q) * (n * n) < (m + 1) * (m + 1) * (n * n) := by omega
  have hnn : 0 < n * n := Int.mul_pos (by omega) (by omega)
  exact Int.lt_of_mul_lt_mul_right h5 (by omega)
/-- All that is asked of what was made shorter. -/
theorem short_all {X Y m : Int} (hX : Mid X) (hY : Mid Y) (hm : 0 ≤ m) :
    I64 (clampX X Y m) ∧ I64 (clampY X Y m) ∧ lenS (clampX X Y m) (clampY X Y m) ≤ m ∧ lenS (clampX X Y m) (clampY X Y m) ≤ lenS X Y ∧ (clampX X Y m < 0 → X < 0) ∧ (0 < clampX X Y m → 0 < X) ∧ (clampY X Y m < 0 → Y < 0) ∧ (0 < clampY X Y m → 0 < Y) ∧
    clampX (clampX X Y m) (clampY X Y m) m = clampX X Y m ∧ clampY (clampX X Y m) (clampY X Y m) m = clampY X Y m := by
  have em : most0 m = m := by unfold most0; rw [if_neg (by omega)]
  by_cases h : lenS X Y ≤ m
  · have ex : clampX X Y m = X := by unfold clampX; rw [em, if_pos h, hX.cnt]
    have ey : clampY X Y m = Y := by unfold clampY; rw [em, if_pos h, hY.cnt]
    rw [ex, ey, ex, ey]
    exact ⟨hX.i64, hY.i64, h, by omega, id, id, id, id, rfl, rfl⟩
  · have hn : m < lenS X Y := by omega
    have ex : clampX X Y m = partS X m (lenS X Y) := by unfold clampX; rw [em, if_neg h]
    have ey : clampY X Y m = partS Y m (lenS X Y) := by unfold clampY; rw [em, if_neg h]
    have hr := lenS_upto hX.i64 hY.i64
    have hbX := hX; have hbY := hY
    unfold Mid at hbX hbY
    have hlt : lenS X Y < 9223372036854775807 := by
      have es : SQ X Y = X * X + Y * Y := by unfold SQ; rw [sz_sqr (by omega), sz_sqr (by omega)]
      have hb : ∀ Z : Int, -2305843009213693952 ≤ Z ∧ Z ≤ 2305843009213693952 → Z * Z ≤ 5316911983139663491615228241121378304 := by
        intro Z hZ
        rcases Int.le_total 0 Z with h | h
        · exact Int.mul_le_mul hZ.2 hZ.2 h (by omega)
        · rw [← Int.neg_mul_neg]; have := sq_le (a := -Z) (b := 2305843009213693952) (by omega) (by omega); omega
      have h1 := hb X hbX; have h2 := hb Y hbY
      have := sq_lt hr.R0 (b := 4611686018427387904) (by have := hr.lo; omega) (by omega)
      omega
    have hhi : SQ X Y < (lenS X Y + 1) * (lenS X Y + 1) := by
      rcases hr.hi with hh | hh
      · exact hh
      · omega
    have hsq := short_sq hX.i64 hY.i64 hm hn hhi
    have iX := part_i64 (m := m) (n := lenS X Y) hX.i64 hm hn
    have iY := part_i64 (m := m) (n := lenS X Y) hY.i64 hm hn
    have hl : lenS (partS X m (lenS X Y)) (partS Y m (lenS X Y)) ≤ m := by
      have h1 := lenS_upto iX iY
      have := sq_lt h1.R0 (b := m + 1) (Int.lt_of_le_of_lt h1.lo hsq) (by omega)
      omega
    have sg : ∀ Z : Int, Mid Z → (partS Z m (lenS X Y) < 0 → Z < 0) ∧ (0 < partS Z m (lenS X Y) → 0 < Z) := by
      intro Z hZ
      have hq := part_q (m := m) (n := lenS X Y) hZ.i64 hm hn
      have hz0 : Z = 0 → sz Z = 0 := by rintro rfl; decide
      unfold partS
      constructor
      · split
        · intro _; assumption
        · intro h; omega
      · split
        · intro h; omega
        · intro h
          rcases Int.lt_or_le 0 Z with h0 | h0
          · exact h0
          · have := hz0 (by omega); omega
    have bX := part_bd (m := m) (n := lenS X Y) hX.i64 hm hn
    have bY := part_bd (m := m) (n := lenS X Y) hY.i64 hm hn
    rw [ex, ey]
    refine ⟨iX, iY, hl, by omega, (sg X hX).1, (sg X hX).2, (sg Y hY).1, (sg Y hY).2, ?_, ?_⟩
    · unfold clampX; rw [em, if_pos hl, cnt_in (by omega)]
    · unfold clampY; rw [em, if_pos hl, cnt_in (by omega)]
end Go.Proofs.Ytgmhalcofcokbaa.Fx
/- Plain arithmetic of layer 19. -/
namespace Go.Proofs.Ytgmhalcofcokbaa.Fx
noncomputable def towX (x y u v k : Int) : Int := clampX (subS u x) (subS v y) k
noncomputable def towY (x y u v k : Int) : Int := clampY (subS u x) (subS v y) k
theorem len_65536 : lenS 327680 0 = 327680 := by
  unfold lenS
  rw [rootS_of (R := 327680) ⟨by decide, by decide, by decide⟩]
  decide
theorem tow_wakes : towX 0 0 327680 0 65536 = 65536 ∧ towY 0 0 327680 0 65536 = 0 := by
  have h1 : subS 327680 0 = 327680 := by decide
  have h2 : subS 0 0 = 0 := by decide
  unfold towX towY
  rw [h1, h2]
  unfold clampX clampY
  rw [len_65536]
  decide
end Go.Proofs.Ytgmhalcofcokbaa.Fx
/- The contracts of package steer and of the reference: the step to a place. -/
namespace Go.Proofs.Ytgmhalcofcokbaa
open Go.RowKit
set_option linter.unusedVariables false
set_option maxHeartbeats 1600000 in
theorem toward_any (x y u v k : Int) (w : World) (hx : Fx.I64 x) (hy : Fx.I64 y) (hu : Fx.I64 u) (hv : Fx.I64 v) (hk : Fx.I64 k) :
    Calls Try.prog 25 #[.agg #[.int .i64 x, .int .i64 y], .agg #[.int .i64 u, .int .i64 v], .int .i64 k] w fun e w' => e = .returned (.agg #[.int .i64 (Fx.towX x y u v k), .int .i64 (Fx.towY x y u v k)]) ∧ Below w.heap.size w w' := by
  have i1 := Fx.sub_i64 u x
  have i2 := Fx.sub_i64 v y
  go_enter Try.func25, Try.ntmps25
  go_wp2_with (first
    | (go_at_call 11; (with_reducible refine (vsub_any u v x y _ hu hv hx hy).mono ?_); rintro e w1 ⟨rfl, hb1⟩; obtain ⟨hc1, hf1⟩ := bcell hb1; have hz1 := hb1.size; simp at hz1; have q0 : w.heap.size < w1.heap.size := (by omega); have q1 : w.heap.size + 1 < w1.heap.size := (by omega); have q2 : w.heap.size + 1 + 1 < w1.heap.size := (by omega); clear hz1; have HB1 := Fx.Hd.mk hb1; clear hb1)
    | (go_at_call 7; (with_reducible refine (clamp_any _ _ k _ i1 i2 hk).mono ?_); rintro e w2 ⟨rfl, hb2⟩; obtain ⟨hc2, hf2⟩ := bcell hb2; have hz2 := hb2.size; have q3 : w.heap.size + 1 + 1 < w2.heap.size := (by omega); clear hz2; have HB2 := Fx.Hd.mk hb2; clear hb2))
  refine bodyPost_ret (v := .agg #[.int .i64 (Fx.towX x y u v k), .int .i64 (Fx.towY x y u v k)]) (by simp [results, Try.results25, go_sem, hc2, q2, hc1]; exact ⟨rfl, rfl⟩) rfl ⟨rfl, ?_⟩
  exact (((((((Below.refl _ _).alloc (Nat.le_refl _) _).alloc (by simp) _).alloc (by simp; omega) _).trans (HB1.out.mono (by simp; omega))).trans (HB2.out.mono (by omega))).setCell (by simp; omega) _).setCell (by simp; omega) _
/-- A call that makes memory leaves five cells of the argument as they were. -/
theorem held5c {P : Program} {F : FuncId} {args : Array Value} {w w0 : World} {r : Ending} {b o1 o2 o3 o4 o5 : Nat} {x1 x2 x3 x4 x5 : Value} (h : Calls P F args w fun e w' => e = r ∧ Below w.heap.size w w')
    (hB : Below w0.heap.size w0 w) (hbl : b < w0.heap.size) (d1 : w.cell? ⟨b, o1, none⟩ = some x1) (d2 : w.cell? ⟨b, o2, none⟩ = some x2) (d3 : w.cell? ⟨b, o3, none⟩ = some x3) (d4 : w.cell? ⟨b, o4, none⟩ = some x4) (d5 : w.cell? ⟨b, o5, none⟩ = some x5) :
    Calls P F args w fun e w' => e = r ∧ w'.cell? ⟨b, o1, none⟩ = some x1 ∧ w'.cell? ⟨b, o2, none⟩ = some x2 ∧ w'.cell? ⟨b, o3, none⟩ = some x3 ∧ w'.cell? ⟨b, o4, none⟩ = some x4 ∧ w'.cell? ⟨b, o5, none⟩ = some x5 ∧ Below w0.heap.size w0 w' := by
  have hl := Nat.lt_of_lt_of_le hbl hB.size
  exact h.mono fun e w' ⟨h1, h2⟩ => ⟨h1, (h2.cell (p := ⟨b, o1, none⟩) hl).trans d1, (h2.cell (p := ⟨b, o2, none⟩) hl).trans d2, (h2.cell (p := ⟨b, o3, none⟩) hl).trans d3, (h2.cell (p := ⟨b, o4, none⟩) hl).trans d4, (h2.cell (p := ⟨b, o5, none⟩) hl).trans d5, hB.trans (h2.mono hB.size)⟩

theorem k_tow (w : World) : Calls Try.prog 25 #[.agg #[.int .i64 0, .int .i64 0], .agg #[.int .i64 327680, .int .i64 0], .int .i64 65536] w fun e w' => e = .returned (.agg #[.int .i64 65536, .int .i64 0]) ∧ Below w.heap.size w w' := by
  have h := toward_any 0 0 327680 0 65536 w (by unfold Fx.I64; omega) (by unfold Fx.I64; omega) (by unfold Fx.I64; omega) (by unfold Fx.I64; omega) (by unfold Fx.I64; omega)
  rw [Fx.tow_wakes.1, Fx.tow_wakes.2] at h
  exact h
theorem wakes19_any (w : World) : Calls Try.prog 31 #[] w fun e w' => e = .returned (.bool true) ∧ Below w.heap.size w w' := by
  have H1 := Fx.Hd.mk (k_tow w)
  go_enter Try.func31, Try.ntmps31
  go_wp2_with (go_at_call 25; (with_reducible refine H1.out.mono ?_); rintro e w1 ⟨rfl, hb1⟩; have B1 := Fx.Hd.mk hb1; clear hb1)
  go_ret
  exact ⟨rfl, B1.out⟩
end Go.Proofs.Ytgmhalcofcokbaa
/- Plain arithmetic of layer 19: sums. -/
namespace Go.Proofs.Ytgmhalcofcokbaa.Fx
open Go.RowKit
/-- The sum of the first k of a row. -/
def sumF (f : Nat → Int) : Nat → Int
  | 0 => 0
  | k + 1 => addS (sumF f k) (f k)
theorem sumF_i64 (f : Nat → Int) (k : Nat) : I64 (sumF f k) := by
  cases k
  · unfold sumF I64; omega
  · exact add_i64 _ _
theorem wrap_i64 (x : Int) : I64 (IntKind.i64.wrap x) := by
  unfold I64; simp [IntKind.wrap, IntKind.bits, IntKind.signed]; (try split) <;> omega
noncomputable def cohX (x y : Int) (n : Nat) (f g : Nat → Int) (k : Int) : Int := if n = 0 then 0 else towX x y (IntKind.i64.wrap ((sumF f n).tdiv n)) (IntKind.i64.wrap ((sumF g n).tdiv n)) k
noncomputable def cohY (x y : Int) (n : Nat) (f g : Nat → Int) (k : Int) : Int := if n = 0 then 0 else towY x y (IntKind.i64.wrap ((sumF f n).tdiv n)) (IntKind.i64.wrap ((sumF g n).tdiv n)) k
end Go.Proofs.Ytgmhalcofcokbaa.Fx
