/- What the plain functions of layer 1 have in common with arithmetic: products and quotients as rounded numbers, their orders, small numbers. -/
import Derived.Test.YtgmhalcofcokbaaFz
namespace Go.Proofs.Ytgmhalcofcokbaa.Fx
set_option linter.unusedVariables false
theorem neg_div (p d : Int) (hd : 1 ≤ d) : (-p) / d = -(p / d) - (if 0 < p % d then 1 else 0) := by
  have h := Int.mul_ediv_add_emod p d
  have h0 : 0 ≤ p % d := Int.emod_nonneg _ (by omega)
  have h1 : p % d < d := Int.emod_lt_of_pos _ (by omega)
  by_cases hr : 0 < p % d
  · rw [if_pos hr]
    refine ((Int.ediv_emod_unique (r := d - p % d) (by omega)).2 ⟨?_, by omega, by omega⟩).1
    rw [Int.mul_sub, Int.mul_neg, Int.mul_one]; omega
  · rw [if_neg hr]
    refine ((Int.ediv_emod_unique (r := 0) (by omega)).2 ⟨?_, by omega, by omega⟩).1
    rw [Int.mul_sub, Int.mul_neg, Int.mul_zero]; omega
theorem endS_f (p d : Int) (hd : 1 ≤ d) (hp : 0 ≤ p) : endS (p / d) false (p % d) = clampM (p / d) := by
  have h0 : 0 ≤ p / d := Int.ediv_nonneg hp (by omega)
  unfold endS clampM Most; simp; split <;> (try split) <;> omega
theorem endS_t (p d : Int) (hd : 1 ≤ d) (hp : 0 ≤ p) : endS (p / d) true (p % d) = clampM ((-p) / d) := by
  have h0 : 0 ≤ p / d := Int.ediv_nonneg hp (by omega)
  have h1 : 0 ≤ p % d := Int.emod_nonneg _ (by omega)
  rw [neg_div p d hd]
  unfold endS clampM Most
  by_cases hr : 0 < p % d
  · simp [hr]; (repeat' split) <;> omega
  · simp [hr]; (repeat' split) <;> omega
theorem sz_cases {a : Int} (h : I64 a) : (decide (a < 0) = true ∧ sz a = -(cnt a) ∧ cnt a < 0) ∨ (decide (a < 0) = false ∧ sz a = cnt a ∧ 0 ≤ cnt a) := by
  have := cnt_sign h
  unfold sz
  by_cases hn : a < 0
  · left; exact ⟨by simpa using hn, by rw [if_pos (by omega)], by omega⟩
  · right; exact ⟨by simpa using hn, by rw [if_neg (by omega)], by omega⟩
theorem mulS_floor {a b : Int} (ha : I64 a) (hb : I64 b) : mulS a b = clampM (cnt a * cnt b / 65536) := by
  have hp := (prod_bd (sz_bd ha) (sz_bd hb)).1
  unfold mulS
  rcases sz_cases ha with ⟨sa, ea, _⟩ | ⟨sa, ea, _⟩ <;> rcases sz_cases hb with ⟨sb, eb, _⟩ | ⟨sb, eb, _⟩ <;> rw [sa, sb, ea, eb] <;> rw [ea, eb] at hp
  · simp only [bne_self_eq_false]; rw [endS_f _ _ (by omega) hp, Int.neg_mul_neg]
  · rw [show (true != false) = true from rfl, endS_t _ _ (by omega) hp, Int.neg_mul, Int.neg_neg]
  · rw [show (false != true) = true from rfl, endS_t _ _ (by omega) hp, Int.mul_neg, Int.neg_neg]
  · simp only [bne_self_eq_false]; rw [endS_f _ _ (by omega) hp]
/-- A quotient by what is not 0, rounded down. -/
theorem divS_floor {a b : Int} (ha : I64 a) (hb : I64 b) (h0 : b ≠ 0) : divS a b = clampM (if 0 < b then cnt a * 65536 / cnt b else (-(cnt a) * 65536) / (-(cnt b))) := by
  have hp := (prod_bd (sz_bd ha) (by omega : (0 : Int) ≤ 65536 ∧ (65536 : Int) ≤ 9223372036854775807)).1
  have hs := sz_pos hb h0
  have hq := cnt_sign hb
  unfold divS
  rw [if_neg h0]
  rcases sz_cases ha with ⟨sa, ea, _⟩ | ⟨sa, ea, _⟩ <;> rcases sz_cases hb with ⟨sb, eb, _⟩ | ⟨sb, eb, _⟩ <;> rw [sa, sb, ea, eb] <;> rw [ea] at hp <;> rw [eb] at hs
  · simp only [bne_self_eq_false]; rw [endS_f _ _ hs hp, if_neg (by omega)]
  · rw [show (true != false) = true from rfl, endS_t _ _ hs hp, if_pos (by omega), Int.neg_mul, Int.neg_neg]
  · rw [show (false != true) = true from rfl, endS_t _ _ hs hp, if_neg (by omega), Int.neg_mul]
  · simp only [bne_self_eq_false]; rw [endS_f _ _ hs hp, if_pos (by omega)]
theorem clamp_mono {x y : Int} (h : x ≤ y) : clampM x ≤ clampM y := by unfold clampM Most; (repeat' split) <;> omega
theorem clamp_bd (x : Int) : -9223372036854775807 ≤ clampM x ∧ clampM x ≤ 9223372036854775807 := by unfold clampM Most; (repeat' split) <;> omega
theorem clamp_in {x : Int} (h : -9223372036854775807 ≤ x ∧ x ≤ 9223372036854775807) : clampM x = x := by unfold clampM Most; (repeat' split) <;> omega
theorem i64_bd {x : Int} (h : -9223372036854775807 ≤ x ∧ x ≤ 9223372036854775807) : I64 x := by unfold I64; omega
theorem mul_i64 {a b : Int} (ha : I64 a) (hb : I64 b) : I64 (mulS a b) := by rw [mulS_floor ha hb]; exact i64_bd (clamp_bd _)
theorem div_bd {a b : Int} (ha : I64 a) (hb : I64 b) : -9223372036854775807 ≤ divS a b ∧ divS a b ≤ 9223372036854775807 := by
  by_cases h0 : b = 0
  · unfold divS; rw [if_pos h0]; (repeat' split) <;> omega
  · rw [divS_floor ha hb h0]; exact clamp_bd _
theorem div_i64 {a b : Int} (ha : I64 a) (hb : I64 b) : I64 (divS a b) := i64_bd (div_bd ha hb)
theorem add_i64 (a b : Int) : I64 (addS a b) := i64_bd (clamp_bd _)
theorem sub_i64 (a b : Int) : I64 (subS a b) := i64_bd (clamp_bd _)
theorem sqrt_i64 {a : Int} (h : I64 a) : I64 (sqrtS a) := by have := sqrtS_bd h; unfold I64; omega
theorem cnt_in {x : Int} (h : -9223372036854775807 ≤ x) : cnt x = x := by unfold cnt Most; rw [if_neg (by omega)]
theorem cmp_bd (a b : Int) : -1 ≤ cmpS a b ∧ cmpS a b ≤ 1 := by unfold cmpS; (repeat' split) <;> omega
theorem cmp_flip (a b : Int) : cmpS a b = -cmpS b a := by unfold cmpS; (repeat' split) <;> omega
theorem cmp_self (a : Int) : cmpS a a = 0 := by unfold cmpS; rw [if_neg (by omega), if_neg (by omega)]
theorem cmp_le {a b : Int} : cmpS a b ≤ 0 ↔ cnt a ≤ cnt b := by unfold cmpS; (repeat' split) <;> omega
theorem cmp_ge {a b : Int} : 0 ≤ cmpS a b ↔ cnt b ≤ cnt a := by unfold cmpS; (repeat' split) <;> omega
theorem cmp_eq {a b : Int} (h : cnt a = cnt b) : cmpS a b = 0 := by unfold cmpS; rw [if_neg (by omega), if_neg (by omega)]
theorem add_le {a b c : Int} (h : cnt a ≤ cnt b) : cmpS (addS a c) (addS b c) ≤ 0 := by
  have h1 := clamp_bd (cnt a + cnt c); have h2 := clamp_bd (cnt b + cnt c)
  rw [cmp_le, addS, addS, cnt_in h1.1, cnt_in h2.1]
  exact clamp_mono (by omega)
theorem neg_ge {a b : Int} (ha : I64 a) (hb : I64 b) (h : cnt a ≤ cnt b) : 0 ≤ cmpS (negS a) (negS b) := by
  have h1 := cnt_bd ha; have h2 := cnt_bd hb
  rw [cmp_ge, negS, negS, cnt_in (x := -cnt b) (by omega), cnt_in (x := -cnt a) (by omega)]; omega
theorem one_i64 : I64 65536 := by unfold I64; omega
theorem cnt_one : cnt 65536 = 65536 := by decide
theorem mul_one {a : Int} (ha : I64 a) : mulS a 65536 = cnt a := by
  have h1 := cnt_bd ha
  rw [mulS_floor ha one_i64, cnt_one, Int.mul_ediv_cancel _ (by omega)]; exact clamp_in h1
theorem div_one {a : Int} (ha : I64 a) : divS a 65536 = cnt a := by
  have h1 := cnt_bd ha
  rw [divS_floor ha one_i64 (by omega), if_pos (by omega), cnt_one, Int.mul_ediv_cancel _ (by omega)]; exact clamp_in h1
theorem cmp_mul_one {a : Int} (ha : I64 a) : cmpS (mulS a 65536) a = 0 := by
  have h1 := cnt_bd ha
  exact cmp_eq (by rw [mul_one ha, cnt_in h1.1])
theorem cmp_div_one {a : Int} (ha : I64 a) : cmpS (divS a 65536) a = 0 := by
  have h1 := cnt_bd ha
  exact cmp_eq (by rw [div_one ha, cnt_in h1.1])
theorem add_comm (a b : Int) : addS a b = addS b a := by unfold addS; rw [Int.add_comm]
theorem mul_comm {a b : Int} (ha : I64 a) (hb : I64 b) : mulS a b = mulS b a := by rw [mulS_floor ha hb, mulS_floor hb ha, Int.mul_comm]
theorem mul_le {a b k : Int} (ha : I64 a) (hb : I64 b) (hk : I64 k) (k0 : 0 < k) (h : cnt a ≤ cnt b) : cmpS (mulS a k) (mulS b k) ≤ 0 := by
  have h1 := clamp_bd (cnt a * cnt k / 65536); have h2 := clamp_bd (cnt b * cnt k / 65536)
  have hp := cnt_pos hk
  rw [cmp_le, mulS_floor ha hk, mulS_floor hb hk, cnt_in h1.1, cnt_in h2.1]
  exact clamp_mono (Int.ediv_le_ediv (by omega) (Int.mul_le_mul_of_nonneg_right h (by omega)))
theorem div_le {a b k : Int} (ha : I64 a) (hb : I64 b) (hk : I64 k) (k0 : 0 < k) (h : cnt a ≤ cnt b) : cmpS (divS a k) (divS b k) ≤ 0 := by
  have hp := cnt_pos hk
  have h1 := div_bd ha hk; have h2 := div_bd hb hk
  rw [cmp_le, cnt_in h1.1, cnt_in h2.1, divS_floor ha hk (by omega), divS_floor hb hk (by omega), if_pos k0, if_pos k0]
  exact clamp_mono (Int.ediv_le_ediv (by omega) (by omega))
theorem sqrt_low {x : Int} (h : x ≤ 0) : sqrtS x = 0 := by
  rcases Int.lt_or_eq_of_le h with h | h
  · exact sqrtS_neg h
  · rw [h]; exact sqrtS_zero
theorem under_le {a b : Int} (h : cnt a ≤ cnt b) (ha : I64 a) (hb : I64 b) : under a ≤ under b := by
  have := cnt_sign ha; have := cnt_sign hb
  unfold under cnt Most at *; repeat' split
  all_goals (try omega)
  all_goals (repeat' split at h) <;> omega
theorem sqrt_le {a b : Int} (ha : I64 a) (hb : I64 b) (h : cnt a ≤ cnt b) : cmpS (sqrtS a) (sqrtS b) ≤ 0 := by
  have h1 := sqrtS_bd ha; have h2 := sqrtS_bd hb
  rw [cmp_le, cnt_in (by omega), cnt_in (by omega)]
  have r1 := sqrtS_root a; have r2 := sqrtS_root b
  have hu := under_le h ha hb
  have := sq_lt r1.R0 (b := sqrtS b + 1) (by have := r1.lo; have := r2.hi; omega) (by omega)
  omega
theorem mul_small {a b : Int} (ha : -1073741824 < a ∧ a < 1073741824) (hb : -1073741824 < b ∧ b < 1073741824) :
    (-1152921504606846976 ≤ a * b ∧ a * b ≤ 1152921504606846976) ∧ mulS a b = a * b / 65536 := by
  have key : -1152921504606846976 ≤ a * b ∧ a * b ≤ 1152921504606846976 := by
    have h1 : (a.natAbs * b.natAbs : Nat) ≤ 1073741824 * 1073741824 := Nat.mul_le_mul (by omega) (by omega)
    have h2 : (a * b).natAbs = a.natAbs * b.natAbs := Int.natAbs_mul a b
    omega
  refine ⟨key, ?_⟩
  rw [mulS_floor (by unfold I64; omega) (by unfold I64; omega), cnt_in (by omega), cnt_in (by omega)]
  exact clamp_in (by omega)
end Go.Proofs.Ytgmhalcofcokbaa.Fx
