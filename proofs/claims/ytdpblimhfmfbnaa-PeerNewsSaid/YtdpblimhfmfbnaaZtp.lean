import Derived.Test.YtdpblimhfmfbnaaZto
import Derived.IntWalk
/- The root of a fixed number, as a number. -/
namespace Go.Proofs.Ytdpblimhfmfbnaa.Fx
set_option linter.unusedVariables false
/-- The square that a root is of. -/
def under (a : Int) : Int := if a < 0 then 0 else a * 65536
theorem under_nonneg (a : Int) : 0 ≤ under a := by unfold under; split <;> omega
noncomputable def sqrtS (a : Int) : Int := Classical.choose (root_ex (under_nonneg a))
theorem sqrtS_root (a : Int) : IsRoot (under a) (sqrtS a) := Classical.choose_spec (root_ex (under_nonneg a))
theorem sqrtS_of {a S : Int} (h : IsRoot (under a) S) : sqrtS a = S := (sqrtS_root a).uniq h
theorem sqrtS_neg {a : Int} (h : a < 0) : sqrtS a = 0 := sqrtS_of (by unfold under; rw [if_pos h]; exact ⟨by omega, by omega, by omega⟩)
theorem sqrtS_zero : sqrtS 0 = 0 := sqrtS_of ⟨by omega, by decide, by decide⟩
theorem sqrtS_bd {a : Int} (h : I64 a) : 0 ≤ sqrtS a ∧ sqrtS a ≤ 1099511627775 := by
  have hr := sqrtS_root a
  refine ⟨hr.R0, ?_⟩
  have hu : under a < 1208925819614629174706176 := by unfold I64 at h; unfold under; split <;> omega
  have h2 : sqrtS a * sqrtS a < 1099511627776 * 1099511627776 := by have := hr.lo; omega
  have := sq_lt hr.R0 h2 (by omega)
  omega
theorem sqrtS_four : sqrtS 262144 = 131072 := sqrtS_of ⟨by omega, by decide, by decide⟩
theorem mulS_nine : mulS 98304 98304 = 147456 := by decide
end Go.Proofs.Ytdpblimhfmfbnaa.Fx
/- What the plain functions of layer 1 have in common with arithmetic: products and quotients as rounded numbers, their orders, small numbers. -/
namespace Go.Proofs.Ytdpblimhfmfbnaa.Fx
set_option linter.unusedVariables false
theorem neg_div (p d : Int) (hd : 1 ≤ d) : (-p) / d = -(p / d) - (if 0 < p % d then 1 else 0) := by
  have h := Int.mul_ediv_add_emod p d
  have h0 : 0 ≤ p % d := Int.emod_nonneg _ (by omega)
  have h1 : p % d < d := Int.emod_lt_of_pos _ (by omega)
  by_cases hr : 0 < p % d
  · rw [if_pos hr]
    refine ((Int.ediv_emod_unique (r := d - p % d) (by omega)).2 ⟨?_, by omega, by omega⟩).1
    rw [Int.mul_sub, Int.mul_neg, Int.mul_one]; omega
  · rw [if_neg hr]
    refine ((Int.ediv_emod_unique (r := 0) (by omega)).2 ⟨?_, by omega, by omega⟩).1
    rw [Int.mul_sub, Int.mul_neg, Int.mul_zero]; omega
theorem endS_f (p d : Int) (hd : 1 ≤ d) (hp : 0 ≤ p) : endS (p / d) false (p % d) = clampM (p / d) := by
  have h0 : 0 ≤ p / d := Int.ediv_nonneg hp (by omega)
  unfold endS clampM Most; simp; split <;> (try split) <;> omega
theorem endS_t (p d : Int) (hd : 1 ≤ d) (hp : 0 ≤ p) : endS (p / d) true (p % d) = clampM ((-p) / d) := by
  have h0 : 0 ≤ p / d := Int.ediv_nonneg hp (by omega)
  have h1 : 0 ≤ p % d := Int.emod_nonneg _ (by omega)
  rw [neg_div p d hd]
  unfold endS clampM Most
  by_cases hr : 0 < p % d
  · simp [hr]; (repeat' split) <;> omega
  · simp [hr]; (repeat' split) <;> omega
theorem sz_cases {a : Int} (h : I64 a) : (decide (a < 0) = true ∧ sz a = -(cnt a) ∧ cnt a < 0) ∨ (decide (a < 0) = false ∧ sz a = cnt a ∧ 0 ≤ cnt a) := by
  have := cnt_sign h
  unfold sz
  by_cases hn : a < 0
  · left; exact ⟨by simpa using hn, by rw [if_pos (by omega)], by omega⟩
  · right; exact ⟨by simpa using hn, by rw [if_neg (by omega)], by omega⟩
theorem mulS_floor {a b : Int} (ha : I64 a) (hb : I64 b) : mulS a b = clampM (cnt a * cnt b / 65536) := by
  have hp := (prod_bd (sz_bd ha) (sz_bd hb)).1
  unfold mulS
  rcases sz_cases ha with ⟨sa, ea, _⟩ | ⟨sa, ea, _⟩ <;> rcases sz_cases hb with ⟨sb, eb, _⟩ | ⟨sb, eb, _⟩ <;> rw [sa, sb, ea, eb] <;> rw [ea, eb] at hp
  · simp only [bne_self_eq_false]; rw [endS_f _ _ (by omega) hp, Int.neg_mul_neg]
  · rw [show (true != false) = true from rfl, endS_t _ _ (by omega) hp, Int.neg_mul, Int.neg_neg]
  · rw [show (false != true) = true from rfl, endS_t _ _ (by omega) hp, Int.mul_neg, Int.neg_neg]
  · simp only [bne_self_eq_false]; rw [endS_f _ _ (by omega) hp]
/-- A quotient by what is not 0, rounded down. -/
theorem divS_floor {a b : Int} (ha : I64 a) (hb : I64 b) (h0 : b ≠ 0) : divS a b = clampM (if 0 < b then cnt a * 65536 / cnt b else (-(cnt a) * 65536) / (-(cnt b))) := by
  have hp := (prod_bd (sz_bd ha) (by omega : (0 : Int) ≤ 65536 ∧ (65536 : Int) ≤ 9223372036854775807)).1
  have hs := sz_pos hb h0
  have hq := cnt_sign hb
  unfold divS
  rw [if_neg h0]
  rcases sz_cases ha with ⟨sa, ea, _⟩ | ⟨sa, ea, _⟩ <;> rcases sz_cases hb with ⟨sb, eb, _⟩ | ⟨sb, eb, _⟩ <;> rw [sa, sb, ea, eb] <;> rw [ea] at hp <;> rw [eb] at hs
  · simp only [bne_self_eq_false]; rw [endS_f _ _ hs hp, if_neg (by omega)]
  · rw [show (true != false) = true from rfl, endS_t _ _ hs hp, if_pos (by omega), Int.neg_mul, Int.neg_neg]
  · rw [show (false != true) = true from rfl, endS_t _ _ hs hp, if_neg (by omega), Int.neg_mul]
  · simp only [bne_self_eq_false]; rw [endS_f _ _ hs hp, if_pos (by omega)]
theorem clamp_mono {x y : Int} (h : x ≤ y) : clampM x ≤ clampM y := by unfold clampM Most; (repeat' split) <;> omega
theorem clamp_bd (x : Int) : -9223372036854775807 ≤ clampM x ∧ clampM x ≤ 9223372036854775807 := by unfold clampM Most; (repeat' split) <;> omega
theorem clamp_in {x : Int} (h : -9223372036854775807 ≤ x ∧ x ≤ 9223372036854775807) : clampM x = x := by unfold clampM Most; (repeat' split) <;> omega
theorem i64_bd {x : Int} (h : -9223372036854775807 ≤ x ∧ x ≤ 9223372036854775807) : I64 x := by unfold I64; omega
theorem mul_i64 {a b : Int} (ha : I64 a) (hb : I64 b) : I64 (mulS a b) := by rw [mulS_floor ha hb]; exact i64_bd (clamp_bd _)
theorem div_bd {a b : Int} (ha : I64 a) (hb : I64 b) : -9223372036854775807 ≤ divS a b ∧ divS a b ≤ 9223372036854775807 := by
  by_cases h0 : b = 0
  · unfold divS; rw [if_pos h0]; (repeat' split) <;> omega
  · rw [divS_floor ha hb h0]; exact clamp_bd _
theorem div_i64 {a b : Int} (ha : I64 a) (hb : I64 b) : I64 (divS a b) := i64_bd (div_bd ha hb)
theorem add_i64 (a b : Int) : I64 (addS a b) := i64_bd (clamp_bd _)
theorem sub_i64 (a b : Int) : I64 (subS a b) := i64_bd (clamp_bd _)
theorem sqrt_i64 {a : Int} (h : I64 a) : I64 (sqrtS a) := by have := sqrtS_bd h; unfold I64; omega
theorem cnt_in {x : Int} (h : -9223372036854775807 ≤ x) : cnt x = x := by unfold cnt Most; rw [if_neg (by omega)]
theorem cmp_bd (a b : Int) : -1 ≤ cmpS a b ∧ cmpS a b ≤ 1 := by unfold cmpS; (repeat' split) <;> omega
theorem cmp_flip (a b : Int) : cmpS a b = -cmpS b a := by unfold cmpS; (repeat' split) <;> omega
theorem cmp_self (a : Int) : cmpS a a = 0 := by unfold cmpS; rw [if_neg (by omega), if_neg (by omega)]
theorem cmp_le {a b : Int} : cmpS a b ≤ 0 ↔ cnt a ≤ cnt b := by unfold cmpS; (repeat' split) <;> omega
theorem cmp_ge {a b : Int} : 0 ≤ cmpS a b ↔ cnt b ≤ cnt a := by unfold cmpS; (repeat' split) <;> omega
theorem cmp_eq {a b : Int} (h : cnt a = cnt b) : cmpS a b = 0 := by unfold cmpS; rw [if_neg (by omega), if_neg (by omega)]
theorem add_le {a b c : Int} (h : cnt a ≤ cnt b) : cmpS (addS a c) (addS b c) ≤ 0 := by
  have h1 := clamp_bd (cnt a + cnt c); have h2 := clamp_bd (cnt b + cnt c)
  rw [cmp_le, addS, addS, cnt_in h1.1, cnt_in h2.1]
  exact clamp_mono (by omega)
theorem neg_ge {a b : Int} (ha : I64 a) (hb : I64 b) (h : cnt a ≤ cnt b) : 0 ≤ cmpS (negS a) (negS b) := by
  have h1 := cnt_bd ha; have h2 := cnt_bd hb
  rw [cmp_ge, negS, negS, cnt_in (x := -cnt b) (by omega), cnt_in (x := -cnt a) (by omega)]; omega
theorem one_i64 : I64 65536 := by unfold I64; omega
theorem cnt_one : cnt 65536 = 65536 := by decide
theorem mul_one {a : Int} (ha : I64 a) : mulS a 65536 = cnt a := by
  have h1 := cnt_bd ha
  rw [mulS_floor ha one_i64, cnt_one, Int.mul_ediv_cancel _ (by omega)]; exact clamp_in h1
theorem div_one {a : Int} (ha : I64 a) : divS a 65536 = cnt a := by
  have h1 := cnt_bd ha
  rw [divS_floor ha one_i64 (by omega), if_pos (by omega), cnt_one, Int.mul_ediv_cancel _ (by omega)]; exact clamp_in h1
theorem cmp_mul_one {a : Int} (ha : I64 a) : cmpS (mulS a 65536) a = 0 := by
  have h1 := cnt_bd ha
  exact cmp_eq (by rw [mul_one ha, cnt_in h1.1])
theorem cmp_div_one {a : Int} (ha : I64 a) : cmpS (divS a 65536) a = 0 := by
  have h1 := cnt_bd ha
  exact cmp_eq (by rw [div_one ha, cnt_in h1.1])
theorem add_comm (a b : Int) : addS a b = addS b a := by unfold addS; rw [Int.add_comm]
theorem mul_comm {a b : Int} (ha : I64 a) (hb : I64 b) : mulS a b = mulS b a := by rw [mulS_floor ha hb, mulS_floor hb ha, Int.mul_comm]
theorem mul_le {a b k : Int} (ha : I64 a) (hb : I64 b) (hk : I64 k) (k0 : 0 < k) (h : cnt a ≤ cnt b) : cmpS (mulS a k) (mulS b k) ≤ 0 := by
  have h1 := clamp_bd (cnt a * cnt k / 65536); have h2 := clamp_bd (cnt b * cnt k / 65536)
  have hp := cnt_pos hk
  rw [cmp_le, mulS_floor ha hk, mulS_floor hb hk, cnt_in h1.1, cnt_in h2.1]
  exact clamp_mono (Int.ediv_le_ediv (by omega) (Int.mul_le_mul_of_nonneg_right h (by omega)))
theorem div_le {a b k : Int} (ha : I64 a) (hb : I64 b) (hk : I64 k) (k0 : 0 < k) (h : cnt a ≤ cnt b) : cmpS (divS a k) (divS b k) ≤ 0 := by
  have hp := cnt_pos hk
  have h1 := div_bd ha hk; have h2 := div_bd hb hk
  rw [cmp_le, cnt_in h1.1, cnt_in h2.1, divS_floor ha hk (by omega), divS_floor hb hk (by omega), if_pos k0, if_pos k0]
  exact clamp_mono (Int.ediv_le_ediv (by omega) (by omega))
theorem sqrt_low {x : Int} (h : x ≤ 0) : sqrtS x = 0 := by
  rcases Int.lt_or_eq_of_le h with h | h
  · exact sqrtS_neg h
  · rw [h]; exact sqrtS_zero
theorem under_le {a b : Int} (h : cnt a ≤ cnt b) (ha : I64 a) (hb : I64 b) : under a ≤ under b := by
  have := cnt_sign ha; have := cnt_sign hb
  unfold under cnt Most at *; repeat' split
  all_goals (try omega)
  all_goals (repeat' split at h) <;> omega
theorem sqrt_le {a b : Int} (ha : I64 a) (hb : I64 b) (h : cnt a ≤ cnt b) : cmpS (sqrtS a) (sqrtS b) ≤ 0 := by
  have h1 := sqrtS_bd ha; have h2 := sqrtS_bd hb
  rw [cmp_le, cnt_in (by omega), cnt_in (by omega)]
  have r1 := sqrtS_root a; have r2 := sqrtS_root b
  have hu := under_le h ha hb
  have := sq_lt r1.R0 (b := sqrtS b + 1) (by have := r1.lo; have := r2.hi; omega) (by omega)
  omega
theorem mul_small {a b : Int} (ha : -1073741824 < a ∧ a < 1073741824) (hb : -1073741824 < b ∧ b < 1073741824) :
    (-1152921504606846976 ≤ a * b ∧ a * b ≤ 1152921504606846976) ∧ mulS a b = a * b / 65536 := by
  have key : -1152921504606846976 ≤ a * b ∧ a * b ≤ 1152921504606846976 := by
    have h1 : (a.natAbs * b.natAbs : Nat) ≤ 1073741824 * 1073741824 := Nat.mul_le_mul (by omega) (by omega)
    have h2 : (a * b).natAbs = a.natAbs * b.natAbs := Int.natAbs_mul a b
    omega
  refine ⟨key, ?_⟩
  rw [mulS_floor (by unfold I64; omega) (by unfold I64; omega), cnt_in (by omega), cnt_in (by omega)]
  exact clamp_in (by omega)
end Go.Proofs.Ytdpblimhfmfbnaa.Fx
/- Small numbers: products, quotients, halves. -/
namespace Go.Proofs.Ytdpblimhfmfbnaa.Fx
set_option linter.unusedVariables false
theorem tmod_bd (x : Int) (n : Int) (hn : 0 < n) : -n < x.tmod n ∧ x.tmod n < n := by
  constructor
  · have h := Int.tmod_nonneg n (a := -x)
    have h1 : (-x).tmod n = -(x.tmod n) := Int.neg_tmod x n
    by_cases hx : 0 ≤ x
    · have := Int.tmod_nonneg n hx; omega
    · have h2 := Int.tmod_lt_of_pos (-x) hn; omega
  · exact Int.tmod_lt_of_pos x hn
theorem i64_small {x n : Int} (h : -n < x ∧ x < n) (hn : n ≤ 9223372036854775807) : I64 x := by unfold I64; omega
/-- The quotient of small numbers, by Go's own quotient. -/
theorem div_down {X Y : Int} (hX : -1073741824 < X ∧ X < 1073741824) (hY : -1073741824 < Y ∧ Y < 1073741824) (h0 : Y ≠ 0) :
    (-70368744177664 ≤ (X * 65536).tdiv Y ∧ (X * 65536).tdiv Y ≤ 70368744177664) ∧
    divS X Y = (X * 65536).tdiv Y - (if (X * 65536).tmod Y ≠ 0 ∧ ((X < 0) ↔ ¬ (Y < 0)) then 1 else 0) := by
  have key : -70368744177664 ≤ (X * 65536).tdiv Y ∧ (X * 65536).tdiv Y ≤ 70368744177664 := by
    have h1 : ((X * 65536).tdiv Y).natAbs = (X * 65536).natAbs / Y.natAbs := Int.natAbs_tdiv _ _
    have h2 : (X * 65536).natAbs / Y.natAbs ≤ (X * 65536).natAbs := Nat.div_le_self _ _
    omega
  refine ⟨key, ?_⟩
  rw [divS_floor (i64_small hX (by omega)) (i64_small hY (by omega)) h0, cnt_in (by omega), cnt_in (by omega)]
  have hs : (X * 65536) = Y * (X * 65536).tdiv Y + (X * 65536).tmod Y := (Int.mul_tdiv_add_tmod _ _).symm
  generalize hT : (X * 65536).tdiv Y = T at *
  generalize hR : (X * 65536).tmod Y = R at *
  have hRs : (0 ≤ X → 0 ≤ R) ∧ (X ≤ 0 → R ≤ 0) := by
    constructor
    · intro h; rw [← hR]; exact Int.tmod_nonneg _ (by omega)
    · intro h
      have h3 : (-(X * 65536)).tmod Y = -R := by rw [Int.neg_tmod, hR]
      have := Int.tmod_nonneg Y (a := -(X * 65536)) (by omega)
      omega
  have hRb : -(Y.natAbs : Int) < R ∧ R < Y.natAbs := by
    have h4 : R.natAbs < Y.natAbs := by rw [← hR, Int.natAbs_tmod]; exact Nat.mod_lt _ (by omega)
    omega
  clear hT hR
  by_cases hy : 0 < Y
  · rw [if_pos hy]
    by_cases hc : R ≠ 0 ∧ ((X < 0) ↔ ¬ (Y < 0))
    · rw [if_pos hc]
      have : X * 65536 / Y = T - 1 := by
        refine ((Int.ediv_emod_unique (r := Y + R) hy).2 ⟨?_, by omega, by omega⟩).1
        rw [Int.mul_sub, Int.mul_one]; omega
      rw [this]; exact clamp_in (by omega)
    · rw [if_neg hc]
      have : X * 65536 / Y = T := by
        refine ((Int.ediv_emod_unique (r := R) hy).2 ⟨by omega, by omega, by omega⟩).1
      rw [this, Int.sub_zero]; exact clamp_in (by omega)
  · rw [if_neg hy]
    have hs2 : -X * 65536 = -Y * T - R := by rw [Int.neg_mul, Int.neg_mul]; omega
    by_cases hc : R ≠ 0 ∧ ((X < 0) ↔ ¬ (Y < 0))
    · rw [if_pos hc]
      have : -X * 65536 / -Y = T - 1 := by
        refine ((Int.ediv_emod_unique (r := -Y - R) (by omega)).2 ⟨?_, by omega, by omega⟩).1
        rw [Int.mul_sub, Int.mul_one]; omega
      rw [this]; exact clamp_in (by omega)
    · rw [if_neg hc]
      have : -X * 65536 / -Y = T := by
        refine ((Int.ediv_emod_unique (r := -R) (by omega)).2 ⟨by omega, by omega, by omega⟩).1
      rw [this, Int.sub_zero]; exact clamp_in (by omega)
open Go.RowKit in
theorem down_wrap {X Y : Int} (hX : -1073741824 < X ∧ X < 1073741824) (hY : -1073741824 < Y ∧ Y < 1073741824) (h0 : Y ≠ 0) :
    wrap64 ((X * 65536).tdiv Y) = (X * 65536).tdiv Y ∧ wrap64 (wrap64 ((X * 65536).tdiv Y) - 1) = (X * 65536).tdiv Y - 1 := by
  have k := (div_down hX hY h0).1
  have e : wrap64 ((X * 65536).tdiv Y) = (X * 65536).tdiv Y := IntWalk.wrap64_in _ (by omega)
  rw [e]
  exact ⟨rfl, IntWalk.wrap64_in _ (by omega)⟩
open Go.RowKit in
theorem down1 {X Y : Int} (hX : -1073741824 < X ∧ X < 1073741824) (hY : -1073741824 < Y ∧ Y < 1073741824) (h0 : Y ≠ 0) (h : (X * 65536).tmod Y = 0) : (divS X Y != wrap64 ((X * 65536).tdiv Y)) = false := by
  rw [(down_wrap hX hY h0).1, (div_down hX hY h0).2, if_neg (fun c => c.1 h)]; simp
open Go.RowKit in
theorem down2 {X Y : Int} (hX : -1073741824 < X ∧ X < 1073741824) (hY : -1073741824 < Y ∧ Y < 1073741824) (h0 : Y ≠ 0) (h : ((X * 65536).tmod Y != 0) = true ∧ (!decide (X * 65536 < 0) == decide (Y < 0)) = true) : (divS X Y != wrap64 (wrap64 ((X * 65536).tdiv Y) - 1)) = false := by
  obtain ⟨h1, h2⟩ := h
  rw [(down_wrap hX hY h0).2, (div_down hX hY h0).2, if_pos ⟨by simpa using h1, by
    by_cases a : X < 0
    · have a' : X * 65536 < 0 := by omega
      simp [a, a'] at h2 ⊢; omega
    · have a' : ¬ X * 65536 < 0 := by omega
      simp [a, a'] at h2 ⊢; omega⟩]
  simp
open Go.RowKit in
theorem down3 {X Y : Int} (hX : -1073741824 < X ∧ X < 1073741824) (hY : -1073741824 < Y ∧ Y < 1073741824) (h0 : Y ≠ 0) (h : ((X * 65536).tmod Y != 0) = false ∨ (!decide (X * 65536 < 0) == decide (Y < 0)) = false) : (divS X Y != wrap64 ((X * 65536).tdiv Y)) = false := by
  rw [(down_wrap hX hY h0).1, (div_down hX hY h0).2, if_neg (fun c => by
    rcases h with h | h
    · exact c.1 (by simpa using h)
    · have c2 := c.2
      by_cases a : X < 0
      · have a' : X * 65536 < 0 := by omega
        simp [a, a'] at h c2; omega
      · have a' : ¬ X * 65536 < 0 := by omega
        simp [a, a'] at h c2; omega)]
  simp
/-- Halves, and what is turned round. -/
theorem halves_back {X : Int} (hX : -1099511627776 < X ∧ X < 1099511627776) :
    mulS X 131072 = 2 * X ∧ divS (2 * X) 131072 = X ∧ mulS X (-65536) = -X ∧ divS X (-65536) = -X := by
  have i0 : I64 X := i64_small hX (by omega)
  have i1 : I64 131072 := by unfold I64; omega
  have i2 : I64 (2 * X) := by unfold I64; omega
  have i3 : I64 (-65536) := by unfold I64; omega
  refine ⟨?_, ?_, ?_, ?_⟩
  · rw [mulS_floor i0 i1, cnt_in (x := X) (by omega), cnt_in (x := 131072) (by omega), show X * 131072 / 65536 = 2 * X by omega]; exact clamp_in (by omega)
  · rw [divS_floor i2 i1 (by omega), if_pos (by omega), cnt_in (x := 2 * X) (by omega), cnt_in (x := 131072) (by omega), show 2 * X * 65536 / 131072 = X by omega]; exact clamp_in (by omega)
  · rw [mulS_floor i0 i3, cnt_in (x := X) (by omega), cnt_in (x := -65536) (by omega), show X * -65536 / 65536 = -X by omega]; exact clamp_in (by omega)
  · rw [divS_floor i0 i3 (by omega), if_neg (by omega), cnt_in (x := X) (by omega), cnt_in (x := -65536) (by omega), show -X * 65536 / - -65536 = -X by rw [show (- -65536 : Int) = 65536 from rfl]; omega]; exact clamp_in (by omega)
theorem quo_back {X Y : Int} (hX : -1099511627776 < X ∧ X < 1099511627776) (hY : 0 < Y ∧ Y < 1048576) :
    (-72057594037927936 ≤ divS X Y ∧ divS X Y ≤ 72057594037927936) ∧ divS X Y * Y ≤ X * 65536 ∧ X * 65536 - divS X Y * Y < Y ∧ -72057594037927936 - 1048576 ≤ divS X Y * Y := by
  have i0 : I64 X := i64_small hX (by omega)
  have i1 : I64 Y := by unfold I64; omega
  have e : divS X Y = X * 65536 / Y := by
    rw [divS_floor i0 i1 (by omega), if_pos hY.1, cnt_in (x := X) (by omega), cnt_in (x := Y) (by omega)]
    have h1 : (X * 65536 / Y).natAbs ≤ (X * 65536).natAbs := Int.natAbs_ediv_le_natAbs _ _
    exact clamp_in (by omega)
  have h1 : (X * 65536 / Y).natAbs ≤ (X * 65536).natAbs := Int.natAbs_ediv_le_natAbs _ _
  have h2 := Int.mul_ediv_add_emod (X * 65536) Y
  have h3 : 0 ≤ X * 65536 % Y := Int.emod_nonneg _ (by omega)
  have h4 : X * 65536 % Y < Y := Int.emod_lt_of_pos _ hY.1
  rw [e, Int.mul_comm _ Y]
  generalize X * 65536 / Y = D at *
  generalize Y * D = P at *
  omega
end Go.Proofs.Ytdpblimhfmfbnaa.Fx
/- Plain arithmetic for layer 2 (vec): squares, lengths, orders. -/
namespace Go.Proofs.Ytdpblimhfmfbnaa.Fx
set_option linter.unusedVariables false
theorem add_zero {a : Int} (h : I64 a) : addS a 0 = cnt a := by
  have h1 := cnt_bd h
  unfold addS; rw [show cnt 0 = 0 by decide, Int.add_zero]; exact clamp_in h1
def SQ (a b : Int) : Int := sz a * sz a + sz b * sz b
theorem SQ_bd {a b : Int} (ha : I64 a) (hb : I64 b) : 0 ≤ SQ a b ∧ SQ a b ≤ 170141183460469231694793815568465002498 := by
  have h1 := prod_bd (sz_bd ha) (sz_bd ha)
  have h2 := prod_bd (sz_bd hb) (sz_bd hb)
  unfold SQ; omega
theorem SQ_parts (x y : Int) (hx : 0 ≤ x) (hy : 0 ≤ y) : x / 18446744073709551616 + y / 18446744073709551616 + (x % 18446744073709551616 + y % 18446744073709551616) / 18446744073709551616 = (x + y) / 18446744073709551616 ∧
    (x % 18446744073709551616 + y % 18446744073709551616) % 18446744073709551616 = (x + y) % 18446744073709551616 := by omega
/-- The greatest number up to m whose square is at most T. -/
structure IsRootUpto (T m R : Int) : Prop where
  R0 : 0 ≤ R
  top : R ≤ m
  lo : R * R ≤ T
  hi : T < (R + 1) * (R + 1) ∨ R = m
theorem upto_lt {T m S N : Int} (h : IsRootUpto T m S) (n0 : 0 ≤ N) (hT : T < N * N) : S < N := sq_lt h.R0 (Int.lt_of_le_of_lt h.lo hT) n0
theorem upto_ge {T m S N B : Int} (h : IsRootUpto T m S) (n0 : 0 ≤ N) (nB : N ≤ B) (Bm : B ≤ m) (hT : ¬ T < N * N) : N ≤ S := by
  rcases h.hi with hh | hh
  · have := sq_lt n0 (Int.lt_of_le_of_lt (by omega) hh) (by have := h.R0; omega)
    omega
  · omega
def vlessS (a b c d : Int) : Bool := decide (cmpS a c < 0) || (decide (cmpS a c = 0) && decide (cmpS b d < 0))
noncomputable def rootS (T : Int) : Int := if h : 0 ≤ T then Classical.choose (root_ex h) else 0
theorem rootS_root {T : Int} (h : 0 ≤ T) : IsRoot T (rootS T) := by
  unfold rootS; rw [dif_pos h]; exact Classical.choose_spec (root_ex h)
theorem rootS_of {T R : Int} (h : IsRoot T R) : rootS T = R := by
  have h0 : 0 ≤ T := Int.le_trans (Int.mul_nonneg h.R0 h.R0) h.lo
  exact (rootS_root h0).uniq h
noncomputable def lenS (a b : Int) : Int := if 9223372036854775807 < rootS (SQ a b) then 9223372036854775807 else rootS (SQ a b)
theorem rootS_bd {a b : Int} (ha : I64 a) (hb : I64 b) : 0 ≤ rootS (SQ a b) ∧ rootS (SQ a b) ≤ 18446744073709551615 := by
  have hs := SQ_bd ha hb
  have hr := rootS_root hs.1
  refine ⟨hr.R0, ?_⟩
  have := sq_lt hr.R0 (b := 18446744073709551616) (by have := hr.lo; omega) (by omega)
  omega
theorem lenS_bd {a b : Int} (ha : I64 a) (hb : I64 b) : 0 ≤ lenS a b ∧ lenS a b ≤ 9223372036854775807 := by
  have := rootS_bd ha hb
  unfold lenS; split <;> omega
end Go.Proofs.Ytdpblimhfmfbnaa.Fx
/- Lengths as roots up to a bound; three, four, five. -/
namespace Go.Proofs.Ytdpblimhfmfbnaa.Fx
set_option linter.unusedVariables false
theorem lenS_upto {a b : Int} (ha : I64 a) (hb : I64 b) : IsRootUpto (SQ a b) 9223372036854775807 (lenS a b) := by
  have hs := SQ_bd ha hb
  have hr := rootS_root hs.1
  have hl := lenS_bd ha hb
  unfold lenS at hl ⊢
  split
  · rename_i hc
    refine ⟨by omega, by omega, ?_, .inr rfl⟩
    have := sq_le (a := 9223372036854775807) (b := rootS (SQ a b)) (by omega) (by omega)
    have := hr.lo
    omega
  · rename_i hc
    exact ⟨hr.R0, by omega, hr.lo, .inl hr.hi⟩
theorem len_five : lenS 196608 262144 = 327680 := by
  have h : rootS (SQ 196608 262144) = 327680 := rootS_of ⟨by omega, by decide, by decide⟩
  unfold lenS; rw [h]; rfl
end Go.Proofs.Ytdpblimhfmfbnaa.Fx
/- Nearness, as a truth. -/
namespace Go.Proofs.Ytdpblimhfmfbnaa.Fx
set_option linter.unusedVariables false
def withinS (a b c d r : Int) : Bool := decide (0 ≤ r) && decide (SQ (subS a c) (subS b d) < r * r)
theorem sub_self {a : Int} (h : I64 a) : subS a a = 0 := by
  have h1 := cnt_bd h
  unfold subS addS negS
  rw [cnt_in (x := -cnt a) (by omega), show cnt a + -cnt a = 0 by omega]
  decide
theorem SQ_zero : SQ 0 0 = 0 := by decide
theorem within_zero {a b c d : Int} : withinS a b c d 0 = false := by
  have h1 : 0 ≤ SQ (subS a c) (subS b d) := by
    unfold SQ
    have := Int.mul_nonneg (sz_bd (sub_i64 a c)).1 (sz_bd (sub_i64 a c)).1
    have := Int.mul_nonneg (sz_bd (sub_i64 b d)).1 (sz_bd (sub_i64 b d)).1
    omega
  unfold withinS
  rw [decide_eq_false (p := SQ (subS a c) (subS b d) < 0 * 0) (by omega)]
  simp
theorem within_self {a b : Int} (ha : I64 a) (hb : I64 b) : withinS a b a b 1 = true := by
  unfold withinS; rw [sub_self ha, sub_self hb, SQ_zero]; decide
end Go.Proofs.Ytdpblimhfmfbnaa.Fx
