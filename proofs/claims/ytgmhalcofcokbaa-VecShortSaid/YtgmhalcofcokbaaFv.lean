/- Small numbers: products, quotients, halves. -/
import Derived.Test.YtgmhalcofcokbaaFw
import Derived.IntWalk
namespace Go.Proofs.Ytgmhalcofcokbaa.Fx
set_option linter.unusedVariables false
theorem tmod_bd (x : Int) (n : Int) (hn : 0 < n) : -n < x.tmod n ∧ x.tmod n < n := by
  constructor
  · have h := Int.tmod_nonneg n (a := -x)
    have h1 : (-x).tmod n = -(x.tmod n) := Int.neg_tmod x n
    by_cases hx : 0 ≤ x
    · have := Int.tmod_nonneg n hx; omega
    · have h2 := Int.tmod_lt_of_pos (-x) hn; omega
  · exact Int.tmod_lt_of_pos x hn
theorem i64_small {x n : Int} (h : -n < x ∧ x < n) (hn : n ≤ 9223372036854775807) : I64 x := by unfold I64; omega
/-- The quotient of small numbers, by Go's own quotient. -/
theorem div_down {X Y : Int} (hX : -1073741824 < X ∧ X < 1073741824) (hY : -1073741824 < Y ∧ Y < 1073741824) (h0 : Y ≠ 0) :
    (-70368744177664 ≤ (X * 65536).tdiv Y ∧ (X * 65536).tdiv Y ≤ 70368744177664) ∧
    divS X Y = (X * 65536).tdiv Y - (if (X * 65536).tmod Y ≠ 0 ∧ ((X < 0) ↔ ¬ (Y < 0)) then 1 else 0) := by
  have key : -70368744177664 ≤ (X * 65536).tdiv Y ∧ (X * 65536).tdiv Y ≤ 70368744177664 := by
    have h1 : ((X * 65536).tdiv Y).natAbs = (X * 65536).natAbs / Y.natAbs := Int.natAbs_tdiv _ _
    have h2 : (X * 65536).natAbs / Y.natAbs ≤ (X * 65536).natAbs := Nat.div_le_self _ _
    omega
  refine ⟨key, ?_⟩
  rw [divS_floor (i64_small hX (by omega)) (i64_small hY (by omega)) h0, cnt_in (by omega), cnt_in (by omega)]
  have hs : (X * 65536) = Y * (X * 65536).tdiv Y + (X * 65536).tmod Y := (Int.mul_tdiv_add_tmod _ _).symm
  generalize hT : (X * 65536).tdiv Y = T at *
  generalize hR : (X * 65536).tmod Y = R at *
  have hRs : (0 ≤ X → 0 ≤ R) ∧ (X ≤ 0 → R ≤ 0) := by
    constructor
    · intro h; rw [← hR]; exact Int.tmod_nonneg _ (by omega)
    · intro h
      have h3 : (-(X * 65536)).tmod Y = -R := by rw [Int.neg_tmod, hR]
      have := Int.tmod_nonneg Y (a := -(X * 65536)) (by omega)
      omega
  have hRb : -(Y.natAbs : Int) < R ∧ R < Y.natAbs := by
    have h4 : R.natAbs < Y.natAbs := by rw [← hR, Int.natAbs_tmod]; exact Nat.mod_lt _ (by omega)
    omega
  clear hT hR
  by_cases hy : 0 < Y
  · rw [if_pos hy]
    by_cases hc : R ≠ 0 ∧ ((X < 0) ↔ ¬ (Y < 0))
    · rw [if_pos hc]
      have : X * 65536 / Y = T - 1 := by
        refine ((Int.ediv_emod_unique (r := Y + R) hy).2 ⟨?_, by omega, by omega⟩).1
        rw [Int.mul_sub, Int.mul_one]; omega
      rw [this]; exact clamp_in (by omega)
    · rw [if_neg hc]
      have : X * 65536 / Y = T := by
        refine ((Int.ediv_emod_unique (r := R) hy).2 ⟨by omega, by omega, by omega⟩).1
      rw [this, Int.sub_zero]; exact clamp_in (by omega)
  · rw [if_neg hy]
    have hs2 : -X * 65536 = -Y * T - R := by rw [Int.neg_mul, Int.neg_mul]; omega
    by_cases hc : R ≠ 0 ∧ ((X < 0) ↔ ¬ (Y < 0))
    · rw [if_pos hc]
      have : -X * 65536 / -Y = T - 1 := by
        refine ((Int.ediv_emod_unique (r := -Y - R) (by omega)).2 ⟨?_, by omega, by omega⟩).1
        rw [Int.mul_sub, Int.mul_one]; omega
      rw [this]; exact clamp_in (by omega)
    · rw [if_neg hc]
      have : -X * 65536 / -Y = T := by
        refine ((Int.ediv_emod_unique (r := -R) (by omega)).2 ⟨by omega, by omega, by omega⟩).1
      rw [this, Int.sub_zero]; exact clamp_in (by omega)
open Go.RowKit in
theorem down_wrap {X Y : Int} (hX : -1073741824 < X ∧ X < 1073741824) (hY : -1073741824 < Y ∧ Y < 1073741824) (h0 : Y ≠ 0) :
    wrap64 ((X * 65536).tdiv Y) = (X * 65536).tdiv Y ∧ wrap64 (wrap64 ((X * 65536).tdiv Y) - 1) = (X * 65536).tdiv Y - 1 := by
  have k := (div_down hX hY h0).1
  have e : wrap64 ((X * 65536).tdiv Y) = (X * 65536).tdiv Y := IntWalk.wrap64_in _ (by omega)
  rw [e]
  exact ⟨rfl, IntWalk.wrap64_in _ (by omega)⟩
open Go.RowKit in
theorem down1 {X Y : Int} (hX : -1073741824 < X ∧ X < 1073741824) (hY : -1073741824 < Y ∧ Y < 1073741824) (h0 : Y ≠ 0) (h : (X * 65536).tmod Y = 0) : (divS X Y != wrap64 ((X * 65536).tdiv Y)) = false := by
  rw [(down_wrap hX hY h0).1, (div_down hX hY h0).2, if_neg (fun c => c.1 h)]; simp
open Go.RowKit in
theorem down2 {X Y : Int} (hX : -1073741824 < X ∧ X < 1073741824) (hY : -1073741824 < Y ∧ Y < 1073741824) (h0 : Y ≠ 0) (h : ((X * 65536).tmod Y != 0) = true ∧ (!decide (X * 65536 < 0) == decide (Y < 0)) = true) : (divS X Y != wrap64 (wrap64 ((X * 65536).tdiv Y) - 1)) = false := by
  obtain ⟨h1, h2⟩ := h
  rw [(down_wrap hX hY h0).2, (div_down hX hY h0).2, if_pos ⟨by simpa using h1, by
    by_cases a : X < 0
    · have a' : X * 65536 < 0 := by omega
      simp [a, a'] at h2 ⊢; omega
    · have a' : ¬ X * 65536 < 0 := by omega
      simp [a, a'] at h2 ⊢; omega⟩]
  simp
open Go.RowKit in
theorem down3 {X Y : Int} (hX : -1073741824 < X ∧ X < 1073741824) (hY : -1073741824 < Y ∧ Y < 1073741824) (h0 : Y ≠ 0) (h : ((X * 65536).tmod Y != 0) = false ∨ (!decide (X * 65536 < 0) == decide (Y < 0)) = false) : (divS X Y != wrap64 ((X * 65536).tdiv Y)) = false := by
  rw [(down_wrap hX hY h0).1, (div_down hX hY h0).2, if_neg (fun c => by
    rcases h with h | h
    · exact c.1 (by simpa using h)
    · have c2 := c.2
      by_cases a : X < 0
      · have a' : X * 65536 < 0 := by omega
        simp [a, a'] at h c2; omega
      · have a' : ¬ X * 65536 < 0 := by omega
        simp [a, a'] at h c2; omega)]
  simp
/-- Halves, and what is turned round. -/
theorem halves_back {X : Int} (hX : -1099511627776 < X ∧ X < 1099511627776) :
    mulS X 131072 = 2 * X ∧ divS (2 * X) 131072 = X ∧ mulS X (-65536) = -X ∧ divS X (-65536) = -X := by
  have i0 : I64 X := i64_small hX (by omega)
  have i1 : I64 131072 := by unfold I64; omega
  have i2 : I64 (2 * X) := by unfold I64; omega
  have i3 : I64 (-65536) := by unfold I64; omega
  refine ⟨?_, ?_, ?_, ?_⟩
  · rw [mulS_floor i0 i1, cnt_in (x := X) (by omega), cnt_in (x := 131072) (by omega), show X * 131072 / 65536 = 2 * X by omega]; exact clamp_in (by omega)
  · rw [divS_floor i2 i1 (by omega), if_pos (by omega), cnt_in (x := 2 * X) (by omega), cnt_in (x := 131072) (by omega), show 2 * X * 65536 / 131072 = X by omega]; exact clamp_in (by omega)
  · rw [mulS_floor i0 i3, cnt_in (x := X) (by omega), cnt_in (x := -65536) (by omega), show X * -65536 / 65536 = -X by omega]; exact clamp_in (by omega)
  · rw [divS_floor i0 i3 (by omega), if_neg (by omega), cnt_in (x := X) (by omega), cnt_in (x := -65536) (by omega), show -X * 65536 / - -65536 = -X by rw [show (- -65536 : Int) = 65536 from rfl]; omega]; exact clamp_in (by omega)
theorem quo_back {X Y : Int} (hX : -1099511627776 < X ∧ X < 1099511627776) (hY : 0 < Y ∧ Y < 1048576) :
    (-72057594037927936 ≤ divS X Y ∧ divS X Y ≤ 72057594037927936) ∧ divS X Y * Y ≤ X * 65536 ∧ X * 65536 - divS X Y * Y < Y ∧ -72057594037927936 - 1048576 ≤ divS X Y * Y := by
  have i0 : I64 X := i64_small hX (by omega)
  have i1 : I64 Y := by unfold I64; omega
  have e : divS X Y = X * 65536 / Y := by
    rw [divS_floor i0 i1 (by omega), if_pos hY.1, cnt_in (x := X) (by omega), cnt_in (x := Y) (by omega)]
    have h1 : (X * 65536 / Y).natAbs ≤ (X * 65536).natAbs := Int.natAbs_ediv_le_natAbs _ _
    exact clamp_in (by omega)
  have h1 : (X * 65536 / Y).natAbs ≤ (X * 65536).natAbs := Int.natAbs_ediv_le_natAbs _ _
  have h2 := Int.mul_ediv_add_emod (X * 65536) Y
  have h3 : 0 ≤ X * 65536 % Y := Int.emod_nonneg _ (by omega)
  have h4 : X * 65536 % Y < Y := Int.emod_lt_of_pos _ hY.1
  rw [e, Int.mul_comm _ Y]
  generalize X * 65536 / Y = D at *
  generalize Y * D = P at *
  omega
end Go.Proofs.Ytgmhalcofcokbaa.Fx
