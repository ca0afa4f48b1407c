/- Contracts of layer 17: what a disc meets, of the reference. -/
import Derived.Test.YtkggejdbkllaaaaDsb
import Derived.Test.YtkggejdbkllaaaaGrd
namespace Go.Proofs.Ytkggejdbkllaaaa
open Go.RowKit
set_option linter.unusedVariables false
def offS (x lo hi : Int) : Int := if x < lo then lo - x else if hi < x then x - hi else 0
theorem offS_eq (x c : Int) : offS x (c * 65536) (c * 65536 + 65536) = bsS x c := by
  unfold offS bsS
  (repeat' split) <;> omega
theorem roff_as (x lo hi y : Int) (w : World) (x0 : -1099511627776 ≤ x) (x1 : x ≤ 1099511627776) (l0 : 0 ≤ lo) (l1 : lo ≤ 2199023255552) (h0 : 0 ≤ hi) (h1 : hi ≤ 2199023255552) (E : Hk (offS x lo hi = y)) : Calls Try.prog 47 #[.int .i64 x, .int .i64 lo, .int .i64 hi] w fun e w' => e = .returned (.int .i64 y) ∧ w = w' := by
  by_cases q0 : x < lo
  · have b0 : decide (x < lo) = true := by simp; omega
    have R : Hk (y = lo - x) := ⟨by rw [← E.out]; unfold offS; rw [if_pos q0]⟩
    go_enter Try.func47, Try.ntmps47
    go_wp2
    go_ret
    exact ⟨ri R.out.symm, rfl⟩
  have b0 : decide (x < lo) = false := by simp; omega
  by_cases q1 : hi < x
  · have b1 : decide (hi < x) = true := by simp; omega
    have R : Hk (y = x - hi) := ⟨by rw [← E.out]; unfold offS; rw [if_neg q0, if_pos q1]⟩
    go_enter Try.func47, Try.ntmps47
    go_wp2
    go_ret
    exact ⟨ri R.out.symm, rfl⟩
  · have b1 : decide (hi < x) = false := by simp; omega
    have R : Hk (y = 0) := ⟨by rw [← E.out]; unfold offS; rw [if_neg q0, if_neg q1]⟩
    go_enter Try.func47, Try.ntmps47
    go_wp2
    go_ret
    exact ⟨ri R.out.symm, rfl⟩
theorem rmay_any (px py r : Int) (w : World) : Calls Try.prog 31 #[.agg #[.int .i64 px, .int .i64 py], .int .i64 r] w fun e w' => e = .returned (.bool (fmB px py r)) ∧ Below w.heap.size w w' := by
  by_cases q0 : ¬ (0 ≤ r)
  · have b0 : decide (0 ≤ r) = false := by simp; omega
    have R : Hk (fmB px py r = false) := ⟨by unfold fmB; simp; omega⟩
    go_enter Try.func31, Try.ntmps31
    go_wp2
    go_ret
    exact ⟨rbo R.out.symm, (Below.refl _ _).alloc (Nat.le_refl _) _⟩
  have b0 : decide (0 ≤ r) = true := by simp; omega
  by_cases q1 : ¬ (r ≤ 262144)
  · have b1 : decide (r ≤ 262144) = false := by simp; omega
    have R : Hk (fmB px py r = false) := ⟨by unfold fmB; simp; omega⟩
    go_enter Try.func31, Try.ntmps31
    go_wp2
    go_ret
    exact ⟨rbo R.out.symm, (Below.refl _ _).alloc (Nat.le_refl _) _⟩
  have b1 : decide (r ≤ 262144) = true := by simp; omega
  by_cases q2 : ¬ (-1099511627776 ≤ px)
  · have b2 : decide (-1099511627776 ≤ px) = false := by simp; omega
    have R : Hk (fmB px py r = false) := ⟨by unfold fmB; simp; omega⟩
    go_enter Try.func31, Try.ntmps31
    go_wp2
    go_ret
    exact ⟨rbo R.out.symm, (Below.refl _ _).alloc (Nat.le_refl _) _⟩
  have b2 : decide (-1099511627776 ≤ px) = true := by simp; omega
  by_cases q3 : ¬ (px ≤ 1099511627776)
  · have b3 : decide (px ≤ 1099511627776) = false := by simp; omega
    have R : Hk (fmB px py r = false) := ⟨by unfold fmB; simp; omega⟩
    go_enter Try.func31, Try.ntmps31
    go_wp2
    go_ret
    exact ⟨rbo R.out.symm, (Below.refl _ _).alloc (Nat.le_refl _) _⟩
  have b3 : decide (px ≤ 1099511627776) = true := by simp; omega
  by_cases q4 : ¬ (-1099511627776 ≤ py)
  · have b4 : decide (-1099511627776 ≤ py) = false := by simp; omega
    have R : Hk (fmB px py r = false) := ⟨by unfold fmB; simp; omega⟩
    go_enter Try.func31, Try.ntmps31
    go_wp2
    go_ret
    exact ⟨rbo R.out.symm, (Below.refl _ _).alloc (Nat.le_refl _) _⟩
  have b4 : decide (-1099511627776 ≤ py) = true := by simp; omega
  by_cases q5 : ¬ (py ≤ 1099511627776)
  · have b5 : decide (py ≤ 1099511627776) = false := by simp; omega
    have R : Hk (fmB px py r = false) := ⟨by unfold fmB; simp; omega⟩
    go_enter Try.func31, Try.ntmps31
    go_wp2
    go_ret
    exact ⟨rbo R.out.symm, (Below.refl _ _).alloc (Nat.le_refl _) _⟩
  have b5 : decide (py ≤ 1099511627776) = true := by simp; omega
  have R : Hk (fmB px py r = true) := ⟨by unfold fmB; simp; omega⟩
  go_enter Try.func31, Try.ntmps31
  go_wp2
  go_ret
  exact ⟨rbo R.out.symm, (Below.refl _ _).alloc (Nat.le_refl _) _⟩
theorem rmay_as (g : Bool) (px py r : Int) (w : World) (E : Hk (fmB px py r = g)) : Calls Try.prog 31 #[.agg #[.int .i64 px, .int .i64 py], .int .i64 r] w fun e w' => e = .returned (.bool g) ∧ Below w.heap.size w w' := by
  obtain ⟨rfl⟩ := E; exact rmay_any px py r w
theorem rtile_as' (r : Bool) (t W H : Int) (s : Value) (w : World) (w1 : 1 ≤ W) (w2 : W ≤ 128) (h1 : 1 ≤ H) (h2 : H ≤ 128) (R : Hk (decide (0 ≤ t ∧ t < W * H) = r)) :
    Calls Try.prog 32 #[.agg #[.int .i64 W, .int .i64 H, s], .int .i64 t] w fun e' w' => e' = .returned (.bool r) ∧ Below w.heap.size w w' := by
  obtain ⟨rfl⟩ := R; exact rtile_any t W H s w w1 w2 h1 h2
set_option maxHeartbeats 1600000 in
theorem rmeets_any (W H t px py r : Int) (s : Value) (w : World) (w1 : 1 ≤ W) (w2 : W ≤ 128) (t0 : 0 ≤ t) (t1 : t ≤ 16384) (hx : -1099511627776 ≤ px ∧ px ≤ 1099511627776) (hy : -1099511627776 ≤ py ∧ py ≤ 1099511627776) (hr : 0 ≤ r ∧ r ≤ 262144) :
    Calls Try.prog 33 #[.agg #[.int .i64 W, .int .i64 H, s], .int .i64 t, .agg #[.int .i64 px, .int .i64 py], .int .i64 r] w fun e w' => e = .returned (.bool (meetsS W t px py r)) ∧ Below w.heap.size w w' := by
  have q1 : 0 ≤ t % W := Int.emod_nonneg _ (by omega)
  have q2 : t % W < W := Int.emod_lt_of_pos _ (by omega)
  have q3 : 0 ≤ t / W := Int.ediv_nonneg t0 (by omega)
  have q4 : t / W ≤ t := Int.ediv_le_self _ t0
  have c1 : t % W ≤ 16384 := by omega
  have c2 : t / W ≤ 16384 := by omega
  have w0 : ¬ W = 0 := by omega
  have k1 : 0 ≤ t % W * 65536 := by omega
  have k2 : t % W * 65536 ≤ 2199023255552 := by omega
  have k3 : 0 ≤ t % W * 65536 + 65536 := by omega
  have k4 : t % W * 65536 + 65536 ≤ 2199023255552 := by omega
  have k5 : 0 ≤ t / W * 65536 := by omega
  have k6 : t / W * 65536 ≤ 2199023255552 := by omega
  have k7 : 0 ≤ t / W * 65536 + 65536 := by omega
  have k8 : t / W * 65536 + 65536 ≤ 2199023255552 := by omega
  have bX := bsS_bd hx ⟨q1, c1⟩
  have bY := bsS_bd hy ⟨q3, c2⟩
  have r1 : t.tmod W = t % W := Int.tmod_eq_emod_of_nonneg t0
  have r2 : t.tdiv W = t / W := Int.tdiv_eq_ediv_of_nonneg t0
  have e1 : IntKind.i64.wrap (t % W * 65536) = t % W * 65536 := IntWalk.i64_in _ (by omega)
  have e2 : IntKind.i64.wrap (t % W * 65536 + 65536) = t % W * 65536 + 65536 := IntWalk.i64_in _ (by omega)
  have e3 : IntKind.i64.wrap (t / W) = t / W := IntWalk.i64_in _ (by omega)
  have e4 : IntKind.i64.wrap (t / W * 65536) = t / W * 65536 := IntWalk.i64_in _ (by omega)
  have e5 : IntKind.i64.wrap (t / W * 65536 + 65536) = t / W * 65536 + 65536 := IntWalk.i64_in _ (by omega)
  obtain ⟨X, hX⟩ : ∃ X, bsS px (t % W) = X := ⟨_, rfl⟩
  obtain ⟨Y, hY⟩ : ∃ Y, bsS py (t / W) = Y := ⟨_, rfl⟩
  rw [hX] at bX
  rw [hY] at bY
  have R : Hk (meetsS W t px py r = (decide (X < r) && (decide (Y < r) && decide (X * X + Y * Y < r * r)))) := ⟨by unfold meetsS; rw [hX, hY]⟩
  have EX : Hk (offS px (t % W * 65536) (t % W * 65536 + 65536) = X) := ⟨by rw [offS_eq, hX]⟩
  have EY : Hk (offS py (t / W * 65536) (t / W * 65536 + 65536) = Y) := ⟨by rw [offS_eq, hY]⟩
  clear hX hY
  by_cases z1 : X < r
  · have d1 : decide (X < r) = true := by simp; omega
    by_cases z2 : Y < r
    · have d2 : decide (Y < r) = true := by simp; omega
      have m1 := Int.mul_le_mul (show X ≤ 262144 by omega) (show X ≤ 262144 by omega) bX.1 (by omega)
      have m2 := Int.mul_le_mul (show Y ≤ 262144 by omega) (show Y ≤ 262144 by omega) bY.1 (by omega)
      have m3 := Int.mul_le_mul hr.2 hr.2 hr.1 (by omega)
      have m4 : 0 ≤ X * X := Int.mul_nonneg bX.1 bX.1
      have m5 : 0 ≤ Y * Y := Int.mul_nonneg bY.1 bY.1
      have m6 : 0 ≤ r * r := Int.mul_nonneg hr.1 hr.1
      by_cases z3 : X * X + Y * Y < r * r
      · have d3 : decide (X * X + Y * Y < r * r) = true := by simp; omega
        have R2 : Hk (meetsS W t px py r = true) := ⟨by rw [R.out, d1, d2, d3]; rfl⟩
        go_enter Try.func33, Try.ntmps33
        go_wp2
        go_region_held3 (fun w' => w'.cell? ⟨w.heap.size, 0, none⟩ = some (.int .i64 W) ∧ w'.cell? ⟨w.heap.size + 1, 0, none⟩ = some (.int .i64 px) ∧ w'.cell? ⟨w.heap.size + 1, 1, none⟩ = some (.int .i64 py)) (go_keep) (fail)
        go_wp2
        go_region_held3 (fun w' => w'.cell? ⟨w.heap.size + 1, 0, none⟩ = some (.int .i64 px) ∧ w'.cell? ⟨w.heap.size + 1, 1, none⟩ = some (.int .i64 py)) (go_keep) (first | (go_at_call 47; (first | (with_reducible refine (roff_as px (t % W * 65536) (t % W * 65536 + 65536) X _ hx.1 hx.2 k1 k2 k3 k4 EX).mono ?_) | (with_reducible refine (roff_as py (t / W * 65536) (t / W * 65536 + 65536) Y _ hy.1 hy.2 k5 k6 k7 k8 EY).mono ?_)); rintro e w' ⟨rfl, rfl⟩))
        go_wp2
        go_ret
        exact ⟨rbo R2.out.symm, (((Below.refl _ _).alloc (Nat.le_refl _) _).alloc (by simp) _).drew.drew⟩
      · have d3 : decide (X * X + Y * Y < r * r) = false := by simp; omega
        have R2 : Hk (meetsS W t px py r = false) := ⟨by rw [R.out, d1, d2, d3]; rfl⟩
        go_enter Try.func33, Try.ntmps33
        go_wp2
        go_region_held3 (fun w' => w'.cell? ⟨w.heap.size, 0, none⟩ = some (.int .i64 W) ∧ w'.cell? ⟨w.heap.size + 1, 0, none⟩ = some (.int .i64 px) ∧ w'.cell? ⟨w.heap.size + 1, 1, none⟩ = some (.int .i64 py)) (go_keep) (fail)
        go_wp2
        go_region_held3 (fun w' => w'.cell? ⟨w.heap.size + 1, 0, none⟩ = some (.int .i64 px) ∧ w'.cell? ⟨w.heap.size + 1, 1, none⟩ = some (.int .i64 py)) (go_keep) (first | (go_at_call 47; (first | (with_reducible refine (roff_as px (t % W * 65536) (t % W * 65536 + 65536) X _ hx.1 hx.2 k1 k2 k3 k4 EX).mono ?_) | (with_reducible refine (roff_as py (t / W * 65536) (t / W * 65536 + 65536) Y _ hy.1 hy.2 k5 k6 k7 k8 EY).mono ?_)); rintro e w' ⟨rfl, rfl⟩))
        go_wp2
        go_ret
        exact ⟨rbo R2.out.symm, (((Below.refl _ _).alloc (Nat.le_refl _) _).alloc (by simp) _).drew.drew⟩
    · have d2 : decide (Y < r) = false := by simp; omega
      have R2 : Hk (meetsS W t px py r = false) := ⟨by rw [R.out, d1, d2]; rfl⟩
      go_enter Try.func33, Try.ntmps33
      go_wp2
      go_region_held3 (fun w' => w'.cell? ⟨w.heap.size, 0, none⟩ = some (.int .i64 W) ∧ w'.cell? ⟨w.heap.size + 1, 0, none⟩ = some (.int .i64 px) ∧ w'.cell? ⟨w.heap.size + 1, 1, none⟩ = some (.int .i64 py)) (go_keep) (fail)
      go_wp2
      go_region_held3 (fun w' => w'.cell? ⟨w.heap.size + 1, 0, none⟩ = some (.int .i64 px) ∧ w'.cell? ⟨w.heap.size + 1, 1, none⟩ = some (.int .i64 py)) (go_keep) (first | (go_at_call 47; (first | (with_reducible refine (roff_as px (t % W * 65536) (t % W * 65536 + 65536) X _ hx.1 hx.2 k1 k2 k3 k4 EX).mono ?_) | (with_reducible refine (roff_as py (t / W * 65536) (t / W * 65536 + 65536) Y _ hy.1 hy.2 k5 k6 k7 k8 EY).mono ?_)); rintro e w' ⟨rfl, rfl⟩))
      go_wp2
      go_ret
      exact ⟨rbo R2.out.symm, (((Below.refl _ _).alloc (Nat.le_refl _) _).alloc (by simp) _).drew.drew⟩
  · have d1 : decide (X < r) = false := by simp; omega
    have R2 : Hk (meetsS W t px py r = false) := ⟨by rw [R.out, d1]; rfl⟩
    go_enter Try.func33, Try.ntmps33
    go_wp2
    go_region_held3 (fun w' => w'.cell? ⟨w.heap.size, 0, none⟩ = some (.int .i64 W) ∧ w'.cell? ⟨w.heap.size + 1, 0, none⟩ = some (.int .i64 px) ∧ w'.cell? ⟨w.heap.size + 1, 1, none⟩ = some (.int .i64 py)) (go_keep) (fail)
    go_wp2
    go_region_held3 (fun w' => w'.cell? ⟨w.heap.size + 1, 0, none⟩ = some (.int .i64 px) ∧ w'.cell? ⟨w.heap.size + 1, 1, none⟩ = some (.int .i64 py)) (go_keep) (first | (go_at_call 47; (first | (with_reducible refine (roff_as px (t % W * 65536) (t % W * 65536 + 65536) X _ hx.1 hx.2 k1 k2 k3 k4 EX).mono ?_) | (with_reducible refine (roff_as py (t / W * 65536) (t / W * 65536 + 65536) Y _ hy.1 hy.2 k5 k6 k7 k8 EY).mono ?_)); rintro e w' ⟨rfl, rfl⟩))
    go_wp2
    go_ret
    exact ⟨rbo R2.out.symm, (((Below.refl _ _).alloc (Nat.le_refl _) _).alloc (by simp) _).drew.drew⟩
end Go.Proofs.Ytkggejdbkllaaaa
