/- Contracts of layer 17: what a disc meets. -/
import Derived.Test.YtkggejdbkllaaaaDsa
import Derived.Test.YtkggejdbkllaaaaByb
namespace Go.Proofs.Ytkggejdbkllaaaa
open Go.RowKit
set_option linter.unusedVariables false
theorem bsS_bd {x c : Int} (hx : -1099511627776 ≤ x ∧ x ≤ 1099511627776) (hc : 0 ≤ c ∧ c ≤ 16384) : 0 ≤ bsS x c ∧ bsS x c ≤ 1200000000000 := by
  unfold bsS; (repeat' split) <;> omega
theorem beside_any (x c : Int) (w : World) (x0 : -1099511627776 ≤ x) (x1 : x ≤ 1099511627776) (c0 : 0 ≤ c) (c1 : c ≤ 16384) : Calls Try.prog 55 #[.int .i64 x, .int .i64 c] w fun e w' => e = .returned (.int .i64 (bsS x c)) ∧ w = w' := by
  by_cases q0 : x < c * 65536
  · have R : Hk (bsS x c = c * 65536 - x) := ⟨by unfold bsS; rw [if_pos q0]⟩
    have b1 : ¬ c * 65536 - x < x - c * 65536 - 65536 := by omega
    have b2 : ¬ c * 65536 - x < 0 := by omega
    go_enter Try.func55, Try.ntmps55
    go_wp2
    go_ret
    exact ⟨ri R.out.symm, rfl⟩
  by_cases q1 : c * 65536 + 65536 < x
  · have R : Hk (bsS x c = x - c * 65536 - 65536) := ⟨by unfold bsS; rw [if_neg q0, if_pos q1]⟩
    have b1 : c * 65536 - x < x - c * 65536 - 65536 := by omega
    have b2 : ¬ x - c * 65536 - 65536 < 0 := by omega
    go_enter Try.func55, Try.ntmps55
    go_wp2
    go_ret
    exact ⟨ri R.out.symm, rfl⟩
  · have R : Hk (bsS x c = 0) := ⟨by unfold bsS; rw [if_neg q0, if_neg q1]⟩
    by_cases q2 : c * 65536 - x < x - c * 65536 - 65536
    · by_cases q3 : x - c * 65536 - 65536 < 0
      · go_enter Try.func55, Try.ntmps55
        go_wp2
        go_ret
        exact ⟨ri R.out.symm, rfl⟩
      · have e0 : x - c * 65536 - 65536 = 0 := by omega
        have E0 := Hk.mk e0
        clear e0
        go_enter Try.func55, Try.ntmps55
        go_wp2
        go_ret
        exact ⟨ri (by rw [R.out, E0.out]), rfl⟩
    · by_cases q3 : c * 65536 - x < 0
      · go_enter Try.func55, Try.ntmps55
        go_wp2
        go_ret
        exact ⟨ri R.out.symm, rfl⟩
      · have e0 : c * 65536 - x = 0 := by omega
        have E0 := Hk.mk e0
        clear e0
        go_enter Try.func55, Try.ntmps55
        go_wp2
        go_ret
        exact ⟨ri (by rw [R.out, E0.out]), rfl⟩
theorem beside_as (x c y : Int) (w : World) (x0 : -1099511627776 ≤ x) (x1 : x ≤ 1099511627776) (c0 : 0 ≤ c) (c1 : c ≤ 16384) (E : Hk (bsS x c = y)) : Calls Try.prog 55 #[.int .i64 x, .int .i64 c] w fun e w' => e = .returned (.int .i64 y) ∧ w = w' := by
  obtain ⟨rfl⟩ := E; exact beside_any x c w x0 x1 c0 c1
set_option maxHeartbeats 800000 in
theorem tmeets_any (W t px py r : Int) (w : World) (w1 : 1 ≤ W) (w2 : W ≤ 128) (t0 : 0 ≤ t) (t1 : t ≤ 16384) (hx : -1099511627776 ≤ px ∧ px ≤ 1099511627776) (hy : -1099511627776 ≤ py ∧ py ≤ 1099511627776) (hr : 0 ≤ r ∧ r ≤ 262144) :
    Calls Try.prog 50 #[.int .i64 W, .int .i64 t, .agg #[.int .i64 px, .int .i64 py], .int .i64 r] w fun e w' => e = .returned (.bool (meetsS W t px py r)) ∧ Below w.heap.size w w' := by
  have q1 : 0 ≤ t % W := Int.emod_nonneg _ (by omega)
  have q2 : t % W < W := Int.emod_lt_of_pos _ (by omega)
  have q3 : 0 ≤ t / W := Int.ediv_nonneg t0 (by omega)
  have q4 : t / W ≤ t := Int.ediv_le_self _ t0
  have c1 : t % W ≤ 16384 := by omega
  have c2 : t / W ≤ 16384 := by omega
  have w0 : ¬ W = 0 := by omega
  have r1 : t.tmod W = t % W := Int.tmod_eq_emod_of_nonneg t0
  have r2 : t.tdiv W = t / W := Int.tdiv_eq_ediv_of_nonneg t0
  have e3 : IntKind.i64.wrap (t / W) = t / W := IntWalk.i64_in _ (by omega)
  obtain ⟨X, hX⟩ : ∃ X, bsS px (t % W) = X := ⟨_, rfl⟩
  obtain ⟨Y, hY⟩ : ∃ Y, bsS py (t / W) = Y := ⟨_, rfl⟩
  have bX := bsS_bd hx ⟨q1, c1⟩
  have bY := bsS_bd hy ⟨q3, c2⟩
  rw [hX] at bX
  rw [hY] at bY
  have R : Hk (meetsS W t px py r = (decide (X < r) && (decide (Y < r) && decide (X * X + Y * Y < r * r)))) := ⟨by unfold meetsS; rw [hX, hY]⟩
  have EX := Hk.mk hX
  have EY := Hk.mk hY
  clear hX hY
  by_cases z1 : X < r
  · have d1 : decide (X < r) = true := by simp; omega
    by_cases z2 : Y < r
    · have d2 : decide (Y < r) = true := by simp; omega
      have m1 := Int.mul_le_mul (show X ≤ 262144 by omega) (show X ≤ 262144 by omega) bX.1 (by omega)
      have m2 := Int.mul_le_mul (show Y ≤ 262144 by omega) (show Y ≤ 262144 by omega) bY.1 (by omega)
      have m3 := Int.mul_le_mul hr.2 hr.2 hr.1 (by omega)
      have m4 : 0 ≤ X * X := Int.mul_nonneg bX.1 bX.1
      have m5 : 0 ≤ Y * Y := Int.mul_nonneg bY.1 bY.1
      have m6 : 0 ≤ r * r := Int.mul_nonneg hr.1 hr.1
      by_cases z3 : X * X + Y * Y < r * r
      · have d3 : decide (X * X + Y * Y < r * r) = true := by simp; omega
        have R2 : Hk (meetsS W t px py r = true) := ⟨by rw [R.out, d1, d2, d3]; rfl⟩
        go_enter Try.func50, Try.ntmps50
        go_wp2
        go_region_held3 (fun w' => w'.cell? ⟨w.heap.size, 0, none⟩ = some (.int .i64 px) ∧ w'.cell? ⟨w.heap.size, 1, none⟩ = some (.int .i64 py)) (go_keep) (first | (go_at_call 55; (first | (with_reducible refine (beside_as px (t % W) X _ hx.1 hx.2 q1 c1 EX).mono ?_) | (with_reducible refine (beside_as py (t / W) Y _ hy.1 hy.2 q3 c2 EY).mono ?_)); rintro e w' ⟨rfl, rfl⟩))
        go_wp2
        go_ret
        exact ⟨rbo R2.out.symm, ((Below.refl _ _).alloc (Nat.le_refl _) _).drew⟩
      · have d3 : decide (X * X + Y * Y < r * r) = false := by simp; omega
        have R2 : Hk (meetsS W t px py r = false) := ⟨by rw [R.out, d1, d2, d3]; rfl⟩
        go_enter Try.func50, Try.ntmps50
        go_wp2
        go_region_held3 (fun w' => w'.cell? ⟨w.heap.size, 0, none⟩ = some (.int .i64 px) ∧ w'.cell? ⟨w.heap.size, 1, none⟩ = some (.int .i64 py)) (go_keep) (first | (go_at_call 55; (first | (with_reducible refine (beside_as px (t % W) X _ hx.1 hx.2 q1 c1 EX).mono ?_) | (with_reducible refine (beside_as py (t / W) Y _ hy.1 hy.2 q3 c2 EY).mono ?_)); rintro e w' ⟨rfl, rfl⟩))
        go_wp2
        go_ret
        exact ⟨rbo R2.out.symm, ((Below.refl _ _).alloc (Nat.le_refl _) _).drew⟩
    · have d2 : decide (Y < r) = false := by simp; omega
      have R2 : Hk (meetsS W t px py r = false) := ⟨by rw [R.out, d1, d2]; rfl⟩
      go_enter Try.func50, Try.ntmps50
      go_wp2
      go_region_held3 (fun w' => w'.cell? ⟨w.heap.size, 0, none⟩ = some (.int .i64 px) ∧ w'.cell? ⟨w.heap.size, 1, none⟩ = some (.int .i64 py)) (go_keep) (first | (go_at_call 55; (first | (with_reducible refine (beside_as px (t % W) X _ hx.1 hx.2 q1 c1 EX).mono ?_) | (with_reducible refine (beside_as py (t / W) Y _ hy.1 hy.2 q3 c2 EY).mono ?_)); rintro e w' ⟨rfl, rfl⟩))
      go_wp2
      go_ret
      exact ⟨rbo R2.out.symm, ((Below.refl _ _).alloc (Nat.le_refl _) _).drew⟩
  · have d1 : decide (X < r) = false := by simp; omega
    have R2 : Hk (meetsS W t px py r = false) := ⟨by rw [R.out, d1]; rfl⟩
    go_enter Try.func50, Try.ntmps50
    go_wp2
    go_region_held3 (fun w' => w'.cell? ⟨w.heap.size, 0, none⟩ = some (.int .i64 px) ∧ w'.cell? ⟨w.heap.size, 1, none⟩ = some (.int .i64 py)) (go_keep) (first | (go_at_call 55; (first | (with_reducible refine (beside_as px (t % W) X _ hx.1 hx.2 q1 c1 EX).mono ?_) | (with_reducible refine (beside_as py (t / W) Y _ hy.1 hy.2 q3 c2 EY).mono ?_)); rintro e w' ⟨rfl, rfl⟩))
    go_wp2
    go_ret
    exact ⟨rbo R2.out.symm, ((Below.refl _ _).alloc (Nat.le_refl _) _).drew⟩
theorem num17_any (x : Int) (w : World) : Calls Try.prog 35 #[.int .i64 x] w fun e w' => e = .returned (.int .i64 x) ∧ w = w' := by
  go_enter Try.func35, Try.ntmps35
  go_wp2
  go_ret
  exact ⟨rfl, rfl⟩
theorem formed_any (px py r : Int) (w : World) : Calls Try.prog 49 #[.agg #[.int .i64 px, .int .i64 py], .int .i64 r] w fun e w' => e = .returned (.bool (fmB px py r)) ∧ Below w.heap.size w w' := by
  by_cases q0 : ¬ (0 ≤ r)
  · have b0 : decide (0 ≤ r) = false := by simp; omega
    have R : Hk (fmB px py r = false) := ⟨by unfold fmB; simp; omega⟩
    go_enter Try.func49, Try.ntmps49
    go_wp2
    go_ret
    exact ⟨rbo R.out.symm, (Below.refl _ _).alloc (Nat.le_refl _) _⟩
  have b0 : decide (0 ≤ r) = true := by simp; omega
  by_cases q1 : ¬ (r ≤ 262144)
  · have b1 : decide (r ≤ 262144) = false := by simp; omega
    have R : Hk (fmB px py r = false) := ⟨by unfold fmB; simp; omega⟩
    go_enter Try.func49, Try.ntmps49
    go_wp2
    go_ret
    exact ⟨rbo R.out.symm, (Below.refl _ _).alloc (Nat.le_refl _) _⟩
  have b1 : decide (r ≤ 262144) = true := by simp; omega
  by_cases q2 : ¬ (-1099511627776 ≤ px)
  · have b2 : decide (-1099511627776 ≤ px) = false := by simp; omega
    have R : Hk (fmB px py r = false) := ⟨by unfold fmB; simp; omega⟩
    go_enter Try.func49, Try.ntmps49
    go_wp2
    go_ret
    exact ⟨rbo R.out.symm, (Below.refl _ _).alloc (Nat.le_refl _) _⟩
  have b2 : decide (-1099511627776 ≤ px) = true := by simp; omega
  by_cases q3 : ¬ (px ≤ 1099511627776)
  · have b3 : decide (px ≤ 1099511627776) = false := by simp; omega
    have R : Hk (fmB px py r = false) := ⟨by unfold fmB; simp; omega⟩
    go_enter Try.func49, Try.ntmps49
    go_wp2
    go_ret
    exact ⟨rbo R.out.symm, (Below.refl _ _).alloc (Nat.le_refl _) _⟩
  have b3 : decide (px ≤ 1099511627776) = true := by simp; omega
  by_cases q4 : ¬ (-1099511627776 ≤ py)
  · have b4 : decide (-1099511627776 ≤ py) = false := by simp; omega
    have R : Hk (fmB px py r = false) := ⟨by unfold fmB; simp; omega⟩
    go_enter Try.func49, Try.ntmps49
    go_wp2
    go_ret
    exact ⟨rbo R.out.symm, (Below.refl _ _).alloc (Nat.le_refl _) _⟩
  have b4 : decide (-1099511627776 ≤ py) = true := by simp; omega
  by_cases q5 : ¬ (py ≤ 1099511627776)
  · have b5 : decide (py ≤ 1099511627776) = false := by simp; omega
    have R : Hk (fmB px py r = false) := ⟨by unfold fmB; simp; omega⟩
    go_enter Try.func49, Try.ntmps49
    go_wp2
    go_ret
    exact ⟨rbo R.out.symm, (Below.refl _ _).alloc (Nat.le_refl _) _⟩
  have b5 : decide (py ≤ 1099511627776) = true := by simp; omega
  have R : Hk (fmB px py r = true) := ⟨by unfold fmB; simp; omega⟩
  go_enter Try.func49, Try.ntmps49
  go_wp2
  go_ret
  exact ⟨rbo R.out.symm, (Below.refl _ _).alloc (Nat.le_refl _) _⟩
theorem formed_as (g : Bool) (px py r : Int) (w : World) (E : Hk (fmB px py r = g)) : Calls Try.prog 49 #[.agg #[.int .i64 px, .int .i64 py], .int .i64 r] w fun e w' => e = .returned (.bool g) ∧ Below w.heap.size w w' := by
  obtain ⟨rfl⟩ := E; exact formed_any px py r w
theorem bcellg' {W w1 : World} (hb : Below W.heap.size W w1) : (∀ b o, b < W.heap.size → w1.cell? ⟨b, o, none⟩ = W.cell? ⟨b, o, none⟩) ∧ (∀ b o, b < W.heap.size → w1.frozen? ⟨b, o, none⟩ = W.frozen? ⟨b, o, none⟩) :=
  ⟨fun b o h => hb.cell (p := ⟨b, o, none⟩) h, fun b o h => hb.frozen (p := ⟨b, o, none⟩) h⟩
theorem dmeets_form (t px py r : Int) (W H : Int) (a : Option Addr) (n c B : Nat) (xs : List Int) (w : World) (h : By w B a n xs) (hB : B ≤ w.heap.size) (hn : n ≤ 140737488355328) (g : ¬ GOk W H n xs) :
    Calls Try.prog 34 #[.agg #[.int .i64 W, .int .i64 H, .slice a n c], .int .i64 t, .agg #[.int .i64 px, .int .i64 py], .int .i64 r] w fun e' w' => e' = .returned (.tuple #[.bool false, .int .i64 1]) ∧ Below w.heap.size w w' := by
  have EQ : Hk (gE W H n xs = 1) := ⟨gE_no g⟩
  clear g
  have HH := Hk.mk ((h.alloc hB (.cells #[.int .i64 W, .int .i64 H, .slice a n c] 49)).alloc (by simp; omega) (.cells #[.int .i64 px, .int .i64 py] 59))
  have hB' : B ≤ ((w.alloc (.cells #[.int .i64 W, .int .i64 H, .slice a n c] 49)).alloc (.cells #[.int .i64 px, .int .i64 py] 59)).heap.size := by simp; omega
  clear h
  go_enter Try.func34, Try.ntmps34
  go_wp2_with (go_at_call 48; (with_reducible refine (check_as 1 W H a n c B xs _ HH.out hB' hn EQ).mono ?_); rintro e w1 ⟨rfl, hb1⟩; obtain ⟨hc1, hf1⟩ := bcellg' hb1; have hz1 := hb1.size; simp at hz1; have q0 : w.heap.size < w1.heap.size := (by omega); have q1 : w.heap.size + 1 < w1.heap.size := (by omega); clear hz1; have HB1 := Hk.mk hb1; clear hb1)
  go_ret2
  exact ⟨rfl, ((((Below.refl _ _).alloc (Nat.le_refl _) _).alloc (by simp) _).trans (HB1.out.mono (by simp <;> omega)))⟩
theorem dmeets_may (t px py r : Int) (W H : Int) (a : Option Addr) (n c B : Nat) (xs : List Int) (w : World) (h : By w B a n xs) (hB : B ≤ w.heap.size) (hn : n ≤ 140737488355328) (g : GOk W H n xs) (EF : Hk (fmB px py r = false)) :
    Calls Try.prog 34 #[.agg #[.int .i64 W, .int .i64 H, .slice a n c], .int .i64 t, .agg #[.int .i64 px, .int .i64 py], .int .i64 r] w fun e' w' => e' = .returned (.tuple #[.bool false, .int .i64 1]) ∧ Below w.heap.size w w' := by
  have EQ : Hk (gE W H n xs = 0) := ⟨gE_yes g⟩
  clear g
  have HH := Hk.mk ((h.alloc hB (.cells #[.int .i64 W, .int .i64 H, .slice a n c] 49)).alloc (by simp; omega) (.cells #[.int .i64 px, .int .i64 py] 59))
  have hB' : B ≤ ((w.alloc (.cells #[.int .i64 W, .int .i64 H, .slice a n c] 49)).alloc (.cells #[.int .i64 px, .int .i64 py] 59)).heap.size := by simp; omega
  clear h
  go_enter Try.func34, Try.ntmps34
  go_wp2_with (first | (go_at_call 48; (with_reducible refine (check_as 0 W H a n c B xs _ HH.out hB' hn EQ).mono ?_); rintro e w1 ⟨rfl, hb1⟩; obtain ⟨hc1, hf1⟩ := bcellg' hb1; have hz1 := hb1.size; simp at hz1; have q0 : w.heap.size < w1.heap.size := (by omega); have q1 : w.heap.size + 1 < w1.heap.size := (by omega); clear hz1; have HB1 := Hk.mk hb1; clear hb1) | (go_at_call 49; (with_reducible refine (formed_as false px py r _ EF).mono ?_); rintro e w2 ⟨rfl, hb2⟩; obtain ⟨hc2, hf2⟩ := bcellg' hb2; have hz2 := hb2.size; have q2 : w.heap.size < w2.heap.size := (by omega); have q3 : w.heap.size + 1 < w2.heap.size := (by omega); clear hz2; have HB2 := Hk.mk hb2; clear hb2))
  go_ret2
  exact ⟨rfl, (((((Below.refl _ _).alloc (Nat.le_refl _) _).alloc (by simp) _).trans (HB1.out.mono (by simp <;> omega))).trans (HB2.out.mono (by omega)))⟩
theorem dmeets_none (t px py r : Int) (W H : Int) (a : Option Addr) (n c B : Nat) (xs : List Int) (w : World) (h : By w B a n xs) (hB : B ≤ w.heap.size) (hn : n ≤ 140737488355328) (g : GOk W H n xs) (EF : Hk (fmB px py r = true)) (ht : ¬ (0 ≤ t ∧ t < W * H)) :
    Calls Try.prog 34 #[.agg #[.int .i64 W, .int .i64 H, .slice a n c], .int .i64 t, .agg #[.int .i64 px, .int .i64 py], .int .i64 r] w fun e' w' => e' = .returned (.tuple #[.bool false, .int .i64 3]) ∧ Below w.heap.size w w' := by
  have EQ : Hk (gE W H n xs = 0) := ⟨gE_yes g⟩
  have hnn : ¬ (0 ≤ t ∧ t < (n : Int)) := by rw [g.nn]; exact ht
  clear g ht
  by_cases t0 : t < 0
  · have b1 : decide (t < 0) = true := by simp; omega
    clear hnn
    have HH := Hk.mk ((h.alloc hB (.cells #[.int .i64 W, .int .i64 H, .slice a n c] 49)).alloc (by simp; omega) (.cells #[.int .i64 px, .int .i64 py] 59))
    have hB' : B ≤ ((w.alloc (.cells #[.int .i64 W, .int .i64 H, .slice a n c] 49)).alloc (.cells #[.int .i64 px, .int .i64 py] 59)).heap.size := by simp; omega
    clear h
    go_enter Try.func34, Try.ntmps34
    go_wp2_with (first | (go_at_call 48; (with_reducible refine (check_as 0 W H a n c B xs _ HH.out hB' hn EQ).mono ?_); rintro e w1 ⟨rfl, hb1⟩; obtain ⟨hc1, hf1⟩ := bcellg' hb1; have hz1 := hb1.size; simp at hz1; have q0 : w.heap.size < w1.heap.size := (by omega); have q1 : w.heap.size + 1 < w1.heap.size := (by omega); clear hz1; have HB1 := Hk.mk hb1; clear hb1) | (go_at_call 49; (with_reducible refine (formed_as true px py r _ EF).mono ?_); rintro e w2 ⟨rfl, hb2⟩; obtain ⟨hc2, hf2⟩ := bcellg' hb2; have hz2 := hb2.size; have q2 : w.heap.size < w2.heap.size := (by omega); have q3 : w.heap.size + 1 < w2.heap.size := (by omega); clear hz2; have HB2 := Hk.mk hb2; clear hb2))
    go_ret2
    exact ⟨rfl, (((((Below.refl _ _).alloc (Nat.le_refl _) _).alloc (by simp) _).trans (HB1.out.mono (by simp <;> omega))).trans (HB2.out.mono (by omega)))⟩
  · have b1 : decide (t < 0) = false := by simp; omega
    have b2 : decide ((n : Int) ≤ t) = true := by simp; omega
    clear hnn
    have HH := Hk.mk ((h.alloc hB (.cells #[.int .i64 W, .int .i64 H, .slice a n c] 49)).alloc (by simp; omega) (.cells #[.int .i64 px, .int .i64 py] 59))
    have hB' : B ≤ ((w.alloc (.cells #[.int .i64 W, .int .i64 H, .slice a n c] 49)).alloc (.cells #[.int .i64 px, .int .i64 py] 59)).heap.size := by simp; omega
    clear h
    go_enter Try.func34, Try.ntmps34
    go_wp2_with (first | (go_at_call 48; (with_reducible refine (check_as 0 W H a n c B xs _ HH.out hB' hn EQ).mono ?_); rintro e w1 ⟨rfl, hb1⟩; obtain ⟨hc1, hf1⟩ := bcellg' hb1; have hz1 := hb1.size; simp at hz1; have q0 : w.heap.size < w1.heap.size := (by omega); have q1 : w.heap.size + 1 < w1.heap.size := (by omega); clear hz1; have HB1 := Hk.mk hb1; clear hb1) | (go_at_call 49; (with_reducible refine (formed_as true px py r _ EF).mono ?_); rintro e w2 ⟨rfl, hb2⟩; obtain ⟨hc2, hf2⟩ := bcellg' hb2; have hz2 := hb2.size; have q2 : w.heap.size < w2.heap.size := (by omega); have q3 : w.heap.size + 1 < w2.heap.size := (by omega); clear hz2; have HB2 := Hk.mk hb2; clear hb2))
    go_ret2
    exact ⟨rfl, (((((Below.refl _ _).alloc (Nat.le_refl _) _).alloc (by simp) _).trans (HB1.out.mono (by simp <;> omega))).trans (HB2.out.mono (by omega)))⟩
theorem dmeets_yes (t px py r : Int) (W H : Int) (a : Option Addr) (n c B : Nat) (xs : List Int) (w : World) (h : By w B a n xs) (hB : B ≤ w.heap.size) (hn : n ≤ 140737488355328) (g : GOk W H n xs) (EF : Hk (fmB px py r = true)) (t0 : 0 ≤ t) (t1 : t < W * H) :
    Calls Try.prog 34 #[.agg #[.int .i64 W, .int .i64 H, .slice a n c], .int .i64 t, .agg #[.int .i64 px, .int .i64 py], .int .i64 r] w fun e' w' => e' = .returned (.tuple #[.bool (meetsS W t px py r), .int .i64 0]) ∧ Below w.heap.size w w' := by
  have EQ : Hk (gE W H n xs = 0) := ⟨gE_yes g⟩
  obtain ⟨m1, m2⟩ := mul_bd g.w1 g.w2 g.h1 g.h2
  have w1' := g.w1
  have w2' := g.w2
  have hnn : t < (n : Int) := by rw [g.nn]; exact t1
  obtain ⟨hr1, hr2, hx1, hx2, hy1, hy2⟩ : 0 ≤ r ∧ r ≤ 262144 ∧ -1099511627776 ≤ px ∧ px ≤ 1099511627776 ∧ -1099511627776 ≤ py ∧ py ≤ 1099511627776 := by have := EF.out; unfold fmB at this; simpa using this
  clear g
  have b1 : decide (t < 0) = false := by simp; omega
  have b2 : decide ((n : Int) ≤ t) = false := by simp; omega
  have HH := Hk.mk ((h.alloc hB (.cells #[.int .i64 W, .int .i64 H, .slice a n c] 49)).alloc (by simp; omega) (.cells #[.int .i64 px, .int .i64 py] 59))
  have hB' : B ≤ ((w.alloc (.cells #[.int .i64 W, .int .i64 H, .slice a n c] 49)).alloc (.cells #[.int .i64 px, .int .i64 py] 59)).heap.size := by simp; omega
  clear h
  go_enter Try.func34, Try.ntmps34
  go_wp2_with (first | (go_at_call 48; (with_reducible refine (check_as 0 W H a n c B xs _ HH.out hB' hn EQ).mono ?_); rintro e w1 ⟨rfl, hb1⟩; obtain ⟨hc1, hf1⟩ := bcellg' hb1; have hz1 := hb1.size; simp at hz1; have q0 : w.heap.size < w1.heap.size := (by omega); have q1 : w.heap.size + 1 < w1.heap.size := (by omega); clear hz1; have HB1 := Hk.mk hb1; clear hb1) | (go_at_call 49; (with_reducible refine (formed_as true px py r _ EF).mono ?_); rintro e w2 ⟨rfl, hb2⟩; obtain ⟨hc2, hf2⟩ := bcellg' hb2; have hz2 := hb2.size; have q2 : w.heap.size < w2.heap.size := (by omega); have q3 : w.heap.size + 1 < w2.heap.size := (by omega); clear hz2; have HB2 := Hk.mk hb2; clear hb2) | (go_at_call 50; (with_reducible refine (tmeets_any W t px py r _ w1' w2' t0 (by omega) ⟨hx1, hx2⟩ ⟨hy1, hy2⟩ ⟨hr1, hr2⟩).mono ?_); rintro e w3 ⟨rfl, hb3⟩; have HB3 := Hk.mk hb3; clear hb3))
  go_ret2
  exact ⟨rfl, ((((((Below.refl _ _).alloc (Nat.le_refl _) _).alloc (by simp) _).trans (HB1.out.mono (by simp <;> omega))).trans (HB2.out.mono (by omega)))).trans (HB3.out.mono (by omega))⟩
theorem m_wakes : meetsS 1 0 32768 32768 1 = true := by decide
theorem wakes17_any (w : World) : Calls Try.prog 36 #[] w fun e w' => e = .returned (.bool true) ∧ Below w.heap.size w w' := by
  have HG : Hk (GOk 1 1 1 [0]) := ⟨by omega, by omega, by omega, by omega, by decide, by decide⟩
  have HBY := Hk.mk (By.lit w [0] 5 (0, 0) (w.heap.size + 1) 1 rfl (by intro b hb; simp at hb; subst hb; unfold Fn.Byt; omega) (by omega))
  have hmk : ∀ w, (Instr.makeSlice 47 (.int .i64 1) (.int .i64 1)).run Try.prog w = .ok (.slice (some ⟨w.heap.size, 0, none⟩) 1 1) (w.alloc (.cells #[.int .u8 0] 5)) := fun _ => by kernel_rfl
  have EF : Hk (fmB 32768 32768 1 = true) := ⟨by decide⟩
  have EM := Hk.mk m_wakes
  go_enter Try.func36, Try.ntmps36
  go_wp2_with (first | (go_at_call 34; go_must (refine (dmeets_yes 0 32768 32768 1 1 1 (some ⟨w.heap.size, 0, none⟩) 1 1 (w.heap.size + 1) [0] _ HBY.out (by simp) (by omega) HG.out EF (by omega) (by omega)).mono ?_); rw [EM.out]; rintro e w1 ⟨rfl, hb1⟩; have HB1 := Hk.mk hb1; clear hb1) | (go_at_call 35; (with_reducible refine (num17_any _ _).mono ?_); rintro e w' ⟨rfl, rfl⟩))
  go_ret
  exact ⟨rfl, ((Below.refl _ _).alloc (Nat.le_refl _) _).trans (HB1.out.mono (by simp <;> omega))⟩
end Go.Proofs.Ytkggejdbkllaaaa
