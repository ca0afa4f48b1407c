/- The contracts of package sector: Count and Of. -/
import Derived.Test.YtkggejdbkllaaaaSca
namespace Go.Proofs.Ytkggejdbkllaaaa
open Go.RowKit
set_option linter.unusedVariables false
theorem count_yes (W H : Int) (w : World) (E : Hk (Fx.szB W H = true)) : Calls Try.prog 13 #[.int .i64 W, .int .i64 H] w fun e w' => e = .returned (.tuple #[.int .i64 (Fx.acS W * Fx.acS H), .int .i64 0]) ∧ Below w.heap.size w w' := by
  have hs := E.out
  unfold Fx.szB at hs
  simp at hs
  obtain ⟨w1, w2, h1, h2⟩ := hs
  obtain ⟨a1, a2⟩ := Fx.acS_bd w1 w2
  obtain ⟨a3, a4⟩ := Fx.acS_bd h1 h2
  have m0 : 0 ≤ Fx.acS W * Fx.acS H := Int.mul_nonneg (by omega) (by omega)
  have m1 : Fx.acS W * Fx.acS H ≤ 16 * 16 := Int.mul_le_mul a2 a4 (by omega) (by omega)
  have e1 : IntKind.i64.wrap (Fx.acS W * Fx.acS H) = Fx.acS W * Fx.acS H := wr_in' (by omega)
  clear m0 m1 a1 a2 a3 a4
  go_enter Try.func13, Try.ntmps13
  go_wp2_with (first | (go_at_call 39; (with_reducible refine (sized_as true W H _ E).mono ?_); rintro e w' ⟨rfl, eb⟩) | (go_at_call 40; go_must (refine (across_any _ _ ?_ ?_).mono ?_); (first | exact w1 | exact h1); (first | exact w2 | exact h2); rintro e w2 ⟨rfl, eb2⟩; replace eb := eb.trans (eb2.mono eb.size); clear eb2))
  refine bodyPost_ret (v := .tuple #[.int .i64 (Fx.acS W * Fx.acS H), .int .i64 0]) (by simp [results, Try.results13, go_sem]) rfl ⟨rfl, ?_⟩
  exact eb
theorem count_no (W H : Int) (w : World) (E : Hk (Fx.szB W H = false)) : Calls Try.prog 13 #[.int .i64 W, .int .i64 H] w fun e w' => e = .returned (.tuple #[.int .i64 0, .int .i64 1]) ∧ Below w.heap.size w w' := by
  go_enter Try.func13, Try.ntmps13
  go_wp2_with (go_at_call 39; (with_reducible refine (sized_as false W H _ E).mono ?_); rintro e w' ⟨rfl, eb⟩)
  refine bodyPost_ret (v := .tuple #[.int .i64 0, .int .i64 1]) (by simp [results, Try.results13, go_sem]) rfl ⟨rfl, ?_⟩
  exact eb
theorem of_yes10 (W H t : Int) (w : World) (E : Hk (Fx.szB W H = true)) (t0 : 0 ≤ t) (t1 : t < W * H) : Calls Try.prog 16 #[.int .i64 W, .int .i64 H, .int .i64 t] w fun e w' => e = .returned (.tuple #[.int .i64 (Fx.ofS W t), .int .i64 0]) ∧ Below w.heap.size w w' := by
  have hs := E.out
  unfold Fx.szB at hs
  simp at hs
  obtain ⟨w1, w2, h1, h2⟩ := hs
  obtain ⟨n1, n2⟩ := mul_bd w1 w2 h1 h2
  have e1 : IntKind.i64.wrap (W * H) = W * H := wr_in' (by omega)
  have b0 : decide (t < 0) = false := by simp; omega
  have b1 : decide (W * H ≤ t) = false := by simp; omega
  go_enter Try.func16, Try.ntmps16
  go_wp2_with (first | (go_at_call 39; (with_reducible refine (sized_as true W H _ E).mono ?_); rintro e w' ⟨rfl, eb⟩) | (go_at_call 41; go_must (refine (sof_any W t _ w1 w2 t0 (by omega)).mono ?_); rintro e w2 ⟨rfl, eb2⟩))
  refine bodyPost_ret (v := .tuple #[.int .i64 (Fx.ofS W t), .int .i64 0]) (by simp [results, Try.results16, go_sem]) rfl ⟨rfl, ?_⟩
  exact eb.trans (eb2.mono eb.size)
theorem of_neg10 (W H t : Int) (w : World) (E : Hk (Fx.szB W H = true)) (t0 : t < 0) : Calls Try.prog 16 #[.int .i64 W, .int .i64 H, .int .i64 t] w fun e w' => e = .returned (.tuple #[.int .i64 0, .int .i64 3]) ∧ Below w.heap.size w w' := by
  have hs := E.out
  unfold Fx.szB at hs
  simp at hs
  obtain ⟨w1, w2, h1, h2⟩ := hs
  obtain ⟨n1, n2⟩ := mul_bd w1 w2 h1 h2
  have e1 : IntKind.i64.wrap (W * H) = W * H := wr_in' (by omega)
  have b0 : decide (t < 0) = true := by simp; omega
  go_enter Try.func16, Try.ntmps16
  go_wp2_with (go_at_call 39; (with_reducible refine (sized_as true W H _ E).mono ?_); rintro e w' ⟨rfl, eb⟩)
  refine bodyPost_ret (v := .tuple #[.int .i64 0, .int .i64 3]) (by simp [results, Try.results16, go_sem]) rfl ⟨rfl, ?_⟩
  exact eb
theorem of_far10 (W H t : Int) (w : World) (E : Hk (Fx.szB W H = true)) (t0 : 0 ≤ t) (t1 : W * H ≤ t) : Calls Try.prog 16 #[.int .i64 W, .int .i64 H, .int .i64 t] w fun e w' => e = .returned (.tuple #[.int .i64 0, .int .i64 3]) ∧ Below w.heap.size w w' := by
  have hs := E.out
  unfold Fx.szB at hs
  simp at hs
  obtain ⟨w1, w2, h1, h2⟩ := hs
  obtain ⟨n1, n2⟩ := mul_bd w1 w2 h1 h2
  have e1 : IntKind.i64.wrap (W * H) = W * H := wr_in' (by omega)
  have b0 : decide (t < 0) = false := by simp; omega
  have b1 : decide (W * H ≤ t) = true := by simp; omega
  go_enter Try.func16, Try.ntmps16
  go_wp2_with (go_at_call 39; (with_reducible refine (sized_as true W H _ E).mono ?_); rintro e w' ⟨rfl, eb⟩)
  refine bodyPost_ret (v := .tuple #[.int .i64 0, .int .i64 3]) (by simp [results, Try.results16, go_sem]) rfl ⟨rfl, ?_⟩
  exact eb
theorem of_form10 (W H t : Int) (w : World) (E : Hk (Fx.szB W H = false)) : Calls Try.prog 16 #[.int .i64 W, .int .i64 H, .int .i64 t] w fun e w' => e = .returned (.tuple #[.int .i64 0, .int .i64 1]) ∧ Below w.heap.size w w' := by
  go_enter Try.func16, Try.ntmps16
  go_wp2_with (go_at_call 39; (with_reducible refine (sized_as false W H _ E).mono ?_); rintro e w' ⟨rfl, eb⟩)
  refine bodyPost_ret (v := .tuple #[.int .i64 0, .int .i64 1]) (by simp [results, Try.results16, go_sem]) rfl ⟨rfl, ?_⟩
  exact eb
end Go.Proofs.Ytkggejdbkllaaaa
