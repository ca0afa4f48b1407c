/- The contracts of size, Add, Sub, Neg, Cmp of package fixed and of the reference of layer 1: what each call answers, for all arguments. -/
import Derived.Test.YtgmhalcofcokbaaFixa
namespace Go.Proofs.Ytgmhalcofcokbaa
open Go.RowKit
set_option linter.unusedVariables false

theorem rsize_any (a : Int) (w : World) (h1 : -9223372036854775807 ≤ a) (h2 : a ≤ 9223372036854775807) :
    Calls Try.prog 51 #[.int .i64 a] w fun e w' => e = .returned (.int .u64 (Fx.ab a)) ∧ w = w' := by
  go_enter Try.func51, Try.ntmps51
  go_wp2
  all_goals
    go_ret
    exact ⟨Fx.ri (by unfold Fx.ab; split <;> omega), rfl⟩
theorem neg_any (a : Int) (w : World) (h : Fx.I64 a) :
    Calls Try.prog 50 #[.int .i64 a] w fun e w' => e = .returned (.int .i64 (Fx.negS a)) ∧ w = w' := by
  have hb := Fx.cnt_bd h
  go_enter Try.func50, Try.ntmps50
  go_wp2_with (go_at_call 55; refine (counted_any _ _ h).mono ?_; rintro e w' ⟨rfl, rfl⟩)
  go_ret
  exact ⟨Fx.ri (by unfold Fx.negS; omega), rfl⟩
theorem rneg_any (a : Int) (w : World) (h : Fx.I64 a) :
    Calls Try.prog 54 #[.int .i64 a] w fun e w' => e = .returned (.int .i64 (Fx.negS a)) ∧ w = w' := by
  have hb := Fx.cnt_bd h
  go_enter Try.func54, Try.ntmps54
  go_wp2_with (go_at_call 43; refine (of_any _ _ h).mono ?_; rintro e w' ⟨rfl, rfl⟩)
  go_ret
  exact ⟨Fx.ri (by unfold Fx.negS; omega), rfl⟩
theorem add_any (a b : Int) (w : World) (ha : Fx.I64 a) (hb : Fx.I64 b) :
    Calls Try.prog 46 #[.int .i64 a, .int .i64 b] w fun e w' => e = .returned (.int .i64 (Fx.addS a b)) ∧ w = w' := by
  have h1 := Fx.cnt_bd ha
  have h2 := Fx.cnt_bd hb
  go_enter Try.func46, Try.ntmps46
  go_wp2_with (go_at_call 55; refine (counted_any _ _ (by assumption)).mono ?_; rintro e w' ⟨rfl, rfl⟩)
  all_goals
    go_ret
    exact ⟨Fx.ri (by unfold Fx.addS Fx.clampM Fx.Most; split <;> (try split) <;> omega), rfl⟩
theorem radd_any (a b : Int) (w : World) (ha : Fx.I64 a) (hb : Fx.I64 b) :
    Calls Try.prog 53 #[.int .i64 a, .int .i64 b] w fun e w' => e = .returned (.int .i64 (Fx.addS a b)) ∧ w = w' := by
  have h1 := Fx.cnt_bd ha
  have h2 := Fx.cnt_bd hb
  go_enter Try.func53, Try.ntmps53
  go_wp2_with (go_at_call 43; refine (of_any _ _ (by assumption)).mono ?_; rintro e w' ⟨rfl, rfl⟩)
  all_goals
    go_ret
    exact ⟨Fx.ri (by unfold Fx.addS Fx.clampM Fx.Most; split <;> (try split) <;> omega), rfl⟩
theorem sub_any (a b : Int) (w : World) (ha : Fx.I64 a) (hb : Fx.I64 b) :
    Calls Try.prog 36 #[.int .i64 a, .int .i64 b] w fun e w' => e = .returned (.int .i64 (Fx.subS a b)) ∧ w = w' := by
  have hn := Fx.neg_i64 hb
  go_enter Try.func36, Try.ntmps36
  go_wp2_with (first | (go_at_call 50; refine (neg_any _ _ hb).mono ?_; rintro e w' ⟨rfl, rfl⟩) | (go_at_call 46; refine (add_any _ _ _ ha hn).mono ?_; rintro e w' ⟨rfl, rfl⟩))
  go_ret
  exact ⟨Fx.ri rfl, rfl⟩
theorem rsub_any (a b : Int) (w : World) (ha : Fx.I64 a) (hb : Fx.I64 b) :
    Calls Try.prog 41 #[.int .i64 a, .int .i64 b] w fun e w' => e = .returned (.int .i64 (Fx.subS a b)) ∧ w = w' := by
  have hn := Fx.neg_i64 hb
  go_enter Try.func41, Try.ntmps41
  go_wp2_with (first | (go_at_call 54; refine (rneg_any _ _ hb).mono ?_; rintro e w' ⟨rfl, rfl⟩) | (go_at_call 53; refine (radd_any _ _ _ ha hn).mono ?_; rintro e w' ⟨rfl, rfl⟩))
  go_ret
  exact ⟨Fx.ri rfl, rfl⟩
end Go.Proofs.Ytgmhalcofcokbaa
