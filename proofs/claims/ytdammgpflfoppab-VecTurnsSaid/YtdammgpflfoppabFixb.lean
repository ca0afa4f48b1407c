/- The contracts of size, Add, Sub, Neg, Cmp of package fixed and of the reference of layer 1: what each call answers, for all arguments. -/
import Derived.Test.YtdammgpflfoppabFixa
namespace Go.Proofs.Ytdammgpflfoppab
open Go.RowKit
set_option linter.unusedVariables false

theorem size_any (a : Int) (w : World) (h : Fx.I64 a) :
    Calls Try.prog 77 #[.int .i64 a] w fun e w' => e = .returned (.int .u64 (Fx.sz a)) ∧ w = w' := by
  have hb := Fx.cnt_bd h
  go_enter Try.func77, Try.ntmps77
  go_wp2_with (go_at_call 74; refine (counted_any _ _ h).mono ?_; rintro e w' ⟨rfl, rfl⟩)
  all_goals
    go_ret
    exact ⟨Fx.ri (by unfold Fx.sz; split <;> omega), rfl⟩
theorem rsize_any (a : Int) (w : World) (h1 : -9223372036854775807 ≤ a) (h2 : a ≤ 9223372036854775807) :
    Calls Try.prog 72 #[.int .i64 a] w fun e w' => e = .returned (.int .u64 (Fx.ab a)) ∧ w = w' := by
  go_enter Try.func72, Try.ntmps72
  go_wp2
  all_goals
    go_ret
    exact ⟨Fx.ri (by unfold Fx.ab; split <;> omega), rfl⟩
theorem neg_any (a : Int) (w : World) (h : Fx.I64 a) :
    Calls Try.prog 62 #[.int .i64 a] w fun e w' => e = .returned (.int .i64 (Fx.negS a)) ∧ w = w' := by
  have hb := Fx.cnt_bd h
  go_enter Try.func62, Try.ntmps62
  go_wp2_with (go_at_call 74; refine (counted_any _ _ h).mono ?_; rintro e w' ⟨rfl, rfl⟩)
  go_ret
  exact ⟨Fx.ri (by unfold Fx.negS; omega), rfl⟩
theorem add_any (a b : Int) (w : World) (ha : Fx.I64 a) (hb : Fx.I64 b) :
    Calls Try.prog 63 #[.int .i64 a, .int .i64 b] w fun e w' => e = .returned (.int .i64 (Fx.addS a b)) ∧ w = w' := by
  have h1 := Fx.cnt_bd ha
  have h2 := Fx.cnt_bd hb
  go_enter Try.func63, Try.ntmps63
  go_wp2_with (go_at_call 74; refine (counted_any _ _ (by assumption)).mono ?_; rintro e w' ⟨rfl, rfl⟩)
  all_goals
    go_ret
    exact ⟨Fx.ri (by unfold Fx.addS Fx.clampM Fx.Most; split <;> (try split) <;> omega), rfl⟩
theorem sub_any (a b : Int) (w : World) (ha : Fx.I64 a) (hb : Fx.I64 b) :
    Calls Try.prog 65 #[.int .i64 a, .int .i64 b] w fun e w' => e = .returned (.int .i64 (Fx.subS a b)) ∧ w = w' := by
  have hn := Fx.neg_i64 hb
  go_enter Try.func65, Try.ntmps65
  go_wp2_with (first | (go_at_call 62; refine (neg_any _ _ hb).mono ?_; rintro e w' ⟨rfl, rfl⟩) | (go_at_call 63; refine (add_any _ _ _ ha hn).mono ?_; rintro e w' ⟨rfl, rfl⟩))
  go_ret
  exact ⟨Fx.ri rfl, rfl⟩
theorem cmp_any (a b : Int) (w : World) (ha : Fx.I64 a) (hb : Fx.I64 b) :
    Calls Try.prog 56 #[.int .i64 a, .int .i64 b] w fun e w' => e = .returned (.int .i64 (Fx.cmpS a b)) ∧ w = w' := by
  have h1 := Fx.cnt_bd ha
  have h2 := Fx.cnt_bd hb
  go_enter Try.func56, Try.ntmps56
  go_wp2_with (go_at_call 74; refine (counted_any _ _ (by assumption)).mono ?_; rintro e w' ⟨rfl, rfl⟩)
  all_goals
    go_ret
    exact ⟨Fx.ri (by unfold Fx.cmpS; split <;> (try split) <;> omega), rfl⟩
theorem rcmp_any (a b : Int) (w : World) (ha : Fx.I64 a) (hb : Fx.I64 b) :
    Calls Try.prog 57 #[.int .i64 a, .int .i64 b] w fun e w' => e = .returned (.int .i64 (Fx.cmpS a b)) ∧ w = w' := by
  have h1 := Fx.cnt_bd ha
  have h2 := Fx.cnt_bd hb
  go_enter Try.func57, Try.ntmps57
  go_wp2_with (go_at_call 53; refine (of_any _ _ (by assumption)).mono ?_; rintro e w' ⟨rfl, rfl⟩)
  all_goals
    go_ret
    exact ⟨Fx.ri (by unfold Fx.cmpS; split <;> (try split) <;> omega), rfl⟩
end Go.Proofs.Ytdammgpflfoppab
