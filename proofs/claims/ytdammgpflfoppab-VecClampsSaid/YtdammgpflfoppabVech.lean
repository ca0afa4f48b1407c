/- The contracts of the order of ways of package vec and of the reference. -/
import Derived.Test.YtdammgpflfoppabVecg
namespace Go.Proofs.Ytdammgpflfoppab
open Go.RowKit
set_option linter.unusedVariables false
set_option maxHeartbeats 400000 in
theorem vless_any (a b c d : Int) (w : World) (ha : Fx.I64 a) (hb : Fx.I64 b) (hc : Fx.I64 c) (hd : Fx.I64 d) :
    Calls Try.prog 18 #[.agg #[.int .i64 a, .int .i64 b], .agg #[.int .i64 c, .int .i64 d]] w fun e w' => e = .returned (.bool (Fx.vlessS a b c d)) ∧ Below w.heap.size w w' := by
  have hB : Fx.Hd (Below w.heap.size w ((w.alloc (.cells #[.int .i64 a, .int .i64 b] 24)).alloc (.cells #[.int .i64 c, .int .i64 d] 24))) := ⟨((Below.refl _ _).alloc (Nat.le_refl _) _).alloc (by simp) _⟩
  by_cases h1 : Fx.cmpS a c < 0
  · have ED : Fx.Hd (Fx.vlessS a b c d = true) := ⟨by unfold Fx.vlessS; simp [h1]⟩
    go_enter Try.func18, Try.ntmps18
    go_wp2_with (first | (go_at_call 56; (first | (with_reducible refine (cmp_any a c _ ha hc).mono ?_) | (with_reducible refine (cmp_any b d _ hb hd).mono ?_)); rintro e w' ⟨rfl, rfl⟩))
    go_ret
    exact ⟨Fx.rb ED.out.symm, hB.out⟩
  · by_cases h2 : Fx.cmpS a c = 0
    · have ED : Fx.Hd (Fx.vlessS a b c d = decide (Fx.cmpS b d < 0)) := ⟨by unfold Fx.vlessS; simp [h2]⟩
      have h3 : (Fx.cmpS a c == 0) = true := by simpa using h2
      have h4 : decide (Fx.cmpS a c < 0) = false := by simpa using h1
      clear h1 h2
      go_enter Try.func18, Try.ntmps18
      go_wp2_with (first | (go_at_call 56; (first | (with_reducible refine (cmp_any a c _ ha hc).mono ?_) | (with_reducible refine (cmp_any b d _ hb hd).mono ?_)); rintro e w' ⟨rfl, rfl⟩))
      go_ret
      exact ⟨Fx.rb ED.out.symm, hB.out⟩
    · have ED : Fx.Hd (Fx.vlessS a b c d = false) := ⟨by unfold Fx.vlessS; simp [h2]; omega⟩
      have h3 : (Fx.cmpS a c == 0) = false := by simpa using h2
      have h4 : decide (Fx.cmpS a c < 0) = false := by simpa using h1
      clear h1 h2
      go_enter Try.func18, Try.ntmps18
      go_wp2_with (first | (go_at_call 56; (first | (with_reducible refine (cmp_any a c _ ha hc).mono ?_) | (with_reducible refine (cmp_any b d _ hb hd).mono ?_)); rintro e w' ⟨rfl, rfl⟩))
      go_ret
      exact ⟨Fx.rb ED.out.symm, hB.out⟩
set_option maxHeartbeats 400000 in
theorem rvless_any (a b c d : Int) (w : World) (ha : Fx.I64 a) (hb : Fx.I64 b) (hc : Fx.I64 c) (hd : Fx.I64 d) :
    Calls Try.prog 19 #[.agg #[.int .i64 a, .int .i64 b], .agg #[.int .i64 c, .int .i64 d]] w fun e w' => e = .returned (.bool (Fx.vlessS a b c d)) ∧ Below w.heap.size w w' := by
  have hB : Fx.Hd (Below w.heap.size w ((w.alloc (.cells #[.int .i64 a, .int .i64 b] 24)).alloc (.cells #[.int .i64 c, .int .i64 d] 24))) := ⟨((Below.refl _ _).alloc (Nat.le_refl _) _).alloc (by simp) _⟩
  by_cases h1 : Fx.cmpS a c < 0
  · have ED : Fx.Hd (Fx.vlessS a b c d = true) := ⟨by unfold Fx.vlessS; simp [h1]⟩
    go_enter Try.func19, Try.ntmps19
    go_wp2_with (first | (go_at_call 57; (first | (with_reducible refine (rcmp_any a c _ ha hc).mono ?_) | (with_reducible refine (rcmp_any b d _ hb hd).mono ?_)); rintro e w' ⟨rfl, rfl⟩))
    go_ret
    exact ⟨Fx.rb ED.out.symm, hB.out⟩
  · by_cases h2 : Fx.cmpS a c = 0
    · have ED : Fx.Hd (Fx.vlessS a b c d = decide (Fx.cmpS b d < 0)) := ⟨by unfold Fx.vlessS; simp [h2]⟩
      have h3 : (Fx.cmpS a c == 0) = true := by simpa using h2
      have h4 : decide (Fx.cmpS a c < 0) = false := by simpa using h1
      clear h1 h2
      go_enter Try.func19, Try.ntmps19
      go_wp2_with (first | (go_at_call 57; (first | (with_reducible refine (rcmp_any a c _ ha hc).mono ?_) | (with_reducible refine (rcmp_any b d _ hb hd).mono ?_)); rintro e w' ⟨rfl, rfl⟩))
      go_ret
      exact ⟨Fx.rb ED.out.symm, hB.out⟩
    · have ED : Fx.Hd (Fx.vlessS a b c d = false) := ⟨by unfold Fx.vlessS; simp [h2]; omega⟩
      have h3 : (Fx.cmpS a c == 0) = false := by simpa using h2
      have h4 : decide (Fx.cmpS a c < 0) = false := by simpa using h1
      clear h1 h2
      go_enter Try.func19, Try.ntmps19
      go_wp2_with (first | (go_at_call 57; (first | (with_reducible refine (rcmp_any a c _ ha hc).mono ?_) | (with_reducible refine (rcmp_any b d _ hb hd).mono ?_)); rintro e w' ⟨rfl, rfl⟩))
      go_ret
      exact ⟨Fx.rb ED.out.symm, hB.out⟩
theorem Fx.vless_not (a b c d : Int) (h : Fx.vlessS a b c d = true) : Fx.vlessS c d a b = false := by
  have e1 := Fx.cmp_flip a c
  have e2 := Fx.cmp_flip b d
  unfold Fx.vlessS at *
  simp at h ⊢
  omega
theorem Fx.vless_self (a b : Int) : Fx.vlessS a b a b = false := by
  unfold Fx.vlessS; rw [Fx.cmp_self, Fx.cmp_self]; decide
end Go.Proofs.Ytdammgpflfoppab
