/- The contract of fixed.quotient, the end of products and quotients: rounded towards minus infinity, cut off at Most. -/
import Derived.Test.YtdammgpflfoppabFixb
import Derived.Test.YtdammgpflfoppabFixc
import Derived.Test.YtdammgpflfoppabFixd
namespace Go.Proofs.Ytdammgpflfoppab
open Go.RowKit
set_option linter.unusedVariables false
theorem wdiv_any (h l b : Int) (w : World) (h0 : 0 ≤ h) (h1 : h ≤ 18446744073709551615) (l0 : 0 ≤ l) (l1 : l ≤ 18446744073709551615) (b0 : 1 ≤ b) (b1 : b ≤ 9223372036854775808) :
    Calls Try.prog 66 #[.agg #[.int .u64 h, .int .u64 l], .int .u64 b] w fun e w' => e = .returned (.tuple #[.agg #[.int .u64 (Fx.dT h l / b / 18446744073709551616), .int .u64 (Fx.dT h l / b % 18446744073709551616)], .int .u64 (Fx.dT h l % b)]) ∧ Below w.heap.size w w' := by
  by_cases hr : h % b = 0
  · exact wdiv_even h l b w h0 h1 l0 l1 b0 b1 hr
  · exact wdiv_rest h l b w h0 h1 l0 l1 b0 b1 hr
theorem wdiv_as (h l b q1 q2 r : Int) (w : World) (h0 : 0 ≤ h) (h1 : h ≤ 18446744073709551615) (l0 : 0 ≤ l) (l1 : l ≤ 18446744073709551615) (b0 : 1 ≤ b) (b1 : b ≤ 9223372036854775808)
    (e : Fx.Hd (q1 = Fx.dT h l / b / 18446744073709551616 ∧ q2 = Fx.dT h l / b % 18446744073709551616 ∧ r = Fx.dT h l % b)) :
    Calls Try.prog 66 #[.agg #[.int .u64 h, .int .u64 l], .int .u64 b] w fun e w' => e = .returned (.tuple #[.agg #[.int .u64 q1, .int .u64 q2], .int .u64 r]) ∧ Below w.heap.size w w' := by
  obtain ⟨⟨rfl, rfl, rfl⟩⟩ := e
  exact wdiv_any h l b w h0 h1 l0 l1 b0 b1
theorem wadd_one (a b x y : Int) (w : World) (ha : 0 ≤ a) (hb : 0 ≤ b) (hb' : b ≤ 18446744073709551615) (hs : a < 18446744073709551615)
    (e : Fx.Hd (x = a + (b + 1) / 18446744073709551616 ∧ y = (b + 1) % 18446744073709551616)) :
    Calls Try.prog 75 #[.agg #[.int .u64 a, .int .u64 b], .agg #[.int .u64 0, .int .u64 1]] w fun e w' => e = .returned (.agg #[.int .u64 x, .int .u64 y]) ∧ Below w.heap.size w w' := by
  obtain ⟨⟨rfl, rfl⟩⟩ := e
  have h := wadd_any a b 0 1 w ha hb (by omega) (by omega) hb' (by omega) (by omega)
  rw [Int.add_zero] at h
  exact h
set_option maxHeartbeats 400000 in
theorem quotient_up (h l b q1 q2 r x y : Int) (w : World) (h0 : 0 ≤ h) (h1 : h ≤ 18446744073709551615) (l0 : 0 ≤ l) (l1 : l ≤ 18446744073709551615) (b0 : 1 ≤ b) (b1 : b ≤ 9223372036854775808)
    (e : Fx.Hd (q1 = Fx.dT h l / b / 18446744073709551616 ∧ q2 = Fx.dT h l / b % 18446744073709551616 ∧ r = Fx.dT h l % b)) (q10 : 0 ≤ q1) (q11 : q1 < 18446744073709551615) (q20 : 0 ≤ q2) (q21 : q2 ≤ 18446744073709551615) (hr : 0 < r)
    (e2 : Fx.Hd (x = q1 + (q2 + 1) / 18446744073709551616 ∧ y = (q2 + 1) % 18446744073709551616)) :
    Calls Try.prog 76 #[.agg #[.int .u64 h, .int .u64 l], .int .u64 b, .bool true] w fun e w' => e = .returned (.int .i64 (Fx.endS (q1 * 18446744073709551616 + q2) true r)) ∧ Below w.heap.size w w' := by
  have hx0 : 0 ≤ x := by have := e2.out; omega
  have hy0 : 0 ≤ y := by have := e2.out; omega
  have hy1 : y ≤ 18446744073709551615 := by have := e2.out; omega
  obtain ⟨g, hg⟩ : ∃ g, g = Fx.endS (q1 * 18446744073709551616 + q2) true r := ⟨_, rfl⟩
  have HG := Fx.Hd.mk hg
  rw [← hg]
  clear hg
  by_cases cx : 0 < x
  · go_enter Try.func76, Try.ntmps76
    go_wp2_with (first | (go_at_call 66; refine (wdiv_as _ _ _ q1 q2 r _ h0 h1 l0 l1 b0 b1 e).mono ?_; rintro e w1 ⟨rfl, hb1⟩; have B1 := Fx.Hd.mk hb1; have s1 := hb1.size; clear hb1) | (go_at_call 75; refine (wadd_one q1 q2 x y _ q10 q20 q21 q11 e2).mono ?_; rintro e w2 ⟨rfl, hb2⟩; obtain ⟨c0, c1, f0, f1, s2⟩ := pair_kept hb2; have tt := two_twice c0 c1 (.int .u64 x) (.int .u64 y) (.int .u64 0) (.int .u64 9223372036854775807); have B2 := Fx.Hd.mk hb2; clear hb2))
    go_ret
    refine ⟨?_, ((((((((Below.refl _ _).alloc (Nat.le_refl _) _).trans (B1.out.mono (by simp))).alloc (by simp at s1; omega) _).trans (B2.out.mono (by simp at s1 ⊢; omega))).setCell (by simp at s1 ⊢; omega) _).setCell (by simp at s1 ⊢; omega) _).setCell (by simp at s1 ⊢; omega) _).setCell (by simp at s1 ⊢; omega) _⟩
    rw [HG.out, Fx.endS_up e2 hr q10 q20, if_pos (.inl cx)]; rfl
  · by_cases cy : 9223372036854775807 < y
    · go_enter Try.func76, Try.ntmps76
      go_wp2_with (first | (go_at_call 66; refine (wdiv_as _ _ _ q1 q2 r _ h0 h1 l0 l1 b0 b1 e).mono ?_; rintro e w1 ⟨rfl, hb1⟩; have B1 := Fx.Hd.mk hb1; have s1 := hb1.size; clear hb1) | (go_at_call 75; refine (wadd_one q1 q2 x y _ q10 q20 q21 q11 e2).mono ?_; rintro e w2 ⟨rfl, hb2⟩; obtain ⟨c0, c1, f0, f1, s2⟩ := pair_kept hb2; have tt := two_twice c0 c1 (.int .u64 x) (.int .u64 y) (.int .u64 0) (.int .u64 9223372036854775807); have B2 := Fx.Hd.mk hb2; clear hb2))
      go_ret
      refine ⟨?_, ((((((((Below.refl _ _).alloc (Nat.le_refl _) _).trans (B1.out.mono (by simp))).alloc (by simp at s1; omega) _).trans (B2.out.mono (by simp at s1 ⊢; omega))).setCell (by simp at s1 ⊢; omega) _).setCell (by simp at s1 ⊢; omega) _).setCell (by simp at s1 ⊢; omega) _).setCell (by simp at s1 ⊢; omega) _⟩
      rw [HG.out, Fx.endS_up e2 hr q10 q20, if_pos (.inr cy)]; rfl
    · go_enter Try.func76, Try.ntmps76
      go_wp2_with (first | (go_at_call 66; refine (wdiv_as _ _ _ q1 q2 r _ h0 h1 l0 l1 b0 b1 e).mono ?_; rintro e w1 ⟨rfl, hb1⟩; have B1 := Fx.Hd.mk hb1; have s1 := hb1.size; clear hb1) | (go_at_call 75; refine (wadd_one q1 q2 x y _ q10 q20 q21 q11 e2).mono ?_; rintro e w2 ⟨rfl, hb2⟩; obtain ⟨c0, c1, f0, f1, s2⟩ := pair_kept hb2; have B2 := Fx.Hd.mk hb2; clear hb2))
      go_ret
      refine ⟨?_, ((((((Below.refl _ _).alloc (Nat.le_refl _) _).trans (B1.out.mono (by simp))).alloc (by simp at s1; omega) _).trans (B2.out.mono (by simp at s1 ⊢; omega))).setCell (by simp at s1 ⊢; omega) _).setCell (by simp at s1 ⊢; omega) _⟩
      rw [HG.out, Fx.endS_up e2 hr q10 q20, if_neg (by omega)]; rfl
set_option maxHeartbeats 400000 in
theorem quotient_plain (h l b q1 q2 r : Int) (m : Bool) (w : World) (h0 : 0 ≤ h) (h1 : h ≤ 18446744073709551615) (l0 : 0 ≤ l) (l1 : l ≤ 18446744073709551615) (b0 : 1 ≤ b) (b1 : b ≤ 9223372036854775808)
    (e : Fx.Hd (q1 = Fx.dT h l / b / 18446744073709551616 ∧ q2 = Fx.dT h l / b % 18446744073709551616 ∧ r = Fx.dT h l % b)) (q10 : 0 ≤ q1) (q20 : 0 ≤ q2) (q21 : q2 ≤ 18446744073709551615) (hr : m = true → ¬ 0 < r) :
    Calls Try.prog 76 #[.agg #[.int .u64 h, .int .u64 l], .int .u64 b, .bool m] w fun e w' => e = .returned (.int .i64 (Fx.endS (q1 * 18446744073709551616 + q2) m r)) ∧ Below w.heap.size w w' := by
  have HG := Fx.Hd.mk (Fx.endS_plain hr q10 q20)
  obtain ⟨g, hg⟩ : ∃ g, g = Fx.endS (q1 * 18446744073709551616 + q2) m r := ⟨_, rfl⟩
  have H2 := Fx.Hd.mk hg
  rw [← hg]
  clear hg
  cases m
  · clear hr
    by_cases cx : 0 < q1 ∨ 9223372036854775807 < q2
    all_goals
      go_enter Try.func76, Try.ntmps76
      go_wp2_with (go_at_call 66; refine (wdiv_as _ _ _ q1 q2 r _ h0 h1 l0 l1 b0 b1 e).mono ?_; rintro e w1 ⟨rfl, hb1⟩; have B1 := Fx.Hd.mk hb1; have s1 := hb1.size; clear hb1)
      all_goals
        go_ret
        refine ⟨?_, (((Below.refl _ _).alloc (Nat.le_refl _) _).trans (B1.out.mono (by simp))).alloc (by simp at s1; omega) _⟩
        rw [H2.out, HG.out]
        first | (rw [if_pos (by omega)]; rfl) | (rw [if_neg (by omega)]; rfl)
  · have hr' : ¬ 0 < r := hr rfl
    clear hr
    by_cases cx : 0 < q1 ∨ 9223372036854775807 < q2
    all_goals
      go_enter Try.func76, Try.ntmps76
      go_wp2_with (go_at_call 66; refine (wdiv_as _ _ _ q1 q2 r _ h0 h1 l0 l1 b0 b1 e).mono ?_; rintro e w1 ⟨rfl, hb1⟩; have B1 := Fx.Hd.mk hb1; have s1 := hb1.size; clear hb1)
      all_goals
        go_ret
        refine ⟨?_, (((Below.refl _ _).alloc (Nat.le_refl _) _).trans (B1.out.mono (by simp))).alloc (by simp at s1; omega) _⟩
        rw [H2.out, HG.out]
        first | (rw [if_pos (by omega)]; rfl) | (rw [if_neg (by omega)]; rfl)
theorem quotient_any (h l b : Int) (m : Bool) (w : World) (h0 : 0 ≤ h) (h1 : h < 18446744073709551615) (l0 : 0 ≤ l) (l1 : l ≤ 18446744073709551615) (b0 : 1 ≤ b) (b1 : b ≤ 9223372036854775808) :
    Calls Try.prog 76 #[.agg #[.int .u64 h, .int .u64 l], .int .u64 b, .bool m] w fun e w' => e = .returned (.int .i64 (Fx.endS (Fx.dT h l / b) m (Fx.dT h l % b))) ∧ Below w.heap.size w w' := by
  obtain ⟨k1, k2, k3, k4⟩ := Fx.dq_bd h l b h0 h1 l0 l1 b0
  have he : Fx.dT h l / b = Fx.dT h l / b / 18446744073709551616 * 18446744073709551616 + Fx.dT h l / b % 18446744073709551616 := by omega
  by_cases hm : m = true ∧ 0 < Fx.dT h l % b
  · obtain ⟨rfl, hr⟩ := hm
    have := quotient_up h l b _ _ _ _ _ w h0 (by omega) l0 l1 b0 b1 ⟨rfl, rfl, rfl⟩ k1 k2 k3 k4 hr ⟨rfl, rfl⟩
    rw [← he] at this
    exact this
  · have := quotient_plain h l b _ _ _ m w h0 (by omega) l0 l1 b0 b1 ⟨rfl, rfl, rfl⟩ k1 k3 k4 (fun a b => hm ⟨a, b⟩)
    rw [← he] at this
    exact this
end Go.Proofs.Ytdammgpflfoppab
