/- The contracts of the roots of package fixed and of the reference of layer 1, and of the statements' own small call. -/
import Derived.Test.YtdammgpflfoppaaFixg
import Derived.Test.YtdammgpflfoppaaFixh
import Derived.Test.YtdammgpflfoppaaFz
namespace Go.Proofs.Ytdammgpflfoppaa
open Go.RowKit
set_option linter.unusedVariables false
theorem root_as (h l p S : Int) (w : World) (p0 : Fx.Hd (0 ≤ p ∧ p < 340282366920938463463374607431768211456)) (e : Fx.Hd (h = p / 18446744073709551616 ∧ l = p % 18446744073709551616)) (hS : Fx.Hd (Fx.IsRoot p S)) :
    Calls Try.prog 54 #[.agg #[.int .u64 h, .int .u64 l]] w fun e w' => e = .returned (.int .u64 S) ∧ Below w.heap.size w w' := by
  obtain ⟨⟨rfl, rfl⟩⟩ := e
  have := p0.out
  exact root_any _ _ S w (by omega) (by omega) (by omega) (by omega) (by rw [Fx.dT_div]; exact hS.out)
theorem rroot_as (h l p m S : Int) (w : World) (p0 : Fx.Hd (0 ≤ p ∧ p < 340282366920938463463374607431768211456)) (e : Fx.Hd (h = p / 18446744073709551616 ∧ l = p % 18446744073709551616)) (m0 : 0 ≤ m) (m1 : m ≤ 9223372036854775807) (hm : S ≤ m) (hS : Fx.Hd (Fx.IsRoot p S)) :
    Calls Try.prog 55 #[.agg #[.int .u64 h, .int .u64 l], .int .u64 m] w fun e w' => e = .returned (.int .u64 S) ∧ Below w.heap.size w w' := by
  obtain ⟨⟨rfl, rfl⟩⟩ := e
  have := p0.out
  exact rroot_any _ _ m S w (by omega) (by omega) (by omega) (by omega) m0 m1 (by rw [Fx.dT_div]; exact hS.out) hm
theorem sqrt_any (a : Int) (w : World) (ha : Fx.I64 a) :
    Calls Try.prog 26 #[.int .i64 a] w fun e w' => e = .returned (.int .i64 (Fx.sqrtS a)) ∧ Below w.heap.size w w' := by
  have hS := Fx.sqrtS_bd ha
  by_cases hn : a < 0
  · have hz := Fx.Hd.mk (Fx.sqrtS_neg hn)
    go_enter Try.func26, Try.ntmps26
    go_wp2
    go_ret
    exact ⟨Fx.ri hz.out.symm, Below.refl _ _⟩
  · have hu : Fx.under a = a * 65536 := by unfold Fx.under; rw [if_neg hn]
    have hR := Fx.sqrtS_root a
    rw [hu] at hR
    obtain ⟨S, es⟩ : ∃ S, S = Fx.sqrtS a := ⟨_, rfl⟩
    rw [← es] at hS hR ⊢
    clear hu es
    have HR := Fx.Hd.mk hR
    clear hR
    obtain ⟨h, hh⟩ : ∃ h, h = a * 65536 / 18446744073709551616 := ⟨_, rfl⟩
    obtain ⟨l, hl⟩ : ∃ l, l = a * 65536 % 18446744073709551616 := ⟨_, rfl⟩
    have E := Fx.Hd.mk (And.intro hh hl)
    clear hh hl
    obtain ⟨a1, a2⟩ := ha
    have P : Fx.Hd (0 ≤ a * 65536 ∧ a * 65536 < 340282366920938463463374607431768211456) := ⟨by omega⟩
    have ab : 0 ≤ a := by omega
    go_enter Try.func26, Try.ntmps26
    go_wp2_with (first | (go_at_call 48; refine (wmul_as a 65536 h l _ (by omega) (by omega) E).mono ?_; rintro e w1 ⟨rfl, hb1⟩; have B1 := Fx.Hd.mk hb1; clear hb1) | (go_at_call 54; refine (root_as h l (a * 65536) S _ P E HR).mono ?_; rintro e w2 ⟨rfl, hb2⟩; have B2 := Fx.Hd.mk hb2; clear hb2))
    go_ret
    exact ⟨rfl, B1.out.trans (B2.out.mono B1.out.size)⟩
theorem rsqrt_any (a : Int) (w : World) (ha : Fx.I64 a) :
    Calls Try.prog 27 #[.int .i64 a] w fun e w' => e = .returned (.int .i64 (Fx.sqrtS a)) ∧ Below w.heap.size w w' := by
  have hS := Fx.sqrtS_bd ha
  by_cases hn : a ≤ 0
  · have hz : Fx.Hd (Fx.sqrtS a = 0) := ⟨by
      rcases Int.lt_or_eq_of_le hn with h | h
      · exact Fx.sqrtS_neg h
      · rw [h]; exact Fx.sqrtS_zero⟩
    have hc : Fx.cnt a ≤ 0 := by have := Fx.cnt_pos ha; omega
    go_enter Try.func27, Try.ntmps27
    go_wp2_with (go_at_call 46; refine (of_any _ _ ha).mono ?_; rintro e w' ⟨rfl, rfl⟩)
    go_ret
    exact ⟨Fx.ri hz.out.symm, Below.refl _ _⟩
  · have hu : Fx.under a = a * 65536 := by unfold Fx.under; rw [if_neg (by omega)]
    have hR := Fx.sqrtS_root a
    rw [hu] at hR
    obtain ⟨S, es⟩ : ∃ S, S = Fx.sqrtS a := ⟨_, rfl⟩
    rw [← es] at hS hR ⊢
    clear hu es
    have HR := Fx.Hd.mk hR
    clear hR
    obtain ⟨h, hh⟩ : ∃ h, h = a * 65536 / 18446744073709551616 := ⟨_, rfl⟩
    obtain ⟨l, hl⟩ : ∃ l, l = a * 65536 % 18446744073709551616 := ⟨_, rfl⟩
    have E := Fx.Hd.mk (And.intro hh hl)
    clear hh hl
    have hc : Fx.cnt a = a := by unfold Fx.cnt Fx.Most; rw [if_neg (by omega)]
    have hof := fun w => of_any a w ha
    rw [hc] at hof
    clear hc
    obtain ⟨a1, a2⟩ := ha
    have P : Fx.Hd (0 ≤ a * 65536 ∧ a * 65536 < 340282366920938463463374607431768211456) := ⟨by omega⟩
    have HOF := Fx.Hd.mk hof
    clear hof
    go_enter Try.func27, Try.ntmps27
    go_wp2_with (first | (go_at_call 46; refine (HOF.out _).mono ?_; rintro e w' ⟨rfl, rfl⟩) | (go_at_call 51; refine (times_as a 65536 h l _ (by omega) (by omega) E).mono ?_; rintro e w1 ⟨rfl, hb1⟩; have B1 := Fx.Hd.mk hb1; clear hb1) | (go_at_call 55; refine (rroot_as h l (a * 65536) _ S _ P E (by omega) (by omega) (by omega) HR).mono ?_; rintro e w2 ⟨rfl, hb2⟩; have B2 := Fx.Hd.mk hb2; clear hb2))
    go_ret
    exact ⟨rfl, B1.out.trans (B2.out.mono B1.out.size)⟩
theorem wakes1_any (w : World) :
    Calls Try.prog 21 #[] w fun e w' => e = .returned (.bool true) ∧ Below w.heap.size w w' := by
  have h1 := mul_any 98304 98304 w (by unfold Fx.I64; omega) (by unfold Fx.I64; omega)
  have h2 := fun w => sqrt_any 262144 w (by unfold Fx.I64; omega)
  rw [Fx.mulS_nine] at h1
  rw [Fx.sqrtS_four] at h2
  have H1 := Fx.Hd.mk h1
  have H2 := Fx.Hd.mk h2
  clear h1 h2
  go_enter Try.func21, Try.ntmps21
  go_wp2_with (first | (go_at_call 22; refine H1.out.mono ?_; rintro e w1 ⟨rfl, hb1⟩; have B1 := Fx.Hd.mk hb1; clear hb1) | (go_at_call 26; refine (H2.out _).mono ?_; rintro e w2 ⟨rfl, hb2⟩; have B2 := Fx.Hd.mk hb2; clear hb2))
  go_ret
  exact ⟨rfl, B1.out.trans (B2.out.mono B1.out.size)⟩
end Go.Proofs.Ytdammgpflfoppaa
