/- The contracts of the products and quotients of package fixed and of the reference of layer 1. -/
import Derived.Test.YtdammgpflfoppaaFixd
import Derived.Test.YtdammgpflfoppaaFixe
import Derived.Test.YtdammgpflfoppaaFy
namespace Go.Proofs.Ytdammgpflfoppaa
open Go.RowKit
set_option linter.unusedVariables false
theorem wmul_as (a b h l : Int) (w : World) (ha : 0 ≤ a ∧ a ≤ 9223372036854775807) (hb : 0 ≤ b ∧ b ≤ 9223372036854775807)
    (e : Fx.Hd (h = a * b / 18446744073709551616 ∧ l = a * b % 18446744073709551616)) :
    Calls Try.prog 48 #[.int .u64 a, .int .u64 b] w fun e w' => e = .returned (.agg #[.int .u64 h, .int .u64 l]) ∧ Below w.heap.size w w' := by
  obtain ⟨⟨rfl, rfl⟩⟩ := e
  exact wmul_any a b w ha.1 (by omega) hb.1 (by omega)
theorem times_as (a b h l : Int) (w : World) (ha : 0 ≤ a ∧ a ≤ 9223372036854775807) (hb : 0 ≤ b ∧ b ≤ 9223372036854775807)
    (e : Fx.Hd (h = a * b / 18446744073709551616 ∧ l = a * b % 18446744073709551616)) :
    Calls Try.prog 51 #[.int .u64 a, .int .u64 b] w fun e w' => e = .returned (.agg #[.int .u64 h, .int .u64 l]) ∧ Below w.heap.size w w' := by
  obtain ⟨⟨rfl, rfl⟩⟩ := e
  exact times_any a b w ha.1 (by omega) hb.1 (by omega)
theorem quotient_as (h l b g p : Int) (m : Bool) (w : World) (hp : 0 ≤ p ∧ p ≤ 85070591730234615847396907784232501249) (b0 : 1 ≤ b ∧ b ≤ 9223372036854775808)
    (e : Fx.Hd (h = p / 18446744073709551616 ∧ l = p % 18446744073709551616)) (e2 : Fx.Hd (g = Fx.endS (p / b) m (p % b))) :
    Calls Try.prog 47 #[.agg #[.int .u64 h, .int .u64 l], .int .u64 b, .bool m] w fun e w' => e = .returned (.int .i64 g) ∧ Below w.heap.size w w' := by
  obtain ⟨⟨rfl, rfl⟩⟩ := e
  obtain ⟨rfl⟩ := e2
  have := quotient_any (p / 18446744073709551616) (p % 18446744073709551616) b m w (by omega) (by omega) (by omega) (by omega) b0.1 b0.2
  rw [Fx.dT_div] at this
  exact this
theorem over_as (h l b q p : Int) (g : Bool) (w : World) (hp : 0 ≤ p ∧ p ≤ 85070591730234615847396907784232501249) (b0 : 1 ≤ b ∧ b ≤ 9223372036854775808)
    (e : Fx.Hd (h = p / 18446744073709551616 ∧ l = p % 18446744073709551616)) (e2 : Fx.Hd (q = Fx.ovQ p b ∧ g = decide (0 < p % b))) :
    Calls Try.prog 50 #[.agg #[.int .u64 h, .int .u64 l], .int .u64 b] w fun e w' => e = .returned (.tuple #[.int .u64 q, .bool g]) ∧ Below w.heap.size w w' := by
  obtain ⟨⟨rfl, rfl⟩⟩ := e
  obtain ⟨⟨rfl, rfl⟩⟩ := e2
  have := over_any (p / 18446744073709551616) (p % 18446744073709551616) b w (by omega) (by omega) (by omega) (by omega) b0.1 b0.2
  rw [Fx.dT_div] at this
  exact this
set_option maxHeartbeats 800000 in
theorem mul_core (a b h l g : Int) (m : Bool) (w : World) (ha : Fx.I64 a) (hb : Fx.I64 b) (p0 : 0 ≤ Fx.sz a * Fx.sz b ∧ Fx.sz a * Fx.sz b ≤ 85070591730234615847396907784232501249)
    (hm : m = (decide (a < 0) != decide (b < 0)))
    (e : Fx.Hd (h = Fx.sz a * Fx.sz b / 18446744073709551616 ∧ l = Fx.sz a * Fx.sz b % 18446744073709551616)) (e2 : Fx.Hd (g = Fx.endS (Fx.sz a * Fx.sz b / 65536) m (Fx.sz a * Fx.sz b % 65536))) :
    Calls Try.prog 22 #[.int .i64 a, .int .i64 b] w fun e w' => e = .returned (.int .i64 g) ∧ Below w.heap.size w w' := by
  have sa := Fx.sz_bd ha
  have sb := Fx.sz_bd hb
  have P := Fx.Hd.mk p0
  clear p0
  cases c1 : decide (a < 0) <;> cases c2 : decide (b < 0)
  all_goals
    first
      | (have hm' : m = false := by rw [hm]; simp [c1, c2]
         subst hm')
      | (have hm' : m = true := by rw [hm]; simp [c1, c2]
         subst hm')
    clear hm
    go_enter Try.func22, Try.ntmps22
    go_wp2_with (first | (go_at_call 49; refine (size_any _ _ (by assumption)).mono ?_; rintro e w' ⟨rfl, rfl⟩) | (go_at_call 48; refine (wmul_as _ _ h l _ sa sb e).mono ?_; rintro e w1 ⟨rfl, hb1⟩; have B1 := Fx.Hd.mk hb1; clear hb1) | (go_at_call 47; refine (quotient_as h l _ g (Fx.sz a * Fx.sz b) _ _ P.out (by omega) e e2).mono ?_; rintro e w2 ⟨rfl, hb2⟩; have B2 := Fx.Hd.mk hb2; clear hb2))
    go_ret
    exact ⟨rfl, B1.out.trans (B2.out.mono B1.out.size)⟩
theorem mul_any (a b : Int) (w : World) (ha : Fx.I64 a) (hb : Fx.I64 b) :
    Calls Try.prog 22 #[.int .i64 a, .int .i64 b] w fun e w' => e = .returned (.int .i64 (Fx.mulS a b)) ∧ Below w.heap.size w w' :=
  mul_core a b _ _ _ _ w ha hb (Fx.prod_bd (Fx.sz_bd ha) (Fx.sz_bd hb)) rfl ⟨rfl, rfl⟩ ⟨rfl⟩
set_option maxHeartbeats 800000 in
theorem div_core (a b h l g : Int) (m : Bool) (w : World) (ha : Fx.I64 a) (hb : Fx.I64 b) (p0 : 0 ≤ Fx.sz a * 65536 ∧ Fx.sz a * 65536 ≤ 85070591730234615847396907784232501249) (b0 : 1 ≤ Fx.sz b) (bz : (b == 0) = false)
    (hm : m = (decide (a < 0) != decide (b < 0)))
    (e : Fx.Hd (h = Fx.sz a * 65536 / 18446744073709551616 ∧ l = Fx.sz a * 65536 % 18446744073709551616)) (e2 : Fx.Hd (g = Fx.endS (Fx.sz a * 65536 / Fx.sz b) m (Fx.sz a * 65536 % Fx.sz b))) :
    Calls Try.prog 24 #[.int .i64 a, .int .i64 b] w fun e w' => e = .returned (.int .i64 g) ∧ Below w.heap.size w w' := by
  have sa := Fx.sz_bd ha
  have sb := Fx.sz_bd hb
  have P := Fx.Hd.mk p0
  clear p0
  cases c1 : decide (a < 0) <;> cases c2 : decide (b < 0)
  all_goals
    first
      | (have hm' : m = false := by rw [hm]; simp [c1, c2]
         subst hm')
      | (have hm' : m = true := by rw [hm]; simp [c1, c2]
         subst hm')
    clear hm
    go_enter Try.func24, Try.ntmps24
    go_wp2_with (first | (go_at_call 49; refine (size_any _ _ (by assumption)).mono ?_; rintro e w' ⟨rfl, rfl⟩) | (go_at_call 48; refine (wmul_as _ _ h l _ sa (by omega) e).mono ?_; rintro e w1 ⟨rfl, hb1⟩; have B1 := Fx.Hd.mk hb1; clear hb1) | (go_at_call 47; refine (quotient_as h l _ g (Fx.sz a * 65536) _ _ P.out (by omega) e e2).mono ?_; rintro e w2 ⟨rfl, hb2⟩; have B2 := Fx.Hd.mk hb2; clear hb2))
    go_ret
    exact ⟨rfl, B1.out.trans (B2.out.mono B1.out.size)⟩
theorem div_zero (a b : Int) (w : World) (ha : Fx.I64 a) (hb : b = 0) :
    Calls Try.prog 24 #[.int .i64 a, .int .i64 b] w fun e w' => e = .returned (.int .i64 (Fx.divS a b)) ∧ w = w' := by
  subst hb
  obtain ⟨n, hn⟩ : ∃ n, n = Fx.cmpS a 0 := ⟨_, rfl⟩
  have hv : Fx.divS a 0 = n * 9223372036854775807 := by rw [hn, Fx.cmp_zero ha]; unfold Fx.divS; simp; split <;> (try split) <;> omega
  have hc := cmp_any a 0 w ha (by unfold Fx.I64; omega)
  have hb : -1 ≤ n ∧ n ≤ 1 := by rw [hn, Fx.cmp_zero ha]; split <;> (try split) <;> omega
  rw [← hn] at hc
  clear hn
  rw [hv]
  clear hv
  go_enter Try.func24, Try.ntmps24
  go_wp2_with (go_at_call 28; refine hc.mono ?_; rintro e w' ⟨rfl, rfl⟩)
  go_ret
  exact ⟨rfl, rfl⟩
theorem div_any (a b : Int) (w : World) (ha : Fx.I64 a) (hb : Fx.I64 b) :
    Calls Try.prog 24 #[.int .i64 a, .int .i64 b] w fun e w' => e = .returned (.int .i64 (Fx.divS a b)) ∧ Below w.heap.size w w' := by
  by_cases h0 : b = 0
  · exact (div_zero a b w ha h0).mono fun e w' ⟨h1, h2⟩ => ⟨h1, by rw [← h2]; exact Below.refl _ _⟩
  · have := div_core a b _ _ _ _ w ha hb (Fx.prod_bd (Fx.sz_bd ha) (by omega)) (Fx.sz_pos hb h0) (by simpa using h0) rfl ⟨rfl, rfl⟩ ⟨rfl⟩
    unfold Fx.divS
    rw [if_neg h0]
    exact this
/-! ### The reference's -/
theorem rsize_of (a : Int) (w : World) (h : Fx.I64 a) :
    Calls Try.prog 52 #[.int .i64 (Fx.cnt a)] w fun e w' => e = .returned (.int .u64 (Fx.sz a)) ∧ w = w' :=
  rsize_any (Fx.cnt a) w (Fx.cnt_bd h).1 (Fx.cnt_bd h).2
theorem signed_as (q g : Int) (n l : Bool) (w : World) (q0 : 0 ≤ q ∧ q ≤ 18446744073709551615) (e : Fx.Hd (g = Fx.sgS q n l)) :
    Calls Try.prog 53 #[.int .u64 q, .bool n, .bool l] w fun e w' => e = .returned (.int .i64 g) ∧ w = w' := by
  obtain ⟨rfl⟩ := e
  exact signed_any q n l w q0.1 q0.2
set_option maxHeartbeats 800000 in
theorem rmul_core (a b h l g q : Int) (m z : Bool) (w : World) (ha : Fx.I64 a) (hb : Fx.I64 b) (p0 : 0 ≤ Fx.sz a * Fx.sz b ∧ Fx.sz a * Fx.sz b ≤ 85070591730234615847396907784232501249)
    (hm : m = (decide (Fx.cnt a < 0) != decide (Fx.cnt b < 0))) (q0 : 0 ≤ q ∧ q ≤ 18446744073709551615)
    (e : Fx.Hd (h = Fx.sz a * Fx.sz b / 18446744073709551616 ∧ l = Fx.sz a * Fx.sz b % 18446744073709551616)) (e2 : Fx.Hd (q = Fx.ovQ (Fx.sz a * Fx.sz b) 65536 ∧ z = decide (0 < Fx.sz a * Fx.sz b % 65536))) (e3 : Fx.Hd (g = Fx.sgS q m z)) :
    Calls Try.prog 23 #[.int .i64 a, .int .i64 b] w fun e w' => e = .returned (.int .i64 g) ∧ Below w.heap.size w w' := by
  have sa := Fx.sz_bd ha
  have sb := Fx.sz_bd hb
  have P := Fx.Hd.mk p0
  clear p0
  cases c1 : decide (Fx.cnt a < 0) <;> cases c2 : decide (Fx.cnt b < 0)
  all_goals
    first
      | (have hm' : m = false := by rw [hm]; simp [c1, c2]
         subst hm')
      | (have hm' : m = true := by rw [hm]; simp [c1, c2]
         subst hm')
    clear hm
    go_enter Try.func23, Try.ntmps23
    go_wp2_with (first | (go_at_call 46; refine (of_any _ _ (by assumption)).mono ?_; rintro e w' ⟨rfl, rfl⟩) | (go_at_call 52; refine (rsize_of _ _ (by assumption)).mono ?_; rintro e w' ⟨rfl, rfl⟩) | (go_at_call 51; refine (times_as _ _ h l _ sa sb e).mono ?_; rintro e w1 ⟨rfl, hb1⟩; have B1 := Fx.Hd.mk hb1; clear hb1) | (go_at_call 50; refine (over_as h l _ q (Fx.sz a * Fx.sz b) z _ P.out (by omega) e e2).mono ?_; rintro e w2 ⟨rfl, hb2⟩; have B2 := Fx.Hd.mk hb2; clear hb2) | (go_at_call 53; refine (signed_as q g _ z _ q0 e3).mono ?_; rintro e w' ⟨rfl, rfl⟩))
    go_ret
    exact ⟨rfl, B1.out.trans (B2.out.mono B1.out.size)⟩
theorem rmul_any (a b : Int) (w : World) (ha : Fx.I64 a) (hb : Fx.I64 b) :
    Calls Try.prog 23 #[.int .i64 a, .int .i64 b] w fun e w' => e = .returned (.int .i64 (Fx.mulS a b)) ∧ Below w.heap.size w w' := by
  have hp := Fx.prod_bd (Fx.sz_bd ha) (Fx.sz_bd hb)
  have := rmul_core a b _ _ _ _ _ _ w ha hb hp rfl (Fx.ovQ_bd hp.1 (by omega)) ⟨rfl, rfl⟩ ⟨rfl, rfl⟩ ⟨rfl⟩
  rw [Fx.sgS_endS hp.1 (by omega), decide_eq_decide.2 (Fx.cnt_sign ha), decide_eq_decide.2 (Fx.cnt_sign hb)] at this
  exact this
set_option maxHeartbeats 800000 in
theorem rdiv_core (a b h l g q : Int) (m z : Bool) (w : World) (ha : Fx.I64 a) (hb : Fx.I64 b) (p0 : 0 ≤ Fx.sz a * 65536 ∧ Fx.sz a * 65536 ≤ 85070591730234615847396907784232501249) (b0 : 1 ≤ Fx.sz b) (bz : (Fx.cnt b == 0) = false)
    (hm : m = (decide (Fx.cnt a < 0) != decide (Fx.cnt b < 0))) (q0 : 0 ≤ q ∧ q ≤ 18446744073709551615)
    (e : Fx.Hd (h = Fx.sz a * 65536 / 18446744073709551616 ∧ l = Fx.sz a * 65536 % 18446744073709551616)) (e2 : Fx.Hd (q = Fx.ovQ (Fx.sz a * 65536) (Fx.sz b) ∧ z = decide (0 < Fx.sz a * 65536 % Fx.sz b))) (e3 : Fx.Hd (g = Fx.sgS q m z)) :
    Calls Try.prog 25 #[.int .i64 a, .int .i64 b] w fun e w' => e = .returned (.int .i64 g) ∧ Below w.heap.size w w' := by
  have sa := Fx.sz_bd ha
  have sb := Fx.sz_bd hb
  have P := Fx.Hd.mk p0
  clear p0
  cases c1 : decide (Fx.cnt a < 0) <;> cases c2 : decide (Fx.cnt b < 0)
  all_goals
    first
      | (have hm' : m = false := by rw [hm]; simp [c1, c2]
         subst hm')
      | (have hm' : m = true := by rw [hm]; simp [c1, c2]
         subst hm')
    clear hm
    go_enter Try.func25, Try.ntmps25
    go_wp2_with (first | (go_at_call 46; refine (of_any _ _ (by assumption)).mono ?_; rintro e w' ⟨rfl, rfl⟩) | (go_at_call 52; refine (rsize_of _ _ (by assumption)).mono ?_; rintro e w' ⟨rfl, rfl⟩) | (go_at_call 51; refine (times_as _ _ h l _ sa (by omega) e).mono ?_; rintro e w1 ⟨rfl, hb1⟩; have B1 := Fx.Hd.mk hb1; clear hb1) | (go_at_call 50; refine (over_as h l _ q (Fx.sz a * 65536) z _ P.out (by omega) e e2).mono ?_; rintro e w2 ⟨rfl, hb2⟩; have B2 := Fx.Hd.mk hb2; clear hb2) | (go_at_call 53; refine (signed_as q g _ z _ q0 e3).mono ?_; rintro e w' ⟨rfl, rfl⟩))
    go_ret
    exact ⟨rfl, B1.out.trans (B2.out.mono B1.out.size)⟩
theorem rdiv_zero (a b : Int) (w : World) (ha : Fx.I64 a) (hb : b = 0) :
    Calls Try.prog 25 #[.int .i64 a, .int .i64 b] w fun e w' => e = .returned (.int .i64 (Fx.divS a b)) ∧ w = w' := by
  subst hb
  have h0 : Fx.I64 0 := by unfold Fx.I64; omega
  have c0 := of_any 0
  rw [show Fx.cnt 0 = 0 by decide] at c0
  have hv := Fx.Hd.mk (Fx.div0 ha)
  go_enter Try.func25, Try.ntmps25
  go_wp2_with (first | (go_at_call 46; refine (c0 _ h0).mono ?_; rintro e w' ⟨rfl, rfl⟩) | (go_at_call 46; refine (of_any _ _ (by assumption)).mono ?_; rintro e w' ⟨rfl, rfl⟩))
  all_goals
    go_ret
    refine ⟨?_, rfl⟩
    rw [hv.out]
    first | (rw [if_pos (by assumption)]; rfl) | (rw [if_neg (by omega), if_pos (by assumption)]; rfl) | (rw [if_neg (by omega), if_neg (by omega)]; rfl)
theorem rdiv_any (a b : Int) (w : World) (ha : Fx.I64 a) (hb : Fx.I64 b) :
    Calls Try.prog 25 #[.int .i64 a, .int .i64 b] w fun e w' => e = .returned (.int .i64 (Fx.divS a b)) ∧ Below w.heap.size w w' := by
  by_cases h0 : b = 0
  · exact (rdiv_zero a b w ha h0).mono fun e w' ⟨h1, h2⟩ => ⟨h1, by rw [← h2]; exact Below.refl _ _⟩
  · have hp : 0 ≤ Fx.sz a * 65536 ∧ Fx.sz a * 65536 ≤ 85070591730234615847396907784232501249 := Fx.prod_bd (Fx.sz_bd ha) (by omega)
    have b0 := Fx.sz_pos hb h0
    have := rdiv_core a b _ _ _ _ _ _ w ha hb hp b0 (by simp [Fx.cnt_zero hb, h0]) rfl (Fx.ovQ_bd hp.1 b0) ⟨rfl, rfl⟩ ⟨rfl, rfl⟩ ⟨rfl⟩
    rw [Fx.sgS_endS hp.1 b0, decide_eq_decide.2 (Fx.cnt_sign ha), decide_eq_decide.2 (Fx.cnt_sign hb)] at this
    unfold Fx.divS
    rw [if_neg h0]
    exact this
end Go.Proofs.Ytdammgpflfoppaa
