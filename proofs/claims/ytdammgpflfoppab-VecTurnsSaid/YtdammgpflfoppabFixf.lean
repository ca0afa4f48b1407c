/- The contracts of the products and quotients of package fixed and of the reference of layer 1. -/
import Derived.Test.YtdammgpflfoppabFixd
import Derived.Test.YtdammgpflfoppabFixe
import Derived.Test.YtdammgpflfoppabFy
namespace Go.Proofs.Ytdammgpflfoppab
open Go.RowKit
set_option linter.unusedVariables false
theorem wmul_as (a b h l : Int) (w : World) (ha : 0 ≤ a ∧ a ≤ 9223372036854775807) (hb : 0 ≤ b ∧ b ≤ 9223372036854775807)
    (e : Fx.Hd (h = a * b / 18446744073709551616 ∧ l = a * b % 18446744073709551616)) :
    Calls Try.prog 61 #[.int .u64 a, .int .u64 b] w fun e w' => e = .returned (.agg #[.int .u64 h, .int .u64 l]) ∧ Below w.heap.size w w' := by
  obtain ⟨⟨rfl, rfl⟩⟩ := e
  exact wmul_any a b w ha.1 (by omega) hb.1 (by omega)
theorem times_as (a b h l : Int) (w : World) (ha : 0 ≤ a ∧ a ≤ 9223372036854775807) (hb : 0 ≤ b ∧ b ≤ 9223372036854775807)
    (e : Fx.Hd (h = a * b / 18446744073709551616 ∧ l = a * b % 18446744073709551616)) :
    Calls Try.prog 71 #[.int .u64 a, .int .u64 b] w fun e w' => e = .returned (.agg #[.int .u64 h, .int .u64 l]) ∧ Below w.heap.size w w' := by
  obtain ⟨⟨rfl, rfl⟩⟩ := e
  exact times_any a b w ha.1 (by omega) hb.1 (by omega)
theorem quotient_as (h l b g p : Int) (m : Bool) (w : World) (hp : 0 ≤ p ∧ p ≤ 85070591730234615847396907784232501249) (b0 : 1 ≤ b ∧ b ≤ 9223372036854775808)
    (e : Fx.Hd (h = p / 18446744073709551616 ∧ l = p % 18446744073709551616)) (e2 : Fx.Hd (g = Fx.endS (p / b) m (p % b))) :
    Calls Try.prog 76 #[.agg #[.int .u64 h, .int .u64 l], .int .u64 b, .bool m] w fun e w' => e = .returned (.int .i64 g) ∧ Below w.heap.size w w' := by
  obtain ⟨⟨rfl, rfl⟩⟩ := e
  obtain ⟨rfl⟩ := e2
  have := quotient_any (p / 18446744073709551616) (p % 18446744073709551616) b m w (by omega) (by omega) (by omega) (by omega) b0.1 b0.2
  rw [Fx.dT_div] at this
  exact this
theorem over_as (h l b q p : Int) (g : Bool) (w : World) (hp : 0 ≤ p ∧ p ≤ 85070591730234615847396907784232501249) (b0 : 1 ≤ b ∧ b ≤ 9223372036854775808)
    (e : Fx.Hd (h = p / 18446744073709551616 ∧ l = p % 18446744073709551616)) (e2 : Fx.Hd (q = Fx.ovQ p b ∧ g = decide (0 < p % b))) :
    Calls Try.prog 70 #[.agg #[.int .u64 h, .int .u64 l], .int .u64 b] w fun e w' => e = .returned (.tuple #[.int .u64 q, .bool g]) ∧ Below w.heap.size w w' := by
  obtain ⟨⟨rfl, rfl⟩⟩ := e
  obtain ⟨⟨rfl, rfl⟩⟩ := e2
  have := over_any (p / 18446744073709551616) (p % 18446744073709551616) b w (by omega) (by omega) (by omega) (by omega) b0.1 b0.2
  rw [Fx.dT_div] at this
  exact this
set_option maxHeartbeats 800000 in
theorem mul_core (a b h l g : Int) (m : Bool) (w : World) (ha : Fx.I64 a) (hb : Fx.I64 b) (p0 : 0 ≤ Fx.sz a * Fx.sz b ∧ Fx.sz a * Fx.sz b ≤ 85070591730234615847396907784232501249)
    (hm : m = (decide (a < 0) != decide (b < 0)))
    (e : Fx.Hd (h = Fx.sz a * Fx.sz b / 18446744073709551616 ∧ l = Fx.sz a * Fx.sz b % 18446744073709551616)) (e2 : Fx.Hd (g = Fx.endS (Fx.sz a * Fx.sz b / 65536) m (Fx.sz a * Fx.sz b % 65536))) :
    Calls Try.prog 64 #[.int .i64 a, .int .i64 b] w fun e w' => e = .returned (.int .i64 g) ∧ Below w.heap.size w w' := by
  have sa := Fx.sz_bd ha
  have sb := Fx.sz_bd hb
  have P := Fx.Hd.mk p0
  clear p0
  cases c1 : decide (a < 0) <;> cases c2 : decide (b < 0)
  all_goals
    first
      | (have hm' : m = false := by rw [hm]; simp [c1, c2]
         subst hm')
      | (have hm' : m = true := by rw [hm]; simp [c1, c2]
         subst hm')
    clear hm
    go_enter Try.func64, Try.ntmps64
    go_wp2_with (first | (go_at_call 77; refine (size_any _ _ (by assumption)).mono ?_; rintro e w' ⟨rfl, rfl⟩) | (go_at_call 61; refine (wmul_as _ _ h l _ sa sb e).mono ?_; rintro e w1 ⟨rfl, hb1⟩; have B1 := Fx.Hd.mk hb1; clear hb1) | (go_at_call 76; refine (quotient_as h l _ g (Fx.sz a * Fx.sz b) _ _ P.out (by omega) e e2).mono ?_; rintro e w2 ⟨rfl, hb2⟩; have B2 := Fx.Hd.mk hb2; clear hb2))
    go_ret
    exact ⟨rfl, B1.out.trans (B2.out.mono B1.out.size)⟩
theorem mul_any (a b : Int) (w : World) (ha : Fx.I64 a) (hb : Fx.I64 b) :
    Calls Try.prog 64 #[.int .i64 a, .int .i64 b] w fun e w' => e = .returned (.int .i64 (Fx.mulS a b)) ∧ Below w.heap.size w w' :=
  mul_core a b _ _ _ _ w ha hb (Fx.prod_bd (Fx.sz_bd ha) (Fx.sz_bd hb)) rfl ⟨rfl, rfl⟩ ⟨rfl⟩
theorem rsize_of (a : Int) (w : World) (h : Fx.I64 a) :
    Calls Try.prog 72 #[.int .i64 (Fx.cnt a)] w fun e w' => e = .returned (.int .u64 (Fx.sz a)) ∧ w = w' :=
  rsize_any (Fx.cnt a) w (Fx.cnt_bd h).1 (Fx.cnt_bd h).2
theorem signed_as (q g : Int) (n l : Bool) (w : World) (q0 : 0 ≤ q ∧ q ≤ 18446744073709551615) (e : Fx.Hd (g = Fx.sgS q n l)) :
    Calls Try.prog 73 #[.int .u64 q, .bool n, .bool l] w fun e w' => e = .returned (.int .i64 g) ∧ w = w' := by
  obtain ⟨rfl⟩ := e
  exact signed_any q n l w q0.1 q0.2
end Go.Proofs.Ytdammgpflfoppab
