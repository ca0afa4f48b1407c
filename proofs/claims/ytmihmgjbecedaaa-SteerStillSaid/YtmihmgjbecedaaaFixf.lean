/- The contracts of the products and quotients of package fixed and of the reference of layer 1. -/
import Derived.Test.YtmihmgjbecedaaaFixd
import Derived.Test.YtmihmgjbecedaaaFixe
import Derived.Test.YtmihmgjbecedaaaFy
namespace Go.Proofs.Ytmihmgjbecedaaa
open Go.RowKit
set_option linter.unusedVariables false
theorem wmul_as (a b h l : Int) (w : World) (ha : 0 ≤ a ∧ a ≤ 9223372036854775807) (hb : 0 ≤ b ∧ b ≤ 9223372036854775807)
    (e : Fx.Hd (h = a * b / 18446744073709551616 ∧ l = a * b % 18446744073709551616)) :
    Calls Try.prog 41 #[.int .u64 a, .int .u64 b] w fun e w' => e = .returned (.agg #[.int .u64 h, .int .u64 l]) ∧ Below w.heap.size w w' := by
  obtain ⟨⟨rfl, rfl⟩⟩ := e
  exact wmul_any a b w ha.1 (by omega) hb.1 (by omega)
theorem times_as (a b h l : Int) (w : World) (ha : 0 ≤ a ∧ a ≤ 9223372036854775807) (hb : 0 ≤ b ∧ b ≤ 9223372036854775807)
    (e : Fx.Hd (h = a * b / 18446744073709551616 ∧ l = a * b % 18446744073709551616)) :
    Calls Try.prog 34 #[.int .u64 a, .int .u64 b] w fun e w' => e = .returned (.agg #[.int .u64 h, .int .u64 l]) ∧ Below w.heap.size w w' := by
  obtain ⟨⟨rfl, rfl⟩⟩ := e
  exact times_any a b w ha.1 (by omega) hb.1 (by omega)
theorem over_as (h l b q p : Int) (g : Bool) (w : World) (hp : 0 ≤ p ∧ p ≤ 85070591730234615847396907784232501249) (b0 : 1 ≤ b ∧ b ≤ 9223372036854775808)
    (e : Fx.Hd (h = p / 18446744073709551616 ∧ l = p % 18446744073709551616)) (e2 : Fx.Hd (q = Fx.ovQ p b ∧ g = decide (0 < p % b))) :
    Calls Try.prog 51 #[.agg #[.int .u64 h, .int .u64 l], .int .u64 b] w fun e w' => e = .returned (.tuple #[.int .u64 q, .bool g]) ∧ Below w.heap.size w w' := by
  obtain ⟨⟨rfl, rfl⟩⟩ := e
  obtain ⟨⟨rfl, rfl⟩⟩ := e2
  have := over_any (p / 18446744073709551616) (p % 18446744073709551616) b w (by omega) (by omega) (by omega) (by omega) b0.1 b0.2
  rw [Fx.dT_div] at this
  exact this
theorem rsize_of (a : Int) (w : World) (h : Fx.I64 a) :
    Calls Try.prog 45 #[.int .i64 (Fx.cnt a)] w fun e w' => e = .returned (.int .u64 (Fx.sz a)) ∧ w = w' :=
  rsize_any (Fx.cnt a) w (Fx.cnt_bd h).1 (Fx.cnt_bd h).2
theorem signed_as (q g : Int) (n l : Bool) (w : World) (q0 : 0 ≤ q ∧ q ≤ 18446744073709551615) (e : Fx.Hd (g = Fx.sgS q n l)) :
    Calls Try.prog 52 #[.int .u64 q, .bool n, .bool l] w fun e w' => e = .returned (.int .i64 g) ∧ w = w' := by
  obtain ⟨rfl⟩ := e
  exact signed_any q n l w q0.1 q0.2
end Go.Proofs.Ytmihmgjbecedaaa
