/- The contracts of the products and quotients of package fixed and of the reference of layer 1. -/
import Derived.Test.YtgmhalcofcokbaaFixd
import Derived.Test.YtgmhalcofcokbaaFixe
import Derived.Test.YtgmhalcofcokbaaFy
namespace Go.Proofs.Ytgmhalcofcokbaa
open Go.RowKit
set_option linter.unusedVariables false
theorem wmul_as (a b h l : Int) (w : World) (ha : 0 ≤ a ∧ a ≤ 9223372036854775807) (hb : 0 ≤ b ∧ b ≤ 9223372036854775807)
    (e : Fx.Hd (h = a * b / 18446744073709551616 ∧ l = a * b % 18446744073709551616)) :
    Calls Try.prog 38 #[.int .u64 a, .int .u64 b] w fun e w' => e = .returned (.agg #[.int .u64 h, .int .u64 l]) ∧ Below w.heap.size w w' := by
  obtain ⟨⟨rfl, rfl⟩⟩ := e
  exact wmul_any a b w ha.1 (by omega) hb.1 (by omega)
theorem times_as (a b h l : Int) (w : World) (ha : 0 ≤ a ∧ a ≤ 9223372036854775807) (hb : 0 ≤ b ∧ b ≤ 9223372036854775807)
    (e : Fx.Hd (h = a * b / 18446744073709551616 ∧ l = a * b % 18446744073709551616)) :
    Calls Try.prog 45 #[.int .u64 a, .int .u64 b] w fun e w' => e = .returned (.agg #[.int .u64 h, .int .u64 l]) ∧ Below w.heap.size w w' := by
  obtain ⟨⟨rfl, rfl⟩⟩ := e
  exact times_any a b w ha.1 (by omega) hb.1 (by omega)
theorem rsize_of (a : Int) (w : World) (h : Fx.I64 a) :
    Calls Try.prog 51 #[.int .i64 (Fx.cnt a)] w fun e w' => e = .returned (.int .u64 (Fx.sz a)) ∧ w = w' :=
  rsize_any (Fx.cnt a) w (Fx.cnt_bd h).1 (Fx.cnt_bd h).2
end Go.Proofs.Ytgmhalcofcokbaa
