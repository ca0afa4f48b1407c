/- Layer 10: Count and Of with a letter for the answer. -/
import Derived.Test.YtkggejdbkllaaaaScg
namespace Go.Proofs.Ytkggejdbkllaaaa
open Go.RowKit
set_option linter.unusedVariables false
theorem cnt_as (W H z : Int) (w : World) (E : Hk (Fx.szB W H = true)) (EZ : Hk (Fx.acS W * Fx.acS H = z)) : Calls Try.prog 13 #[.int .i64 W, .int .i64 H] w fun e w' => e = .returned (.tuple #[.int .i64 z, .int .i64 0]) ∧ Below w.heap.size w w' := by
  obtain ⟨rfl⟩ := EZ; exact count_yes W H w E
theorem sofl_as (W H t z : Int) (w : World) (E : Hk (Fx.szB W H = true)) (t0 : 0 ≤ t) (t1 : t < W * H) (EZ : Hk (Fx.ofS W t = z)) : Calls Try.prog 16 #[.int .i64 W, .int .i64 H, .int .i64 t] w fun e w' => e = .returned (.tuple #[.int .i64 z, .int .i64 0]) ∧ Below w.heap.size w w' := by
  obtain ⟨rfl⟩ := EZ; exact of_yes10 W H t w E t0 t1
theorem sofn_as (W H t : Int) (w : World) (E : Hk (Fx.szB W H = true)) (q : ¬ (0 ≤ t ∧ t < W * H)) : Calls Try.prog 16 #[.int .i64 W, .int .i64 H, .int .i64 t] w fun e w' => e = .returned (.tuple #[.int .i64 0, .int .i64 3]) ∧ Below w.heap.size w w' := by
  by_cases h : t < 0
  · exact of_neg10 W H t w E h
  · exact of_far10 W H t w E (by omega) (by omega)
end Go.Proofs.Ytkggejdbkllaaaa
