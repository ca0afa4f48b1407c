/- Layer 4: numbers that may be below 0. -/
import Derived.Test.YtmkehmeoglpkeaaWirb
namespace Go.Proofs.Ytmkehmeoglpkeaa
open Go.RowKit
set_option linter.unusedVariables false
theorem num_at (x : Int) (z : Nat) (w : World) (hx : Hk (x = z)) (hz : Hk (z ≤ 9223372036854775807)) :
    Calls Try.prog 36 #[.int .i64 x] w fun e w' => ∃ v, e = .returned (.tuple #[v, .int .i64 0]) ∧ OwnB w' w.heap.size v (Wr.numL z).length (Wr.numL z) ∧ Below w.heap.size w w' := by
  rw [hx.out]; exact num_any z w hz.out
theorem rnum_at (x : Int) (z : Nat) (w : World) (hx : Hk (x = z)) (hz : Hk (z ≤ 9223372036854775807)) :
    Calls Try.prog 25 #[.int .i64 x] w fun e w' => ∃ v, e = .returned v ∧ OwnB w' w.heap.size v (Wr.numL z).length (Wr.numL z) ∧ Below w.heap.size w w' := by
  rw [hx.out]; exact rnum_any z w hz.out
def I62 (n : Int) : Prop := -4611686018427387904 ≤ n ∧ n < 4611686018427387904
theorem zig_bd {n : Int} (h : I62 n) : Wr.zig n ≤ 9223372036854775807 := by unfold I62 at h; unfold Wr.zig; split <;> omega
end Go.Proofs.Ytmkehmeoglpkeaa
