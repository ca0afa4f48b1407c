/- The contract of the reference's root: the greatest number up to a bound whose square is at most a number of 128 bits. -/
import Derived.Test.YtkggejdbkllaaaaFixf
import Derived.Deep.RegionWith
namespace Go.Proofs.Ytkggejdbkllaaaa
open Go.RowKit
set_option linter.unusedVariables false
theorem times_full (n h l : Int) (w : World) (hn : 0 ≤ n) (hn' : n ≤ 18446744073709551615) (e : Fx.Hd (h = n * n / 18446744073709551616 ∧ l = n * n % 18446744073709551616)) :
    Calls Try.prog 64 #[.int .u64 n, .int .u64 n] w fun e w' => e = .returned (.agg #[.int .u64 h, .int .u64 l]) ∧ Below w.heap.size w w' := by
  obtain ⟨⟨rfl, rfl⟩⟩ := e
  exact times_any n n w hn hn' hn hn'
theorem rless_as (a b c d : Int) (g : Bool) (w : World) (e : Fx.Hd (g = Fx.lessB a b c d)) :
    Calls Try.prog 61 #[.agg #[.int .u64 a, .int .u64 b], .agg #[.int .u64 c, .int .u64 d]] w fun e w' => e = .returned (.bool g) ∧ Below w.heap.size w w' := by
  obtain ⟨rfl⟩ := e
  exact rless_any a b c d w
end Go.Proofs.Ytkggejdbkllaaaa
