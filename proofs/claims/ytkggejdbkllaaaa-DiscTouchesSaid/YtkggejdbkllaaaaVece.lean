/- The contracts of lengths of package vec and of the reference. -/
import Derived.Test.YtkggejdbkllaaaaVecd
namespace Go.Proofs.Ytkggejdbkllaaaa
open Go.RowKit
set_option linter.unusedVariables false
theorem square_any (a b h l : Int) (w : World) (ha : Fx.I64 a) (hb : Fx.I64 b) (e : Fx.Hd (h = Fx.SQ a b / 18446744073709551616 ∧ l = Fx.SQ a b % 18446744073709551616)) :
    Calls Try.prog 57 #[.agg #[.int .i64 a, .int .i64 b]] w fun e w' => e = .returned (.agg #[.int .u64 h, .int .u64 l]) ∧ Below w.heap.size w w' :=
  square_core a b _ _ _ _ h l w ha hb ⟨rfl, rfl⟩ ⟨rfl, rfl⟩ e
theorem squares_any (a b h l : Int) (w : World) (ha : Fx.I64 a) (hb : Fx.I64 b) (e : Fx.Hd (h = Fx.SQ a b / 18446744073709551616 ∧ l = Fx.SQ a b % 18446744073709551616)) :
    Calls Try.prog 62 #[.agg #[.int .i64 a, .int .i64 b]] w fun e w' => e = .returned (.agg #[.int .u64 h, .int .u64 l]) ∧ Below w.heap.size w w' :=
  squares_core a b _ _ _ _ h l w ha hb ⟨rfl, rfl⟩ ⟨rfl, rfl⟩ e
end Go.Proofs.Ytkggejdbkllaaaa
