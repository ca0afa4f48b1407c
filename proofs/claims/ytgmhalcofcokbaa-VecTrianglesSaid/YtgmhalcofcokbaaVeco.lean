/- The contracts of package vec at what VecTurns names. -/
import Derived.Test.YtgmhalcofcokbaaVecn
import Derived.Test.YtgmhalcofcokbaaFp
namespace Go.Proofs.Ytgmhalcofcokbaa
open Go.RowKit
set_option linter.unusedVariables false
theorem t_add (X Y : Int) (w : World) (hX : Fx.Mid X) (hY : Fx.Mid Y) :
    Calls Try.prog 42 #[.agg #[.int .i64 X, .int .i64 Y], .agg #[.int .i64 (-X), .int .i64 (-Y)]] w fun e w' => e = .returned (.agg #[.int .i64 0, .int .i64 0]) ∧ Below w.heap.size w w' := by
  have h := vadd_any X Y (-X) (-Y) w hX.i64 hY.i64 hX.neg.i64 hY.neg.i64
  rw [Fx.add_neg_mid hX, Fx.add_neg_mid hY] at h
  exact h
theorem t_sub (X Y : Int) (w : World) (hX : Fx.Mid X) (hY : Fx.Mid Y) :
    Calls Try.prog 11 #[.agg #[.int .i64 X, .int .i64 Y], .agg #[.int .i64 X, .int .i64 Y]] w fun e w' => e = .returned (.agg #[.int .i64 0, .int .i64 0]) ∧ Below w.heap.size w w' := by
  have h := vsub_any X Y X Y w hX.i64 hY.i64 hX.i64 hY.i64
  rw [Fx.sub_self hX.i64, Fx.sub_self hY.i64] at h
  exact h
theorem t_lenneg (X Y : Int) (w : World) (hX : Fx.Mid X) (hY : Fx.Mid Y) :
    Calls Try.prog 8 #[.agg #[.int .i64 (-X), .int .i64 (-Y)]] w fun e w' => e = .returned (.int .i64 (Fx.lenS X Y)) ∧ Below w.heap.size w w' := by
  have h := len_any (-X) (-Y) w hX.neg.i64 hY.neg.i64
  rw [Fx.len_neg hX hY] at h
  exact h
theorem t_len (X Y : Int) (w : World) (hX : Fx.Mid X) (hY : Fx.Mid Y) :
    Calls Try.prog 8 #[.agg #[.int .i64 X, .int .i64 Y]] w fun e w' => e = .returned (.int .i64 (Fx.lenS X Y)) ∧ Below w.heap.size w w' := len_any X Y w hX.i64 hY.i64
theorem t_lenturn (X Y : Int) (w : World) (hX : Fx.Mid X) (hY : Fx.Mid Y) :
    Calls Try.prog 8 #[.agg #[.int .i64 Y, .int .i64 (-X)]] w fun e w' => e = .returned (.int .i64 (Fx.lenS X Y)) ∧ Below w.heap.size w w' := by
  have h := len_any Y (-X) w hY.i64 hX.neg.i64
  rw [Fx.len_turn hX] at h
  exact h
/-- A call that makes memory leaves two cells of one block as they were. -/
theorem held1 {P : Program} {F : FuncId} {args : Array Value} {w w0 : World} {r : Ending} {p : Nat} {x y : Value} (h : Calls P F args w fun e w' => e = r ∧ Below w.heap.size w w')
    (c0 : w.cell? ⟨p, 0, none⟩ = some x) (c1 : w.cell? ⟨p, 1, none⟩ = some y) (hB : Below w0.heap.size w0 w) :
    Calls P F args w fun e w' => e = r ∧ w'.cell? ⟨p, 0, none⟩ = some x ∧ w'.cell? ⟨p, 1, none⟩ = some y ∧ p < w'.heap.size ∧ Below w0.heap.size w0 w' :=
  h.mono fun e w' ⟨h1, h2⟩ => by
    have l1 := World.block_lt_of_cell? _ _ c0
    exact ⟨h1, (h2.cell (p := ⟨p, 0, none⟩) l1).trans c0, (h2.cell (p := ⟨p, 1, none⟩) l1).trans c1, Nat.lt_of_lt_of_le l1 h2.size, hB.trans (h2.mono hB.size)⟩
end Go.Proofs.Ytgmhalcofcokbaa
