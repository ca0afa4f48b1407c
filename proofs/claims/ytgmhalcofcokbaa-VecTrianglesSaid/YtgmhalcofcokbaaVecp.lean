/- What VecShort's calls answer, with the answers as letters. -/
import Derived.Test.YtgmhalcofcokbaaVecm
import Derived.Test.YtgmhalcofcokbaaVeco
import Derived.Test.YtgmhalcofcokbaaFo
namespace Go.Proofs.Ytgmhalcofcokbaa
open Go.RowKit
set_option linter.unusedVariables false
theorem len_as (a b l : Int) (w : World) (ha : Fx.I64 a) (hb : Fx.I64 b) (E : Fx.Hd (Fx.lenS a b = l)) :
    Calls Try.prog 8 #[.agg #[.int .i64 a, .int .i64 b]] w fun e w' => e = .returned (.int .i64 l) ∧ Below w.heap.size w w' := by
  rw [← E.out]; exact len_any a b w ha hb
theorem clamp_as (a b k cx cy : Int) (w : World) (ha : Fx.I64 a) (hb : Fx.I64 b) (hk : Fx.I64 k) (EX : Fx.Hd (Fx.clampX a b k = cx)) (EY : Fx.Hd (Fx.clampY a b k = cy)) :
    Calls Try.prog 7 #[.agg #[.int .i64 a, .int .i64 b], .int .i64 k] w fun e w' => e = .returned (.agg #[.int .i64 cx, .int .i64 cy]) ∧ Below w.heap.size w w' := by
  rw [← EX.out, ← EY.out]; exact clamp_any a b k w ha hb hk
/-- What holds of a way and what became of it. -/
structure Fx.Sh (X Y m cx cy l lc : Int) : Prop where
  i1 : Fx.I64 X
  i2 : Fx.I64 Y
  i3 : Fx.I64 m
  i4 : Fx.I64 cx
  i5 : Fx.I64 cy
  ex : Fx.Hd (Fx.clampX X Y m = cx)
  ey : Fx.Hd (Fx.clampY X Y m = cy)
  el : Fx.Hd (Fx.lenS X Y = l)
  ec : Fx.Hd (Fx.lenS cx cy = lc)
  fx : Fx.Hd (Fx.clampX cx cy m = cx)
  fy : Fx.Hd (Fx.clampY cx cy m = cy)
  o1 : lc ≤ m
  o2 : lc ≤ l
  sx : cx < 0 → X < 0
  tx : 0 < cx → 0 < X
  sy : cy < 0 → Y < 0
  ty : 0 < cy → 0 < Y
theorem Fx.sh_of {X Y m : Int} (hX : Fx.Mid X) (hY : Fx.Mid Y) (hm : 0 ≤ m) (im : Fx.I64 m) : ∃ cx cy l lc, Fx.Sh X Y m cx cy l lc := by
  obtain ⟨h1, h2, h3, h4, h5, h6, h7, h8, h9, h10⟩ := Fx.short_all hX hY hm
  exact ⟨_, _, _, _, hX.i64, hY.i64, im, h1, h2, ⟨rfl⟩, ⟨rfl⟩, ⟨rfl⟩, ⟨rfl⟩, ⟨h9⟩, ⟨h10⟩, h3, h4, h5, h6, h7, h8⟩
end Go.Proofs.Ytgmhalcofcokbaa
