/- The contracts of inner products, of sizes and of orders of package vec and of the reference. -/
import Derived.Test.YtgmhalcofcokbaaAsk
import Derived.Test.YtgmhalcofcokbaaFu
import Derived.Deep.RegionHeld3
import Derived.Deep.RegionWith
namespace Go.Proofs.Ytgmhalcofcokbaa
open Go.RowKit
set_option linter.unusedVariables false
/-- A call that makes memory leaves two boxes as they were. -/
theorem heldD {P : Program} {F : FuncId} {args : Array Value} {w w0 : World} {r : Ending} {x y u v : Value} (h : Calls P F args w fun e w' => e = r ∧ Below w.heap.size w w')
    (c0 : w.cell? ⟨w0.heap.size, 0, none⟩ = some x) (c1 : w.cell? ⟨w0.heap.size, 1, none⟩ = some y) (d0 : w.cell? ⟨w0.heap.size + 1, 0, none⟩ = some u) (d1 : w.cell? ⟨w0.heap.size + 1, 1, none⟩ = some v)
    (hB : Below w0.heap.size w0 w) :
    Calls P F args w fun e w' => e = r ∧ w'.cell? ⟨w0.heap.size, 0, none⟩ = some x ∧ w'.cell? ⟨w0.heap.size, 1, none⟩ = some y ∧ w'.cell? ⟨w0.heap.size + 1, 0, none⟩ = some u ∧ w'.cell? ⟨w0.heap.size + 1, 1, none⟩ = some v ∧ Below w0.heap.size w0 w' :=
  h.mono fun e w' ⟨h1, h2⟩ => by
    have l1 := World.block_lt_of_cell? _ _ c0
    have l2 := World.block_lt_of_cell? _ _ d0
    exact ⟨h1, (h2.cell (p := ⟨w0.heap.size, 0, none⟩) l1).trans c0, (h2.cell (p := ⟨w0.heap.size, 1, none⟩) l1).trans c1, (h2.cell (p := ⟨w0.heap.size + 1, 0, none⟩) l2).trans d0, (h2.cell (p := ⟨w0.heap.size + 1, 1, none⟩) l2).trans d1, hB.trans (h2.mono hB.size)⟩
theorem vcounted_any (a : Int) (w : World) (h : Fx.I64 a) :
    Calls Try.prog 32 #[.int .i64 a] w fun e w' => e = .returned (.int .i64 (Fx.cnt a)) ∧ w = w' := by
  have hc := add_any a 0 w h (by unfold Fx.I64; omega)
  rw [Fx.add_zero h] at hc
  have HC := Fx.Hd.mk hc
  clear hc
  go_enter Try.func32, Try.ntmps32
  go_wp2_with (go_at_call 46; refine HC.out.mono ?_; rintro e w' ⟨rfl, rfl⟩)
  go_ret
  exact ⟨rfl, rfl⟩
theorem vsize_any (a : Int) (w : World) (h : Fx.I64 a) :
    Calls Try.prog 48 #[.int .i64 a] w fun e w' => e = .returned (.int .u64 (Fx.sz a)) ∧ w = w' := by
  have hb := Fx.cnt_bd h
  go_enter Try.func48, Try.ntmps48
  go_wp2_with (go_at_call 32; refine (vcounted_any _ _ h).mono ?_; rintro e w' ⟨rfl, rfl⟩)
  all_goals
    go_ret
    exact ⟨Fx.ri (by unfold Fx.sz; split <;> omega), rfl⟩
end Go.Proofs.Ytgmhalcofcokbaa
