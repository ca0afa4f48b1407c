/- The contracts of inner products, of sizes and of orders of package vec and of the reference. -/
import Derived.Test.YtdammgpflfoppabAsk
import Derived.Test.YtdammgpflfoppabFu
import Derived.Deep.RegionHeld3
import Derived.Deep.RegionWith
namespace Go.Proofs.Ytdammgpflfoppab
open Go.RowKit
set_option linter.unusedVariables false
/-- A call that makes memory leaves two boxes as they were. -/
theorem heldD {P : Program} {F : FuncId} {args : Array Value} {w w0 : World} {r : Ending} {x y u v : Value} (h : Calls P F args w fun e w' => e = r ∧ Below w.heap.size w w')
    (c0 : w.cell? ⟨w0.heap.size, 0, none⟩ = some x) (c1 : w.cell? ⟨w0.heap.size, 1, none⟩ = some y) (d0 : w.cell? ⟨w0.heap.size + 1, 0, none⟩ = some u) (d1 : w.cell? ⟨w0.heap.size + 1, 1, none⟩ = some v)
    (hB : Below w0.heap.size w0 w) :
    Calls P F args w fun e w' => e = r ∧ w'.cell? ⟨w0.heap.size, 0, none⟩ = some x ∧ w'.cell? ⟨w0.heap.size, 1, none⟩ = some y ∧ w'.cell? ⟨w0.heap.size + 1, 0, none⟩ = some u ∧ w'.cell? ⟨w0.heap.size + 1, 1, none⟩ = some v ∧ Below w0.heap.size w0 w' :=
  h.mono fun e w' ⟨h1, h2⟩ => by
    have l1 := World.block_lt_of_cell? _ _ c0
    have l2 := World.block_lt_of_cell? _ _ d0
    exact ⟨h1, (h2.cell (p := ⟨w0.heap.size, 0, none⟩) l1).trans c0, (h2.cell (p := ⟨w0.heap.size, 1, none⟩) l1).trans c1, (h2.cell (p := ⟨w0.heap.size + 1, 0, none⟩) l2).trans d0, (h2.cell (p := ⟨w0.heap.size + 1, 1, none⟩) l2).trans d1, hB.trans (h2.mono hB.size)⟩
set_option maxHeartbeats 1600000 in
theorem vdot_any (a b c d : Int) (w : World) (ha : Fx.I64 a) (hb : Fx.I64 b) (hc : Fx.I64 c) (hd : Fx.I64 d) :
    Calls Try.prog 26 #[.agg #[.int .i64 a, .int .i64 b], .agg #[.int .i64 c, .int .i64 d]] w fun e w' => e = .returned (.int .i64 (Fx.addS (Fx.mulS a c) (Fx.mulS b d))) ∧ Below w.heap.size w w' := by
  have i1 := Fx.mul_i64 ha hc
  have i2 := Fx.mul_i64 hb hd
  go_enter Try.func26, Try.ntmps26
  go_wp2
  have eb : Below w.heap.size w ((w.alloc (.cells #[.int .i64 a, .int .i64 b] 24)).alloc (.cells #[.int .i64 c, .int .i64 d] 24)) := ((Below.refl _ _).alloc (Nat.le_refl _) _).alloc (by simp) _
  go_region_held3 (fun w' => w'.cell? ⟨w.heap.size, 0, none⟩ = some (.int .i64 a) ∧ w'.cell? ⟨w.heap.size, 1, none⟩ = some (.int .i64 b) ∧ w'.cell? ⟨w.heap.size + 1, 0, none⟩ = some (.int .i64 c) ∧ w'.cell? ⟨w.heap.size + 1, 1, none⟩ = some (.int .i64 d) ∧ Below w.heap.size w w') (first | exact ⟨e0, e1, e2, e3, eb⟩ | exact ⟨by go_simp, by go_simp, by go_simp, by go_simp, eb.drew⟩ | go_keep)
    (first | (go_at_call 64; go_must (refine (heldD (w0 := w) (x := .int .i64 a) (y := .int .i64 b) (u := .int .i64 c) (v := .int .i64 d) (mul_any _ _ _ (by assumption) (by assumption)) ?_ ?_ ?_ ?_ ?_).mono ?_); (first | assumption | go_simp); (first | assumption | go_simp); (first | assumption | go_simp); (first | assumption | go_simp); (first | assumption | exact eb.drew); rintro e w' ⟨rfl, e0, e1, e2, e3, eb⟩) | (go_at_call 63; refine (add_any _ _ _ (by assumption) (by assumption)).mono ?_; rintro e w' ⟨rfl, rfl⟩))
  go_wp2
  go_ret
  exact ⟨rfl, eb⟩
theorem vcounted_any (a : Int) (w : World) (h : Fx.I64 a) :
    Calls Try.prog 51 #[.int .i64 a] w fun e w' => e = .returned (.int .i64 (Fx.cnt a)) ∧ w = w' := by
  have hc := add_any a 0 w h (by unfold Fx.I64; omega)
  rw [Fx.add_zero h] at hc
  have HC := Fx.Hd.mk hc
  clear hc
  go_enter Try.func51, Try.ntmps51
  go_wp2_with (go_at_call 63; refine HC.out.mono ?_; rintro e w' ⟨rfl, rfl⟩)
  go_ret
  exact ⟨rfl, rfl⟩
theorem vsize_any (a : Int) (w : World) (h : Fx.I64 a) :
    Calls Try.prog 67 #[.int .i64 a] w fun e w' => e = .returned (.int .u64 (Fx.sz a)) ∧ w = w' := by
  have hb := Fx.cnt_bd h
  go_enter Try.func67, Try.ntmps67
  go_wp2_with (go_at_call 51; refine (vcounted_any _ _ h).mono ?_; rintro e w' ⟨rfl, rfl⟩)
  all_goals
    go_ret
    exact ⟨Fx.ri (by unfold Fx.sz; split <;> omega), rfl⟩
end Go.Proofs.Ytdammgpflfoppab
