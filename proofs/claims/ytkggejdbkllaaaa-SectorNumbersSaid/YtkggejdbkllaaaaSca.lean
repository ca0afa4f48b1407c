/- The contracts of package sector that make no list, and of its reference. -/
import Derived.Test.YtkggejdbkllaaaaDsb
import Derived.Test.YtkggejdbkllaaaaHold
import Derived.IntWalk
import Derived.Deep.RegionHeld3
namespace Go.Proofs.Ytkggejdbkllaaaa
open Go.RowKit
set_option linter.unusedVariables false
def Fx.szB (W H : Int) : Bool := decide (1 ≤ W ∧ W ≤ 128 ∧ 1 ≤ H ∧ H ≤ 128)
def Fx.acS (n : Int) : Int := (n + 8 - 1) / 8
def Fx.ofS (W t : Int) : Int := t % W / 8 + Fx.acS W * (t / W / 8)
theorem Fx.acS_bd {n : Int} (a : 1 ≤ n) (b : n ≤ 128) : 1 ≤ Fx.acS n ∧ Fx.acS n ≤ 16 := by unfold Fx.acS; omega
theorem hold0 {P : Program} {F : FuncId} {args : Array Value} {w w0 : World} {r : Ending} {B : Nat} (h : Calls P F args w fun e w' => e = r ∧ Below w.heap.size w w') (hB : Below B w0 w) (hs : B ≤ w.heap.size) : Calls P F args w fun e w' => e = r ∧ Below B w0 w' := h.mono fun e w' ⟨h1, h2⟩ => ⟨h1, hB.trans (h2.mono hs)⟩
theorem wr_in' {x : Int} (h : -9223372036854775808 ≤ x ∧ x ≤ 9223372036854775807) : IntKind.i64.wrap x = x := IntWalk.i64_in _ ⟨h.1, h.2⟩
theorem sized_any (W H : Int) (w : World) : Calls Try.prog 39 #[.int .i64 W, .int .i64 H] w fun e w' => e = .returned (.bool (Fx.szB W H)) ∧ Below w.heap.size w w' := by
  by_cases qb0 : ¬ (1 ≤ W)
  · have b0 : decide (1 ≤ W) = false := by simp; omega
    have R : Hk (Fx.szB W H = false) := ⟨by unfold Fx.szB; simp; omega⟩
    go_enter Try.func39, Try.ntmps39
    go_wp2
    go_ret
    exact ⟨rbo R.out.symm, Below.refl _ _⟩
  have b0 : decide (1 ≤ W) = true := by simp; omega
  by_cases qb1 : ¬ (W ≤ 128)
  · have b1 : decide (W ≤ 128) = false := by simp; omega
    have R : Hk (Fx.szB W H = false) := ⟨by unfold Fx.szB; simp; omega⟩
    go_enter Try.func39, Try.ntmps39
    go_wp2
    go_ret
    exact ⟨rbo R.out.symm, Below.refl _ _⟩
  have b1 : decide (W ≤ 128) = true := by simp; omega
  by_cases qb2 : ¬ (1 ≤ H)
  · have b2 : decide (1 ≤ H) = false := by simp; omega
    have R : Hk (Fx.szB W H = false) := ⟨by unfold Fx.szB; simp; omega⟩
    go_enter Try.func39, Try.ntmps39
    go_wp2
    go_ret
    exact ⟨rbo R.out.symm, Below.refl _ _⟩
  have b2 : decide (1 ≤ H) = true := by simp; omega
  by_cases qb3 : ¬ (H ≤ 128)
  · have b3 : decide (H ≤ 128) = false := by simp; omega
    have R : Hk (Fx.szB W H = false) := ⟨by unfold Fx.szB; simp; omega⟩
    go_enter Try.func39, Try.ntmps39
    go_wp2
    go_ret
    exact ⟨rbo R.out.symm, Below.refl _ _⟩
  have b3 : decide (H ≤ 128) = true := by simp; omega
  have R : Hk (Fx.szB W H = true) := ⟨by unfold Fx.szB; simp; omega⟩
  go_enter Try.func39, Try.ntmps39
  go_wp2
  go_ret
  exact ⟨rbo R.out.symm, Below.refl _ _⟩
theorem sized_as (r : Bool) (W H : Int) (w : World) (E : Hk (Fx.szB W H = r)) : Calls Try.prog 39 #[.int .i64 W, .int .i64 H] w fun e w' => e = .returned (.bool r) ∧ Below w.heap.size w w' := by
  obtain ⟨rfl⟩ := E; exact sized_any W H w
theorem across_any (n : Int) (w : World) (a : 1 ≤ n) (b : n ≤ 128) : Calls Try.prog 40 #[.int .i64 n] w fun e w' => e = .returned (.int .i64 (Fx.acS n)) ∧ Below w.heap.size w w' := by
  have e1 : IntKind.i64.wrap (n + 8) = n + 8 := wr_in' (by omega)
  have e2 : IntKind.i64.wrap (n + 8 - 1) = n + 8 - 1 := wr_in' (by omega)
  have e3 : (n + 8 - 1).tdiv 8 = (n + 8 - 1) / 8 := Int.tdiv_eq_ediv_of_nonneg (by omega)
  have e4 : IntKind.i64.wrap ((n + 8 - 1) / 8) = (n + 8 - 1) / 8 := wr_in' (by omega)
  go_enter Try.func40, Try.ntmps40
  go_wp2
  go_ret
  exact ⟨rfl, Below.refl _ _⟩
theorem racross_any (n : Int) (w : World) (a : 1 ≤ n) (b : n ≤ 128) : Calls Try.prog 12 #[.int .i64 n] w fun e w' => e = .returned (.int .i64 (Fx.acS n)) ∧ Below w.heap.size w w' := by
  have e1 : IntKind.i64.wrap (n + 8) = n + 8 := wr_in' (by omega)
  have e2 : IntKind.i64.wrap (n + 8 - 1) = n + 8 - 1 := wr_in' (by omega)
  have e3 : (n + 8 - 1).tdiv 8 = (n + 8 - 1) / 8 := Int.tdiv_eq_ediv_of_nonneg (by omega)
  have e4 : IntKind.i64.wrap ((n + 8 - 1) / 8) = (n + 8 - 1) / 8 := wr_in' (by omega)
  go_enter Try.func12, Try.ntmps12
  go_wp2
  go_ret
  exact ⟨rfl, Below.refl _ _⟩
theorem sof_any (W t : Int) (w : World) (w1 : 1 ≤ W) (w2 : W ≤ 128) (t0 : 0 ≤ t) (t1 : t ≤ 16384) : Calls Try.prog 41 #[.int .i64 W, .int .i64 t] w fun e w' => e = .returned (.int .i64 (Fx.ofS W t)) ∧ Below w.heap.size w w' := by
  have q1 : 0 ≤ t % W := Int.emod_nonneg _ (by omega)
  have q2 : t % W < W := Int.emod_lt_of_pos _ (by omega)
  have q3 : 0 ≤ t / W := Int.ediv_nonneg t0 (by omega)
  have q4 : t / W ≤ t := Int.ediv_le_self _ t0
  have w0 : ¬ W = 0 := by omega
  obtain ⟨c1, c2⟩ := Fx.acS_bd w1 w2
  have z0 : 0 ≤ t / W / 8 := by omega
  have z1 : t / W / 8 ≤ 2048 := by omega
  have m0 : 0 ≤ Fx.acS W * (t / W / 8) := Int.mul_nonneg (by omega) z0
  have m1 : Fx.acS W * (t / W / 8) ≤ 16 * 2048 := Int.mul_le_mul c2 z1 z0 (by omega)
  have r1 : t.tmod W = t % W := Int.tmod_eq_emod_of_nonneg t0
  have r2 : t.tdiv W = t / W := Int.tdiv_eq_ediv_of_nonneg t0
  have r3 : (t % W).tdiv 8 = t % W / 8 := Int.tdiv_eq_ediv_of_nonneg q1
  have r4 : (t / W).tdiv 8 = t / W / 8 := Int.tdiv_eq_ediv_of_nonneg q3
  have e1 : IntKind.i64.wrap (t / W) = t / W := wr_in' (by omega)
  have e2 : IntKind.i64.wrap (t % W / 8) = t % W / 8 := wr_in' (by omega)
  have e3 : IntKind.i64.wrap (t / W / 8) = t / W / 8 := wr_in' (by omega)
  have e4 : IntKind.i64.wrap (Fx.acS W * (t / W / 8)) = Fx.acS W * (t / W / 8) := wr_in' (by omega)
  have e5 : IntKind.i64.wrap (t % W / 8 + Fx.acS W * (t / W / 8)) = t % W / 8 + Fx.acS W * (t / W / 8) := wr_in' (by omega)
  clear q1 q2 q3 q4 z0 z1 m0 m1 c1 c2
  go_enter Try.func41, Try.ntmps41
  go_wp2
  have eb := Below.refl w.heap.size w
  go_region_held3 (fun w' => Below w.heap.size w w') (first | exact eb | exact Below.drew eb | go_keep) (first | (go_at_call 40; go_must (refine (hold0 (B := w.heap.size) (w0 := w) (across_any W _ w1 w2) ?_ ?_).mono ?_); (first | assumption | exact eb.drew); (exact (show w.heap.size ≤ _ from (by first | exact Below.size eb | exact Below.size (Below.drew eb)))); rintro e w' ⟨rfl, eb⟩))
  go_wp2
  go_ret
  exact ⟨rfl, by first | exact eb | exact eb.drew⟩
theorem rsof_any (W t : Int) (w : World) (w1 : 1 ≤ W) (w2 : W ≤ 128) (t0 : 0 ≤ t) (t1 : t ≤ 16384) : Calls Try.prog 15 #[.int .i64 W, .int .i64 t] w fun e w' => e = .returned (.int .i64 (Fx.ofS W t)) ∧ Below w.heap.size w w' := by
  have q1 : 0 ≤ t % W := Int.emod_nonneg _ (by omega)
  have q2 : t % W < W := Int.emod_lt_of_pos _ (by omega)
  have q3 : 0 ≤ t / W := Int.ediv_nonneg t0 (by omega)
  have q4 : t / W ≤ t := Int.ediv_le_self _ t0
  have w0 : ¬ W = 0 := by omega
  obtain ⟨c1, c2⟩ := Fx.acS_bd w1 w2
  have z0 : 0 ≤ t / W / 8 := by omega
  have z1 : t / W / 8 ≤ 2048 := by omega
  have m0 : 0 ≤ Fx.acS W * (t / W / 8) := Int.mul_nonneg (by omega) z0
  have m1 : Fx.acS W * (t / W / 8) ≤ 16 * 2048 := Int.mul_le_mul c2 z1 z0 (by omega)
  have r1 : t.tmod W = t % W := Int.tmod_eq_emod_of_nonneg t0
  have r2 : t.tdiv W = t / W := Int.tdiv_eq_ediv_of_nonneg t0
  have r3 : (t % W).tdiv 8 = t % W / 8 := Int.tdiv_eq_ediv_of_nonneg q1
  have r4 : (t / W).tdiv 8 = t / W / 8 := Int.tdiv_eq_ediv_of_nonneg q3
  have e1 : IntKind.i64.wrap (t / W) = t / W := wr_in' (by omega)
  have e2 : IntKind.i64.wrap (t % W / 8) = t % W / 8 := wr_in' (by omega)
  have e3 : IntKind.i64.wrap (t / W / 8) = t / W / 8 := wr_in' (by omega)
  have e4 : IntKind.i64.wrap (Fx.acS W * (t / W / 8)) = Fx.acS W * (t / W / 8) := wr_in' (by omega)
  have e5 : IntKind.i64.wrap (t % W / 8 + Fx.acS W * (t / W / 8)) = t % W / 8 + Fx.acS W * (t / W / 8) := wr_in' (by omega)
  clear q1 q2 q3 q4 z0 z1 m0 m1 c1 c2
  go_enter Try.func15, Try.ntmps15
  go_wp2
  have eb := Below.refl w.heap.size w
  go_region_held3 (fun w' => Below w.heap.size w w') (first | exact eb | exact Below.drew eb | go_keep) (first | (go_at_call 12; go_must (refine (hold0 (B := w.heap.size) (w0 := w) (racross_any W _ w1 w2) ?_ ?_).mono ?_); (first | assumption | exact eb.drew); (exact (show w.heap.size ≤ _ from (by first | exact Below.size eb | exact Below.size (Below.drew eb)))); rintro e w' ⟨rfl, eb⟩))
  go_wp2
  go_ret
  exact ⟨rfl, by first | exact eb | exact eb.drew⟩
end Go.Proofs.Ytkggejdbkllaaaa
