/- Layer 8: a building alone. -/
import Derived.Test.YtjjodfdmbiebnaaDoorBup
import Derived.Test.YtjjodfdmbiebnaaDoorGra
import Derived.Below
import Derived.BigGuardPart
import Derived.Deep.QuietTactic
import Derived.BigQuiet
import Derived.Deep.RegionWith
import Derived.Deep.RegionHeld3
import Derived.Deep.DeepCutAuto
import Derived.Deep.DeepFit
import Derived.Outline
namespace Go.Proofs.YtjjodfdmbiebnaaDoor
open Go.RowKit
set_option linter.unusedVariables false
/-- An equation of two tests. -/
theorem beq_of {a b : Bool} (h : a = true ↔ b = true) : a = b := Bool.eq_iff_iff.2 h
theorem formed_any (b : Bd) (w : World) :
    Calls Tryd.prog 74 #[.agg #[.int .i64 b.i, .int .i64 b.o, .int .i64 b.x, .int .i64 b.y, .int .i64 b.w, .int .i64 b.h]] w fun e w' => e = .returned (.bool (fmB b)) ∧ Below w.heap.size w w' := by
  go_enter Tryd.func74, Tryd.ntmps74
  go_wp2
  all_goals
    go_ret
    exact ⟨rbo (by unfold fmB; apply beq_of; simp; omega), (Below.refl _ _).alloc (Nat.le_refl _) _⟩
theorem inside_any (W H : Int) (a : Option Addr) (n c : Nat) (b : Bd) (w : World) (w1 : 1 ≤ W) (w2 : W ≤ 128) (h1 : 1 ≤ H) (h2 : H ≤ 128) (f : FmOk b) :
    Calls Tryd.prog 75 #[.agg #[.int .i64 W, .int .i64 H, .slice a n c], .agg #[.int .i64 b.i, .int .i64 b.o, .int .i64 b.x, .int .i64 b.y, .int .i64 b.w, .int .i64 b.h]] w fun e w' => e = .returned (.bool (inB W H b)) ∧ Below w.heap.size w w' := by
  have q1 := f.w1; have q2 := f.w2; have q3 := f.h1; have q4 := f.h2
  clear f
  go_enter Tryd.func75, Tryd.ntmps75
  go_wp2
  all_goals
    go_ret
    exact ⟨rbo (by unfold inB; apply beq_of; simp; omega), ((Below.refl _ _).alloc (Nat.le_refl _) _).alloc (by simp) _⟩
theorem sides_any (b : Bd) (w : World) :
    Calls Tryd.prog 63 #[.agg #[.int .i64 b.i, .int .i64 b.o, .int .i64 b.x, .int .i64 b.y, .int .i64 b.w, .int .i64 b.h]] w fun e w' => e = .returned (.bool (fmB b)) ∧ Below w.heap.size w w' := by
  go_enter Tryd.func63, Tryd.ntmps63
  go_wp2
  all_goals
    go_ret
    exact ⟨rbo (by unfold fmB; apply beq_of; simp; omega), (Below.refl _ _).alloc (Nat.le_refl _) _⟩
theorem on_any (W H : Int) (a : Option Addr) (n c : Nat) (b : Bd) (w : World) (w1 : 1 ≤ W) (w2 : W ≤ 128) (h1 : 1 ≤ H) (h2 : H ≤ 128) (f : FmOk b) :
    Calls Tryd.prog 64 #[.agg #[.int .i64 W, .int .i64 H, .slice a n c], .agg #[.int .i64 b.i, .int .i64 b.o, .int .i64 b.x, .int .i64 b.y, .int .i64 b.w, .int .i64 b.h]] w fun e w' => e = .returned (.bool (inB W H b)) ∧ Below w.heap.size w w' := by
  have q1 := f.w1; have q2 := f.w2; have q3 := f.h1; have q4 := f.h2
  clear f
  go_enter Tryd.func64, Tryd.ntmps64
  go_wp2
  all_goals
    go_ret
    exact ⟨rbo (by unfold inB; apply beq_of; simp; omega), ((Below.refl _ _).alloc (Nat.le_refl _) _).alloc (by simp) _⟩
theorem meet_any (b b' : Bd) (w : World) (W H : Int) (w2 : W ≤ 128) (h2 : H ≤ 128) (f : FmOk b) (f' : FmOk b') (i : InOk W H b) (i' : InOk W H b') :
    Calls Tryd.prog 66 #[.agg #[.int .i64 b.i, .int .i64 b.o, .int .i64 b.x, .int .i64 b.y, .int .i64 b.w, .int .i64 b.h], .agg #[.int .i64 b'.i, .int .i64 b'.o, .int .i64 b'.x, .int .i64 b'.y, .int .i64 b'.w, .int .i64 b'.h]] w fun e w' => e = .returned (.bool (mtB b b')) ∧ Below w.heap.size w w' := by
  have q1 := f.w1; have q2 := f.w2; have q3 := f.h1; have q4 := f.h2
  have r1 := f'.w1; have r2 := f'.w2; have r3 := f'.h1; have r4 := f'.h2
  have q5 := i.x1; have q6 := i.x2; have q7 := i.y1; have q8 := i.y2
  have r5 := i'.x1; have r6 := i'.x2; have r7 := i'.y1; have r8 := i'.y2
  clear f f' i i'
  go_enter Tryd.func66, Tryd.ntmps66
  go_wp2
  all_goals
    go_ret
    exact ⟨rbo (by unfold mtB; apply beq_of; simp; omega), ((Below.refl _ _).alloc (Nat.le_refl _) _).alloc (by simp) _⟩
theorem has_any (W H t : Int) (a : Option Addr) (n c : Nat) (b : Bd) (w : World) (w1 : 1 ≤ W) (w2 : W ≤ 128) (h1 : 1 ≤ H) (h2 : H ≤ 128) (t0 : 0 ≤ t) (t1 : t ≤ 16384) (f : FmOk b) (i : InOk W H b) :
    Calls Tryd.prog 79 #[.agg #[.int .i64 W, .int .i64 H, .slice a n c], .agg #[.int .i64 b.i, .int .i64 b.o, .int .i64 b.x, .int .i64 b.y, .int .i64 b.w, .int .i64 b.h], .int .i64 t] w fun e w' => e = .returned (.bool (hsB W b t)) ∧ Below w.heap.size w w' := by
  have q1 := f.w1; have q2 := f.w2; have q3 := f.h1; have q4 := f.h2
  have q5 := i.x1; have q6 := i.x2; have q7 := i.y1; have q8 := i.y2
  clear f i
  have x0 := Int.emod_nonneg t (show W ≠ 0 by omega)
  have x1 := Int.emod_lt_of_pos t (show 0 < W by omega)
  have y0 : 0 ≤ t / W := Int.ediv_nonneg t0 (by omega)
  have y1 : t / W ≤ t := Int.ediv_le_self _ t0
  go_enter Tryd.func79, Tryd.ntmps79
  go_wp2_with fail
  go_quiet (fail)
  go_wp2
  all_goals
    go_ret
    exact ⟨rbo (by unfold hsB; apply beq_of; simp; omega), below_drewN (((Below.refl _ _).alloc (Nat.le_refl _) _).alloc (by simp) _) _⟩
theorem has_as (r : Bool) (W H t : Int) (a : Option Addr) (n c : Nat) (b : Bd) (w : World) (w1 : 1 ≤ W) (w2 : W ≤ 128) (h1 : 1 ≤ H) (h2 : H ≤ 128) (t0 : 0 ≤ t) (t1 : t ≤ 16384) (f : FmOk b) (i : InOk W H b) (E : Hk (hsB W b t = r)) :
    Calls Tryd.prog 79 #[.agg #[.int .i64 W, .int .i64 H, .slice a n c], .agg #[.int .i64 b.i, .int .i64 b.o, .int .i64 b.x, .int .i64 b.y, .int .i64 b.w, .int .i64 b.h], .int .i64 t] w fun e w' => e = .returned (.bool r) ∧ Below w.heap.size w w' := by
  obtain ⟨rfl⟩ := E; exact has_any W H t a n c b w w1 w2 h1 h2 t0 t1 f i
theorem formed_as (r : Bool) (b : Bd) (w : World) (E : Hk (fmB b = r)) :
    Calls Tryd.prog 74 #[.agg #[.int .i64 b.i, .int .i64 b.o, .int .i64 b.x, .int .i64 b.y, .int .i64 b.w, .int .i64 b.h]] w fun e w' => e = .returned (.bool r) ∧ Below w.heap.size w w' := by
  obtain ⟨rfl⟩ := E; exact formed_any b w
theorem sides_as (r : Bool) (b : Bd) (w : World) (E : Hk (fmB b = r)) :
    Calls Tryd.prog 63 #[.agg #[.int .i64 b.i, .int .i64 b.o, .int .i64 b.x, .int .i64 b.y, .int .i64 b.w, .int .i64 b.h]] w fun e w' => e = .returned (.bool r) ∧ Below w.heap.size w w' := by
  obtain ⟨rfl⟩ := E; exact sides_any b w
theorem inside_as (r : Bool) (W H : Int) (a : Option Addr) (n c : Nat) (b : Bd) (w : World) (w1 : 1 ≤ W) (w2 : W ≤ 128) (h1 : 1 ≤ H) (h2 : H ≤ 128) (f : FmOk b) (E : Hk (inB W H b = r)) :
    Calls Tryd.prog 75 #[.agg #[.int .i64 W, .int .i64 H, .slice a n c], .agg #[.int .i64 b.i, .int .i64 b.o, .int .i64 b.x, .int .i64 b.y, .int .i64 b.w, .int .i64 b.h]] w fun e w' => e = .returned (.bool r) ∧ Below w.heap.size w w' := by
  obtain ⟨rfl⟩ := E; exact inside_any W H a n c b w w1 w2 h1 h2 f
theorem on_as (r : Bool) (W H : Int) (a : Option Addr) (n c : Nat) (b : Bd) (w : World) (w1 : 1 ≤ W) (w2 : W ≤ 128) (h1 : 1 ≤ H) (h2 : H ≤ 128) (f : FmOk b) (E : Hk (inB W H b = r)) :
    Calls Tryd.prog 64 #[.agg #[.int .i64 W, .int .i64 H, .slice a n c], .agg #[.int .i64 b.i, .int .i64 b.o, .int .i64 b.x, .int .i64 b.y, .int .i64 b.w, .int .i64 b.h]] w fun e w' => e = .returned (.bool r) ∧ Below w.heap.size w w' := by
  obtain ⟨rfl⟩ := E; exact on_any W H a n c b w w1 w2 h1 h2 f
theorem meet_as (r : Bool) (b b' : Bd) (w : World) (W H : Int) (w2 : W ≤ 128) (h2 : H ≤ 128) (f : FmOk b) (f' : FmOk b') (i : InOk W H b) (i' : InOk W H b') (E : Hk (mtB b b' = r)) :
    Calls Tryd.prog 66 #[.agg #[.int .i64 b.i, .int .i64 b.o, .int .i64 b.x, .int .i64 b.y, .int .i64 b.w, .int .i64 b.h], .agg #[.int .i64 b'.i, .int .i64 b'.o, .int .i64 b'.x, .int .i64 b'.y, .int .i64 b'.w, .int .i64 b'.h]] w fun e w' => e = .returned (.bool r) ∧ Below w.heap.size w w' := by
  obtain ⟨rfl⟩ := E; exact meet_any b b' w W H w2 h2 f f' i i'
end Go.Proofs.YtjjodfdmbiebnaaDoor
