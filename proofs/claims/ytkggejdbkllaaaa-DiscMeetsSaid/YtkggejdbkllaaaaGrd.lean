/- Layer 6: tiles of places. -/
import Derived.Test.YtkggejdbkllaaaaGrc
namespace Go.Proofs.Ytkggejdbkllaaaa
open Go.RowKit
set_option linter.unusedVariables false
theorem rtile_any (t W H : Int) (s : Value) (w : World) (w1 : 1 ≤ W) (w2 : W ≤ 128) (h1 : 1 ≤ H) (h2 : H ≤ 128) :
    Calls Try.prog 32 #[.agg #[.int .i64 W, .int .i64 H, s], .int .i64 t] w fun e' w' => e' = .returned (.bool (decide (0 ≤ t ∧ t < W * H))) ∧ Below w.heap.size w w' := by
  obtain ⟨m1, m2⟩ := mul_bd w1 w2 h1 h2
  by_cases t0 : 0 ≤ t
  · have b1 : decide (0 ≤ t) = true := by simp; omega
    by_cases t1 : t < W * H
    · have b2 : decide (t < W * H) = true := by simp; omega
      go_enter Try.func32, Try.ntmps32
      go_wp2
      go_ret
      exact ⟨rbo (by first | (simp; omega) | (simp; done)), (Below.refl _ _).alloc (Nat.le_refl _) _⟩
    · have b2 : decide (t < W * H) = false := by simp; omega
      go_enter Try.func32, Try.ntmps32
      go_wp2
      go_ret
      exact ⟨rbo (by first | (simp; omega) | (simp; done)), (Below.refl _ _).alloc (Nat.le_refl _) _⟩
  · have b1 : decide (0 ≤ t) = false := by simp; omega
    go_enter Try.func32, Try.ntmps32
    go_wp2
    go_ret
    exact ⟨rbo (by first | (simp; omega) | (simp; done)), (Below.refl _ _).alloc (Nat.le_refl _) _⟩
end Go.Proofs.Ytkggejdbkllaaaa
