/- Layer 5: what the reference's table answers. -/
import Derived.Test.YtdammgpflfoppacDoorKnb
namespace Go.Proofs.YtdammgpflfoppacDoor
open Go.RowKit
set_option linter.unusedVariables false
set_option maxHeartbeats 3200000 in
theorem rcost_any (c t : Nat) (w : World) (hc : c < 3) (ht : t < 6) : Calls Tryd.prog 11 #[.int .i64 c, .int .u8 t] w fun e w' => e = .returned (.int .i64 (costS c t)) ∧ Below w.heap.size w w' := by
  have hcc : c = 0 ∨ c = 1 ∨ c = 2 := by omega
  have htt : t = 0 ∨ t = 1 ∨ t = 2 ∨ t = 3 ∨ t = 4 ∨ t = 5 := by omega
  clear hc ht
  rcases hcc with rfl | rfl | rfl <;> rcases htt with rfl | rfl | rfl | rfl | rfl | rfl <;>
  · go_enter Tryd.func11, Tryd.ntmps11
    go_wp2
    refine bodyPost_ret (v := .int .i64 _) (by simp [results, Tryd.results11, go_sem]; try rfl) rfl ⟨rfl, ?_⟩
    first | exact Below.refl _ _ | exact (Below.refl _ _).alloc (Nat.le_refl _) _
end Go.Proofs.YtdammgpflfoppacDoor
