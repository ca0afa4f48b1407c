/- Package sector: the parts of two tiles. -/
import Derived.Test.YtkggejdbkllaaaaScd
namespace Go.Proofs.Ytkggejdbkllaaaa
open Go.RowKit
set_option linter.unusedVariables false
set_option maxHeartbeats 1600000 in
theorem parts10 (F : Nat) (w : World) (f0 : w.cell? ⟨F, 0, none⟩ = some (.bool true)) (f1 : w.cell? ⟨F, 1, none⟩ = some (.bool true)) :
    Calls Try.prog 21 #[.int .i64 2, .int .i64 1, .slice (some ⟨F, 0, none⟩) 2 2] w fun e w' => ∃ G, e = .returned (.tuple #[.slice (some ⟨G, 0, none⟩) 2 2, .int .i64 0]) ∧ w'.cell? ⟨G, 0, none⟩ = some (.int .i64 0) ∧ w'.cell? ⟨G, 1, none⟩ = some (.int .i64 0) ∧ Below w.heap.size w w' := by
  have ES : Hk (Fx.szB 2 1 = true) := ⟨by decide⟩
  have hmk : ∀ w, (Instr.makeSlice 23 (.int .i64 2) (.int .i64 2)).run Try.prog w = .ok (.slice (some ⟨w.heap.size, 0, none⟩) 2 2) (w.alloc (.cells #[.int .i64 0, .int .i64 0] 3)) := fun _ => by kernel_rfl
  have hF : F < w.heap.size := World.block_lt_of_cell? _ _ f0
  have HF0 : Hk (∀ X, Below w.heap.size w X → X.cell? ⟨F, 0, none⟩ = some (.bool true) ∧ X.cell? ⟨F, 1, none⟩ = some (.bool true)) := ⟨fun X hX => ⟨(hX.cell (p := ⟨F, 0, none⟩) hF).trans f0, (hX.cell (p := ⟨F, 1, none⟩) hF).trans f1⟩⟩
  go_enter Try.func21, Try.ntmps21
  go_wp2_with (go_at_call 39; (with_reducible refine (sized_as true 2 1 _ ES).mono ?_); rintro e w1 ⟨rfl, hb1⟩)
  refine wp_loop_rounds 3 ?_
  rw [rounds_succ]
  go_wp2
  rw [rounds_succ]
  go_wp2
  rw [rounds_succ]
  go_wp2
  have hbw : Below w.heap.size w (w1.alloc (.cells #[.int .i64 (-1), .int .i64 (-1)] 3)) := hb1.alloc hb1.size _
  have g0 : (w1.alloc (.cells #[.int .i64 (-1), .int .i64 (-1)] 3)).cell? ⟨w1.heap.size, 0, none⟩ = some (.int .i64 (-1)) := by go_simp
  have g1 : (w1.alloc (.cells #[.int .i64 (-1), .int .i64 (-1)] 3)).cell? ⟨w1.heap.size, 1, none⟩ = some (.int .i64 (-1)) := by go_simp
  have z0 : (w1.alloc (.cells #[.int .i64 (-1), .int .i64 (-1)] 3)).frozen? ⟨w1.heap.size, 0, none⟩ = false := by go_simp
  have z1 : (w1.alloc (.cells #[.int .i64 (-1), .int .i64 (-1)] 3)).frozen? ⟨w1.heap.size, 1, none⟩ = false := by go_simp
  obtain ⟨k0, k1⟩ := HF0.out _ hbw
  have hs1 := hb1.size
  have hs2 := hbw.size
  clear hb1
  generalize (w1.alloc (.cells #[.int .i64 (-1), .int .i64 (-1)] 3)) = W2 at *
  generalize w1.heap.size = G at *
  have hGW : G < W2.heap.size := World.block_lt_of_cell? _ _ g0
  refine wp_loop_rounds 3 ?_
  rw [rounds_succ]
  go_wp2_with (go_at_call 44; (with_reducible refine (fill10_0 F G _ k0 k1 g0 g1 z0 z1 ?_).mono ?_); (omega); rintro e w3 ⟨rfl, g0', g1', hb3⟩; have HB3 := Hk.mk (hbw.trans (hb3.mono (by omega))); clear hb3 g0 g1 z0 z1 k0 k1)
  obtain ⟨k0, k1⟩ := HF0.out _ HB3.out
  have hs3 := HB3.out.size
  rw [rounds_succ]
  go_wp2_with (go_at_call 44; (with_reducible refine (fill10_1 F G _ k0 k1 g0' g1').mono ?_); rintro e w4 ⟨rfl, hb4⟩; have hG4 : G < w3.heap.size := World.block_lt_of_cell? _ _ g0'; have m0 := (hb4.cell (p := ⟨G, 0, none⟩) hG4).trans g0'; have m1 := (hb4.cell (p := ⟨G, 1, none⟩) hG4).trans g1')
  rw [rounds_succ]
  go_wp2
  refine bodyPost_ret (v := .tuple #[.slice (some ⟨G, 0, none⟩) 2 2, .int .i64 0]) (by simp [results, Try.results21, go_sem]) rfl ⟨G, rfl, m0, m1, HB3.out.trans (hb4.mono (by omega))⟩
end Go.Proofs.Ytkggejdbkllaaaa
