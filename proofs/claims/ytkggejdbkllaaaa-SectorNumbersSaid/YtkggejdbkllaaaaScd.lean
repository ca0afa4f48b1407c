/- Package sector: filling two tiles. -/
import Derived.Test.YtkggejdbkllaaaaScc
import Derived.LoopN
namespace Go.Proofs.Ytkggejdbkllaaaa
open Go.RowKit
set_option linter.unusedVariables false
theorem fill_mid (w2 : World) (F G O B : Nat) (T : TypeId) (hFG : F < G) (hGO : G < O) (hOB : O < B) (hB : B < w2.heap.size) (F0 : w2.cell? ⟨F, 0, none⟩ = some (.bool true)) (F1 : w2.cell? ⟨F, 1, none⟩ = some (.bool true)) (G0 : w2.cell? ⟨G, 0, none⟩ = some (.int .i64 0)) (G1 : w2.cell? ⟨G, 1, none⟩ = some (.int .i64 (-1))) (O0 : w2.cell? ⟨O, 0, none⟩ = some (.int .i64 0)) :
    (((w2.setCell ⟨G, 1, none⟩ (.int .i64 0)).alloc (.cells #[.int .i64 1] T)).setCells O 0 [.int .i64 1]).cell? ⟨F, 0, none⟩ = some (.bool true) ∧ (((w2.setCell ⟨G, 1, none⟩ (.int .i64 0)).alloc (.cells #[.int .i64 1] T)).setCells O 0 [.int .i64 1]).cell? ⟨F, 1, none⟩ = some (.bool true) ∧ (((w2.setCell ⟨G, 1, none⟩ (.int .i64 0)).alloc (.cells #[.int .i64 1] T)).setCells O 0 [.int .i64 1]).cell? ⟨G, 0, none⟩ = some (.int .i64 0) ∧ (((w2.setCell ⟨G, 1, none⟩ (.int .i64 0)).alloc (.cells #[.int .i64 1] T)).setCells O 0 [.int .i64 1]).cell? ⟨G, 1, none⟩ = some (.int .i64 0) ∧ (((w2.setCell ⟨G, 1, none⟩ (.int .i64 0)).alloc (.cells #[.int .i64 1] T)).setCells O 0 [.int .i64 1]).cell? ⟨O, 0, none⟩ = some (.int .i64 1) ∧ Below G w2 (((w2.setCell ⟨G, 1, none⟩ (.int .i64 0)).alloc (.cells #[.int .i64 1] T)).setCells O 0 [.int .i64 1]) := by
  have hne : ¬ F = G := by omega
  have hne1 : ¬ F = O := by omega
  have hne2 : ¬ G = O := by omega
  have l1 : F < w2.heap.size := by omega
  have l2 : G < w2.heap.size := by omega
  have l3 : O < w2.heap.size := by omega
  have hne' : ¬ G = F := by omega
  have hne1' : ¬ O = F := by omega
  have hne2' : ¬ O = G := by omega
  have m1 : ¬ F = w2.heap.size := by omega
  have m2 : ¬ G = w2.heap.size := by omega
  have m3 : ¬ O = w2.heap.size := by omega
  have hb0 : Below G w2 (w2.setCell ⟨G, 1, none⟩ (.int .i64 0)) := Below.setCell (p := ⟨G, 1, none⟩) (Below.refl G w2) (Nat.le_refl G) _
  have hb1 := hb0.alloc (by simp; omega) (.cells #[.int .i64 1] T)
  have hb2 : Below G w2 (((w2.setCell ⟨G, 1, none⟩ (.int .i64 0)).alloc (.cells #[.int .i64 1] T)).setCells O 0 [.int .i64 1]) := Below.setCell (p := ⟨O, 0, none⟩) hb1 (Nat.le_of_lt hGO) _
  refine ⟨(hb2.cell (p := ⟨F, 0, none⟩) hFG).trans F0, (hb2.cell (p := ⟨F, 1, none⟩) hFG).trans F1, ?_, ?_, ?_, hb2⟩
  · unfold World.setCells World.setCells; go_simp
  · unfold World.setCells World.setCells; go_simp
  · unfold World.setCells World.setCells; go_simp
set_option maxHeartbeats 1600000 in
theorem fill10_1 (F G : Nat) (w : World) (f0 : w.cell? ⟨F, 0, none⟩ = some (.bool true)) (f1 : w.cell? ⟨F, 1, none⟩ = some (.bool true)) (g0 : w.cell? ⟨G, 0, none⟩ = some (.int .i64 0)) (g1 : w.cell? ⟨G, 1, none⟩ = some (.int .i64 0)) :
    Calls Try.prog 44 #[.int .i64 2, .int .i64 1, .slice (some ⟨F, 0, none⟩) 2 2, .slice (some ⟨G, 0, none⟩) 2 2, .int .i64 1] w fun e w' => e = .returned (.tuple #[]) ∧ Below w.heap.size w w' := by
  go_enter Try.func44, Try.ntmps44
  go_wp2
  refine bodyPost_ret (v := .tuple #[]) (by simp [results, Try.results44, go_sem]) rfl ⟨rfl, Below.refl _ _⟩
theorem fill10_0 (F G : Nat) (w : World) (f0 : w.cell? ⟨F, 0, none⟩ = some (.bool true)) (f1 : w.cell? ⟨F, 1, none⟩ = some (.bool true)) (g0 : w.cell? ⟨G, 0, none⟩ = some (.int .i64 (-1))) (g1 : w.cell? ⟨G, 1, none⟩ = some (.int .i64 (-1))) (z0 : w.frozen? ⟨G, 0, none⟩ = false) (z1 : w.frozen? ⟨G, 1, none⟩ = false) (hFG : F < G) :
    Calls Try.prog 44 #[.int .i64 2, .int .i64 1, .slice (some ⟨F, 0, none⟩) 2 2, .slice (some ⟨G, 0, none⟩) 2 2, .int .i64 0] w fun e w' => e = .returned (.tuple #[]) ∧ w'.cell? ⟨G, 0, none⟩ = some (.int .i64 0) ∧ w'.cell? ⟨G, 1, none⟩ = some (.int .i64 0) ∧ Below G w w' := by
  have info_int : (Try.prog.info? 3).map (fun i => (i.zero, i.size, i.bytes)) = some (some (.int .i64 0), 1, 8) := by kernel_rfl
  obtain ⟨i0, hi, hz0, hz1, hz2⟩ := info_parts info_int
  clear info_int
  go_enter Try.func44, Try.ntmps44
  go_wp2_with (fail)
  have hF : F < w.heap.size := World.block_lt_of_cell? _ _ f0
  have hG : G < w.heap.size := World.block_lt_of_cell? _ _ g0
  have hne : ¬ F = G := by omega
  have hne' : ¬ G = F := by omega
  have hGO : ¬ G = w.heap.size := by omega
  have hFO : ¬ F = w.heap.size := by omega
  have HB1 : Below G w ((w.setCell ⟨G, 0, none⟩ (.int .i64 0)).alloc (.cells #[.int .i64 0] 3)) := by
    have hb0 : Below G w (w.setCell ⟨G, 0, none⟩ (.int .i64 0)) := Below.setCell (p := ⟨G, 0, none⟩) (Below.refl G w) (Nat.le_refl G) _
    exact hb0.alloc (by simp; omega) _
  have F0 : ((w.setCell ⟨G, 0, none⟩ (.int .i64 0)).alloc (.cells #[.int .i64 0] 3)).cell? ⟨F, 0, none⟩ = some (.bool true) := (HB1.cell (p := ⟨F, 0, none⟩) hFG).trans f0
  have F1 : ((w.setCell ⟨G, 0, none⟩ (.int .i64 0)).alloc (.cells #[.int .i64 0] 3)).cell? ⟨F, 1, none⟩ = some (.bool true) := (HB1.cell (p := ⟨F, 1, none⟩) hFG).trans f1
  have G0 : ((w.setCell ⟨G, 0, none⟩ (.int .i64 0)).alloc (.cells #[.int .i64 0] 3)).cell? ⟨G, 0, none⟩ = some (.int .i64 0) := by go_simp
  have G1 : ((w.setCell ⟨G, 0, none⟩ (.int .i64 0)).alloc (.cells #[.int .i64 0] 3)).cell? ⟨G, 1, none⟩ = some (.int .i64 (-1)) := by go_simp
  have O0 : ((w.setCell ⟨G, 0, none⟩ (.int .i64 0)).alloc (.cells #[.int .i64 0] 3)).cell? ⟨w.heap.size, 0, none⟩ = some (.int .i64 0) := by go_simp
  have Z1 : ((w.setCell ⟨G, 0, none⟩ (.int .i64 0)).alloc (.cells #[.int .i64 0] 3)).frozen? ⟨G, 1, none⟩ = false := by go_simp
  have ZO : ((w.setCell ⟨G, 0, none⟩ (.int .i64 0)).alloc (.cells #[.int .i64 0] 3)).frozen? ⟨w.heap.size, 0, none⟩ = false := by go_simp
  have hsz : w.heap.size < ((w.setCell ⟨G, 0, none⟩ (.int .i64 0)).alloc (.cells #[.int .i64 0] 3)).heap.size := by simp
  have HH := Hk.mk HB1
  clear HB1 f0 f1 g0 g1 z0 z1
  generalize (w.setCell ⟨G, 0, none⟩ (.int .i64 0)).alloc (.cells #[.int .i64 0] 3) = W1 at *
  generalize w.heap.size = O at *
  have hFW : F < W1.heap.size := by omega
  have hGW : G < W1.heap.size := by omega
  refine wp_loop_rounds 3 ?_
  rw [rounds_succ]
  go_wp2_with (go_at_call 54; (with_reducible refine (beside10_0 _).mono ?_); rintro e w2 ⟨B, rfl, hB1, hB2, B0, hb2⟩; have F0 := (hb2.cell (p := ⟨F, 0, none⟩) hFW).trans F0; have F1 := (hb2.cell (p := ⟨F, 1, none⟩) hFW).trans F1; have G0 := (hb2.cell (p := ⟨G, 0, none⟩) hGW).trans G0; have G1 := (hb2.cell (p := ⟨G, 1, none⟩) hGW).trans G1; have O0 := (hb2.cell (p := ⟨O, 0, none⟩) hsz).trans O0; have Z1 := (hb2.frozen (p := ⟨G, 1, none⟩) hGW).trans Z1; have ZO := (hb2.frozen (p := ⟨O, 0, none⟩) hsz).trans ZO)
  refine wp_loop_rounds 2 ?_
  rw [rounds_succ]
  go_wp2_with (at_builtin; go_must (refine wpList_append_arg _ rfl _ _ 23 rfl 3 i0 (.int .i64 0) 1 8 Try.underlying23 hi hz0 hz1 hz2 rfl (by decide) O 0 0 1 [] rfl rfl ?_ ⟨w2.heap.size, 0, none⟩ 1 1 [.int .i64 1] rfl rfl ?_ ?_ ?_ (by unfold maxLen; omega) (by omega) ?_ (fun h => absurd h (by omega))))
  · intro j u hj; simp at hj
  · have hs2 : (w2.setCell ⟨G, 1, none⟩ (.int .i64 0)).heap.size = w2.heap.size := by simp
    have h1 := one_new (w2.setCell ⟨G, 1, none⟩ (.int .i64 0)) (.int .i64 1) 3
    rw [hs2] at h1
    exact h1
  · intro u hu; simp at hu; subst hu; rfl
  · intro _ j hj
    obtain rfl : j = 0 := by simp at hj; omega
    have l3 : O < w2.heap.size := by omega
    have m3 : ¬ O = w2.heap.size := by omega
    have m4 : ¬ O = G := by omega
    have m5 : ¬ G = O := by omega
    exact ⟨by go_simp, by go_simp⟩
  obtain ⟨X0, X1, Y0, Y1, P0, hb4⟩ := fill_mid w2 F G O B 3 hFG (by omega) (by omega) hB2 F0 F1 G0 G1 O0
  have HH4 := Hk.mk ((HH.out.trans (hb2.mono (by omega))).trans hb4)
  clear hb4 F0 F1 G0 G1 O0 B0 hb2 Z1 ZO
  generalize (((w2.setCell ⟨G, 1, none⟩ (.int .i64 0)).alloc (.cells #[.int .i64 1] 3)).setCells O 0 [.int .i64 1]) = W4 at *
  have hFW4 : F < W4.heap.size := World.block_lt_of_cell? _ _ X0
  have hGW4 : G < W4.heap.size := World.block_lt_of_cell? _ _ Y0
  have hOW4 : O < W4.heap.size := World.block_lt_of_cell? _ _ P0
  rw [rounds_succ]
  go_wp2
  rw [rounds_succ]
  go_wp2_with (go_at_call 54; (with_reducible refine (beside10_1 _).mono ?_); rintro e w5 ⟨C, rfl, hC1, hC2, C0, hb5⟩; have X0 := (hb5.cell (p := ⟨F, 0, none⟩) hFW4).trans X0; have X1 := (hb5.cell (p := ⟨F, 1, none⟩) hFW4).trans X1; have Y0 := (hb5.cell (p := ⟨G, 0, none⟩) hGW4).trans Y0; have Y1 := (hb5.cell (p := ⟨G, 1, none⟩) hGW4).trans Y1; have P0 := (hb5.cell (p := ⟨O, 0, none⟩) hOW4).trans P0)
  refine wp_loop_rounds 2 ?_
  rw [rounds_succ]
  go_wp2
  rw [rounds_succ]
  go_wp2
  rw [rounds_succ]
  go_wp2
  go_end0
  exact ⟨rfl, Y0, Y1, HH4.out.trans (hb5.mono (by omega))⟩
end Go.Proofs.Ytkggejdbkllaaaa
