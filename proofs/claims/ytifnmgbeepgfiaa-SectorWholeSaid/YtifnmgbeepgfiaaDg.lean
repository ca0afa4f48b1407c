import Derived.Test.YtifnmgbeepgfiaaDf
import Derived.ArgAppend
import Derived.LoopN
import Derived.Test.YtifnmgbeepgfiaaDe
/- The contracts of package sector: Count and Of. -/
namespace Go.Proofs.Ytifnmgbeepgfiaa
open Go.RowKit
set_option linter.unusedVariables false
theorem of_yes10 (W H t : Int) (w : World) (E : Hk (Fx.szB W H = true)) (t0 : 0 ≤ t) (t1 : t < W * H) : Calls Try.prog 19 #[.int .i64 W, .int .i64 H, .int .i64 t] w fun e w' => e = .returned (.tuple #[.int .i64 (Fx.ofS W t), .int .i64 0]) ∧ Below w.heap.size w w' := by
  have hs := E.out
  unfold Fx.szB at hs
  simp at hs
  obtain ⟨w1, w2, h1, h2⟩ := hs
  obtain ⟨n1, n2⟩ := mul_bd w1 w2 h1 h2
  have e1 : IntKind.i64.wrap (W * H) = W * H := wr_in' (by omega)
  have b0 : decide (t < 0) = false := by simp; omega
  have b1 : decide (W * H ≤ t) = false := by simp; omega
  go_enter Try.func19, Try.ntmps19
  go_wp2_with (first | (go_at_call 24; (with_reducible refine (sized_as true W H _ E).mono ?_); rintro e w' ⟨rfl, eb⟩) | (go_at_call 27; go_must (refine (sof_any W t _ w1 w2 t0 (by omega)).mono ?_); rintro e w2 ⟨rfl, eb2⟩))
  refine bodyPost_ret (v := .tuple #[.int .i64 (Fx.ofS W t), .int .i64 0]) (by simp [results, Try.results19, go_sem]) rfl ⟨rfl, ?_⟩
  exact eb.trans (eb2.mono eb.size)
theorem of_neg10 (W H t : Int) (w : World) (E : Hk (Fx.szB W H = true)) (t0 : t < 0) : Calls Try.prog 19 #[.int .i64 W, .int .i64 H, .int .i64 t] w fun e w' => e = .returned (.tuple #[.int .i64 0, .int .i64 3]) ∧ Below w.heap.size w w' := by
  have hs := E.out
  unfold Fx.szB at hs
  simp at hs
  obtain ⟨w1, w2, h1, h2⟩ := hs
  obtain ⟨n1, n2⟩ := mul_bd w1 w2 h1 h2
  have e1 : IntKind.i64.wrap (W * H) = W * H := wr_in' (by omega)
  have b0 : decide (t < 0) = true := by simp; omega
  go_enter Try.func19, Try.ntmps19
  go_wp2_with (go_at_call 24; (with_reducible refine (sized_as true W H _ E).mono ?_); rintro e w' ⟨rfl, eb⟩)
  refine bodyPost_ret (v := .tuple #[.int .i64 0, .int .i64 3]) (by simp [results, Try.results19, go_sem]) rfl ⟨rfl, ?_⟩
  exact eb
theorem of_far10 (W H t : Int) (w : World) (E : Hk (Fx.szB W H = true)) (t0 : 0 ≤ t) (t1 : W * H ≤ t) : Calls Try.prog 19 #[.int .i64 W, .int .i64 H, .int .i64 t] w fun e w' => e = .returned (.tuple #[.int .i64 0, .int .i64 3]) ∧ Below w.heap.size w w' := by
  have hs := E.out
  unfold Fx.szB at hs
  simp at hs
  obtain ⟨w1, w2, h1, h2⟩ := hs
  obtain ⟨n1, n2⟩ := mul_bd w1 w2 h1 h2
  have e1 : IntKind.i64.wrap (W * H) = W * H := wr_in' (by omega)
  have b0 : decide (t < 0) = false := by simp; omega
  have b1 : decide (W * H ≤ t) = true := by simp; omega
  go_enter Try.func19, Try.ntmps19
  go_wp2_with (go_at_call 24; (with_reducible refine (sized_as true W H _ E).mono ?_); rintro e w' ⟨rfl, eb⟩)
  refine bodyPost_ret (v := .tuple #[.int .i64 0, .int .i64 3]) (by simp [results, Try.results19, go_sem]) rfl ⟨rfl, ?_⟩
  exact eb
theorem of_form10 (W H t : Int) (w : World) (E : Hk (Fx.szB W H = false)) : Calls Try.prog 19 #[.int .i64 W, .int .i64 H, .int .i64 t] w fun e w' => e = .returned (.tuple #[.int .i64 0, .int .i64 1]) ∧ Below w.heap.size w w' := by
  go_enter Try.func19, Try.ntmps19
  go_wp2_with (go_at_call 24; (with_reducible refine (sized_as false W H _ E).mono ?_); rintro e w' ⟨rfl, eb⟩)
  refine bodyPost_ret (v := .tuple #[.int .i64 0, .int .i64 1]) (by simp [results, Try.results19, go_sem]) rfl ⟨rfl, ?_⟩
  exact eb
end Go.Proofs.Ytifnmgbeepgfiaa
/- Package sector: the tiles beside each of two. -/
namespace Go.Proofs.Ytifnmgbeepgfiaa
open Go.RowKit
set_option linter.unusedVariables false
theorem app_c1 (w9 : World) (s : Nat) (hs : w9.heap.size = s) (v : Value) (T : TypeId) : ∀ (j : Nat) (u : Value), [v][j]? = some u → ((w9.alloc (.cells #[.int .i64 0, .int .i64 0, .int .i64 0, .int .i64 0] T)).alloc (.cells #[v] T)).cell? ((⟨s + 1, 0, none⟩ : Addr).add j) = some u := by
  subst hs
  intro j u hj
  match j, hj with
  | 0, hj => simp at hj; subst hj; simp [Addr.add]
theorem app_c3 (w9 : World) (s : Nat) (hs : w9.heap.size = s) (v : Value) (T : TypeId) : ∀ j, j < [v].length → (((w9.alloc (.cells #[.int .i64 0, .int .i64 0, .int .i64 0, .int .i64 0] T)).alloc (.cells #[v] T)).cell? ⟨s, 0 + 0 * 1 + j, none⟩).isSome = true ∧ ((w9.alloc (.cells #[.int .i64 0, .int .i64 0, .int .i64 0, .int .i64 0] T)).alloc (.cells #[v] T)).frozen? ⟨s, 0 + 0 * 1 + j, none⟩ = false := by
  subst hs
  intro j hj
  obtain rfl : j = 0 := by simp at hj; omega
  exact ⟨by simp, by simp⟩
theorem app_end (w9 : World) (s : Nat) (hs : w9.heap.size = s) (v : Value) (T : TypeId) : s < (((w9.alloc (.cells #[.int .i64 0, .int .i64 0, .int .i64 0, .int .i64 0] T)).alloc (.cells #[v] T)).setCells s 0 [v]).heap.size ∧ (((w9.alloc (.cells #[.int .i64 0, .int .i64 0, .int .i64 0, .int .i64 0] T)).alloc (.cells #[v] T)).setCells s 0 [v]).cell? ⟨s, 0, none⟩ = some v ∧ Below s w9 (((w9.alloc (.cells #[.int .i64 0, .int .i64 0, .int .i64 0, .int .i64 0] T)).alloc (.cells #[v] T)).setCells s 0 [v]) := by
  subst hs
  show _ < (World.setCell _ ⟨w9.heap.size, 0, none⟩ v).heap.size ∧ (World.setCell _ ⟨w9.heap.size, 0, none⟩ v).cell? _ = _ ∧ Below _ _ (World.setCell _ ⟨w9.heap.size, 0, none⟩ v)
  refine ⟨by simp; omega, ?_, ?_⟩
  · exact World.cell?_setCell_same' _ _ _ (by simp)
  · exact (((Below.refl _ _).alloc (Nat.le_refl _) _).alloc (by simp) _).setCell (Nat.le_refl _) _
theorem beside10_0 (w : World) : Calls Try.prog 29 #[.int .i64 2, .int .i64 1, .int .i64 0] w fun e w' => ∃ B, e = .returned (.slice (some ⟨B, 0, none⟩) 1 4) ∧ w.heap.size ≤ B ∧ B < w'.heap.size ∧ w'.cell? ⟨B, 0, none⟩ = some (.int .i64 1) ∧ Below w.heap.size w w' := by
  have hmk : ∀ w, (Instr.makeSlice 23 (.int .i64 0) (.int .i64 4)).run Try.prog w = .ok (.slice (some ⟨w.heap.size, 0, none⟩) 0 4) (w.alloc (.cells #[.int .i64 0, .int .i64 0, .int .i64 0, .int .i64 0] 3)) := fun _ => by kernel_rfl
  have info_int : (Try.prog.info? 3).map (fun i => (i.zero, i.size, i.bytes)) = some (some (.int .i64 0), 1, 8) := by kernel_rfl
  obtain ⟨i0, hi, hz0, hz1, hz2⟩ := info_parts info_int
  clear info_int
  have hs : ∀ m, (w.drewN m).heap.size = w.heap.size := fun m => by simp
  go_enter Try.func29, Try.ntmps29
  go_wp2
  go_quiet (fail)
  go_wp2_with (at_builtin; go_must (refine wpList_append_arg _ rfl _ _ 23 rfl 3 i0 (.int .i64 0) 1 8 Try.underlying23 hi hz0 hz1 hz2 rfl (by decide) w.heap.size 0 0 4 [] rfl rfl ?c0 ⟨w.heap.size + 1, 0, none⟩ 1 1 [.int .i64 1] rfl rfl ?c1 ?c2 ?c3 (by unfold maxLen; omega) (by omega) ?c4 (fun h => absurd h (by omega))))
  case c0 => intro j u hj; simp at hj
  case c1 =>
    exact app_c1 _ _ (hs _) _ _
  case c2 => intro u hu; simp at hu; subst hu; rfl
  case c3 =>
    exact fun _ => app_c3 _ _ (hs _) _ _
  have hend := app_end (w.drewN nq) w.heap.size (hs _) (.int .i64 1) 3
  refine bodyPost_ret (v := .slice (some ⟨w.heap.size, 0, none⟩) 1 4) (by simp [results, Try.results29, go_sem]) rfl ⟨_, rfl, Nat.le_refl _, hend.1, hend.2.1, ?_⟩
  exact (below_drewN (Below.refl _ _) nq).trans hend.2.2
theorem beside10_1 (w : World) : Calls Try.prog 29 #[.int .i64 2, .int .i64 1, .int .i64 1] w fun e w' => ∃ B, e = .returned (.slice (some ⟨B, 0, none⟩) 1 4) ∧ w.heap.size ≤ B ∧ B < w'.heap.size ∧ w'.cell? ⟨B, 0, none⟩ = some (.int .i64 0) ∧ Below w.heap.size w w' := by
  have hmk : ∀ w, (Instr.makeSlice 23 (.int .i64 0) (.int .i64 4)).run Try.prog w = .ok (.slice (some ⟨w.heap.size, 0, none⟩) 0 4) (w.alloc (.cells #[.int .i64 0, .int .i64 0, .int .i64 0, .int .i64 0] 3)) := fun _ => by kernel_rfl
  have info_int : (Try.prog.info? 3).map (fun i => (i.zero, i.size, i.bytes)) = some (some (.int .i64 0), 1, 8) := by kernel_rfl
  obtain ⟨i0, hi, hz0, hz1, hz2⟩ := info_parts info_int
  clear info_int
  have hs : ∀ m, (w.drewN m).heap.size = w.heap.size := fun m => by simp
  go_enter Try.func29, Try.ntmps29
  go_wp2
  go_quiet (fail)
  go_wp2_with (at_builtin; go_must (refine wpList_append_arg _ rfl _ _ 23 rfl 3 i0 (.int .i64 0) 1 8 Try.underlying23 hi hz0 hz1 hz2 rfl (by decide) w.heap.size 0 0 4 [] rfl rfl ?c0 ⟨w.heap.size + 1, 0, none⟩ 1 1 [.int .i64 0] rfl rfl ?c1 ?c2 ?c3 (by unfold maxLen; omega) (by omega) ?c4 (fun h => absurd h (by omega))))
  case c0 => intro j u hj; simp at hj
  case c1 =>
    exact app_c1 _ _ (hs _) _ _
  case c2 => intro u hu; simp at hu; subst hu; rfl
  case c3 =>
    exact fun _ => app_c3 _ _ (hs _) _ _
  have hend := app_end (w.drewN nq) w.heap.size (hs _) (.int .i64 0) 3
  refine bodyPost_ret (v := .slice (some ⟨w.heap.size, 0, none⟩) 1 4) (by simp [results, Try.results29, go_sem]) rfl ⟨_, rfl, Nat.le_refl _, hend.1, hend.2.1, ?_⟩
  exact (below_drewN (Below.refl _ _) nq).trans hend.2.2
end Go.Proofs.Ytifnmgbeepgfiaa
/- Package sector: filling two tiles. -/
namespace Go.Proofs.Ytifnmgbeepgfiaa
open Go.RowKit
set_option linter.unusedVariables false
theorem fill_mid (w2 : World) (F G O B : Nat) (T : TypeId) (hFG : F < G) (hGO : G < O) (hOB : O < B) (hB : B < w2.heap.size) (F0 : w2.cell? ⟨F, 0, none⟩ = some (.bool true)) (F1 : w2.cell? ⟨F, 1, none⟩ = some (.bool true)) (G0 : w2.cell? ⟨G, 0, none⟩ = some (.int .i64 0)) (G1 : w2.cell? ⟨G, 1, none⟩ = some (.int .i64 (-1))) (O0 : w2.cell? ⟨O, 0, none⟩ = some (.int .i64 0)) :
    (((w2.setCell ⟨G, 1, none⟩ (.int .i64 0)).alloc (.cells #[.int .i64 1] T)).setCells O 0 [.int .i64 1]).cell? ⟨F, 0, none⟩ = some (.bool true) ∧ (((w2.setCell ⟨G, 1, none⟩ (.int .i64 0)).alloc (.cells #[.int .i64 1] T)).setCells O 0 [.int .i64 1]).cell? ⟨F, 1, none⟩ = some (.bool true) ∧ (((w2.setCell ⟨G, 1, none⟩ (.int .i64 0)).alloc (.cells #[.int .i64 1] T)).setCells O 0 [.int .i64 1]).cell? ⟨G, 0, none⟩ = some (.int .i64 0) ∧ (((w2.setCell ⟨G, 1, none⟩ (.int .i64 0)).alloc (.cells #[.int .i64 1] T)).setCells O 0 [.int .i64 1]).cell? ⟨G, 1, none⟩ = some (.int .i64 0) ∧ (((w2.setCell ⟨G, 1, none⟩ (.int .i64 0)).alloc (.cells #[.int .i64 1] T)).setCells O 0 [.int .i64 1]).cell? ⟨O, 0, none⟩ = some (.int .i64 1) ∧ Below G w2 (((w2.setCell ⟨G, 1, none⟩ (.int .i64 0)).alloc (.cells #[.int .i64 1] T)).setCells O 0 [.int .i64 1]) := by
  have hne : ¬ F = G := by omega
  have hne1 : ¬ F = O := by omega
  have hne2 : ¬ G = O := by omega
  have l1 : F < w2.heap.size := by omega
  have l2 : G < w2.heap.size := by omega
  have l3 : O < w2.heap.size := by omega
  have hne' : ¬ G = F := by omega
  have hne1' : ¬ O = F := by omega
  have hne2' : ¬ O = G := by omega
  have m1 : ¬ F = w2.heap.size := by omega
  have m2 : ¬ G = w2.heap.size := by omega
  have m3 : ¬ O = w2.heap.size := by omega
  have hb0 : Below G w2 (w2.setCell ⟨G, 1, none⟩ (.int .i64 0)) := Below.setCell (p := ⟨G, 1, none⟩) (Below.refl G w2) (Nat.le_refl G) _
  have hb1 := hb0.alloc (by simp; omega) (.cells #[.int .i64 1] T)
  have hb2 : Below G w2 (((w2.setCell ⟨G, 1, none⟩ (.int .i64 0)).alloc (.cells #[.int .i64 1] T)).setCells O 0 [.int .i64 1]) := Below.setCell (p := ⟨O, 0, none⟩) hb1 (Nat.le_of_lt hGO) _
  refine ⟨(hb2.cell (p := ⟨F, 0, none⟩) hFG).trans F0, (hb2.cell (p := ⟨F, 1, none⟩) hFG).trans F1, ?_, ?_, ?_, hb2⟩
  · unfold World.setCells World.setCells; go_simp
  · unfold World.setCells World.setCells; go_simp
  · unfold World.setCells World.setCells; go_simp
set_option maxHeartbeats 1600000 in
theorem fill10_1 (F G : Nat) (w : World) (f0 : w.cell? ⟨F, 0, none⟩ = some (.bool true)) (f1 : w.cell? ⟨F, 1, none⟩ = some (.bool true)) (g0 : w.cell? ⟨G, 0, none⟩ = some (.int .i64 0)) (g1 : w.cell? ⟨G, 1, none⟩ = some (.int .i64 0)) :
    Calls Try.prog 25 #[.int .i64 2, .int .i64 1, .slice (some ⟨F, 0, none⟩) 2 2, .slice (some ⟨G, 0, none⟩) 2 2, .int .i64 1] w fun e w' => e = .returned (.tuple #[]) ∧ Below w.heap.size w w' := by
  go_enter Try.func25, Try.ntmps25
  go_wp2
  refine bodyPost_ret (v := .tuple #[]) (by simp [results, Try.results25, go_sem]) rfl ⟨rfl, Below.refl _ _⟩
theorem fill10_0 (F G : Nat) (w : World) (f0 : w.cell? ⟨F, 0, none⟩ = some (.bool true)) (f1 : w.cell? ⟨F, 1, none⟩ = some (.bool true)) (g0 : w.cell? ⟨G, 0, none⟩ = some (.int .i64 (-1))) (g1 : w.cell? ⟨G, 1, none⟩ = some (.int .i64 (-1))) (z0 : w.frozen? ⟨G, 0, none⟩ = false) (z1 : w.frozen? ⟨G, 1, none⟩ = false) (hFG : F < G) :
    Calls Try.prog 25 #[.int .i64 2, .int .i64 1, .slice (some ⟨F, 0, none⟩) 2 2, .slice (some ⟨G, 0, none⟩) 2 2, .int .i64 0] w fun e w' => e = .returned (.tuple #[]) ∧ w'.cell? ⟨G, 0, none⟩ = some (.int .i64 0) ∧ w'.cell? ⟨G, 1, none⟩ = some (.int .i64 0) ∧ Below G w w' := by
  have info_int : (Try.prog.info? 3).map (fun i => (i.zero, i.size, i.bytes)) = some (some (.int .i64 0), 1, 8) := by kernel_rfl
  obtain ⟨i0, hi, hz0, hz1, hz2⟩ := info_parts info_int
  clear info_int
  go_enter Try.func25, Try.ntmps25
  go_wp2_with (fail)
  have hF : F < w.heap.size := World.block_lt_of_cell? _ _ f0
  have hG : G < w.heap.size := World.block_lt_of_cell? _ _ g0
  have hne : ¬ F = G := by omega
  have hne' : ¬ G = F := by omega
  have hGO : ¬ G = w.heap.size := by omega
  have hFO : ¬ F = w.heap.size := by omega
  have HB1 : Below G w ((w.setCell ⟨G, 0, none⟩ (.int .i64 0)).alloc (.cells #[.int .i64 0] 3)) := by
    have hb0 : Below G w (w.setCell ⟨G, 0, none⟩ (.int .i64 0)) := Below.setCell (p := ⟨G, 0, none⟩) (Below.refl G w) (Nat.le_refl G) _
    exact hb0.alloc (by simp; omega) _
  have F0 : ((w.setCell ⟨G, 0, none⟩ (.int .i64 0)).alloc (.cells #[.int .i64 0] 3)).cell? ⟨F, 0, none⟩ = some (.bool true) := (HB1.cell (p := ⟨F, 0, none⟩) hFG).trans f0
  have F1 : ((w.setCell ⟨G, 0, none⟩ (.int .i64 0)).alloc (.cells #[.int .i64 0] 3)).cell? ⟨F, 1, none⟩ = some (.bool true) := (HB1.cell (p := ⟨F, 1, none⟩) hFG).trans f1
  have G0 : ((w.setCell ⟨G, 0, none⟩ (.int .i64 0)).alloc (.cells #[.int .i64 0] 3)).cell? ⟨G, 0, none⟩ = some (.int .i64 0) := by go_simp
  have G1 : ((w.setCell ⟨G, 0, none⟩ (.int .i64 0)).alloc (.cells #[.int .i64 0] 3)).cell? ⟨G, 1, none⟩ = some (.int .i64 (-1)) := by go_simp
  have O0 : ((w.setCell ⟨G, 0, none⟩ (.int .i64 0)).alloc (.cells #[.int .i64 0] 3)).cell? ⟨w.heap.size, 0, none⟩ = some (.int .i64 0) := by go_simp
  have Z1 : ((w.setCell ⟨G, 0, none⟩ (.int .i64 0)).alloc (.cells #[.int .i64 0] 3)).frozen? ⟨G, 1, none⟩ = false := by go_simp
  have ZO : ((w.setCell ⟨G, 0, none⟩ (.int .i64 0)).alloc (.cells #[.int .i64 0] 3)).frozen? ⟨w.heap.size, 0, none⟩ = false := by go_simp
  have hsz : w.heap.size < ((w.setCell ⟨G, 0, none⟩ (.int .i64 0)).alloc (.cells #[.int .i64 0] 3)).heap.size := by simp
  have HH := Hk.mk HB1
  clear HB1 f0 f1 g0 g1 z0 z1
  generalize (w.setCell ⟨G, 0, none⟩ (.int .i64 0)).alloc (.cells #[.int .i64 0] 3) = W1 at *
  generalize w.heap.size = O at *
  have hFW : F < W1.heap.size := by omega
  have hGW : G < W1.heap.size := by omega
  refine wp_loop_rounds 3 ?_
  rw [rounds_succ]
  go_wp2_with (go_at_call 29; (with_reducible refine (beside10_0 _).mono ?_); rintro e w2 ⟨B, rfl, hB1, hB2, B0, hb2⟩; have F0 := (hb2.cell (p := ⟨F, 0, none⟩) hFW).trans F0; have F1 := (hb2.cell (p := ⟨F, 1, none⟩) hFW).trans F1; have G0 := (hb2.cell (p := ⟨G, 0, none⟩) hGW).trans G0; have G1 := (hb2.cell (p := ⟨G, 1, none⟩) hGW).trans G1; have O0 := (hb2.cell (p := ⟨O, 0, none⟩) hsz).trans O0; have Z1 := (hb2.frozen (p := ⟨G, 1, none⟩) hGW).trans Z1; have ZO := (hb2.frozen (p := ⟨O, 0, none⟩) hsz).trans ZO)
  refine wp_loop_rounds 2 ?_
  rw [rounds_succ]
  go_wp2_with (at_builtin; go_must (refine wpList_append_arg _ rfl _ _ 23 rfl 3 i0 (.int .i64 0) 1 8 Try.underlying23 hi hz0 hz1 hz2 rfl (by decide) O 0 0 1 [] rfl rfl ?_ ⟨w2.heap.size, 0, none⟩ 1 1 [.int .i64 1] rfl rfl ?_ ?_ ?_ (by unfold maxLen; omega) (by omega) ?_ (fun h => absurd h (by omega))))
  · intro j u hj; simp at hj
  · have hs2 : (w2.setCell ⟨G, 1, none⟩ (.int .i64 0)).heap.size = w2.heap.size := by simp
    have h1 := one_new (w2.setCell ⟨G, 1, none⟩ (.int .i64 0)) (.int .i64 1) 3
    rw [hs2] at h1
    exact h1
  · intro u hu; simp at hu; subst hu; rfl
  · intro _ j hj
    obtain rfl : j = 0 := by simp at hj; omega
    have l3 : O < w2.heap.size := by omega
    have m3 : ¬ O = w2.heap.size := by omega
    have m4 : ¬ O = G := by omega
    have m5 : ¬ G = O := by omega
    exact ⟨by go_simp, by go_simp⟩
  obtain ⟨X0, X1, Y0, Y1, P0, hb4⟩ := fill_mid w2 F G O B 3 hFG (by omega) (by omega) hB2 F0 F1 G0 G1 O0
  have HH4 := Hk.mk ((HH.out.trans (hb2.mono (by omega))).trans hb4)
  clear hb4 F0 F1 G0 G1 O0 B0 hb2 Z1 ZO
  generalize (((w2.setCell ⟨G, 1, none⟩ (.int .i64 0)).alloc (.cells #[.int .i64 1] 3)).setCells O 0 [.int .i64 1]) = W4 at *
  have hFW4 : F < W4.heap.size := World.block_lt_of_cell? _ _ X0
  have hGW4 : G < W4.heap.size := World.block_lt_of_cell? _ _ Y0
  have hOW4 : O < W4.heap.size := World.block_lt_of_cell? _ _ P0
  rw [rounds_succ]
  go_wp2
  rw [rounds_succ]
  go_wp2_with (go_at_call 29; (with_reducible refine (beside10_1 _).mono ?_); rintro e w5 ⟨C, rfl, hC1, hC2, C0, hb5⟩; have X0 := (hb5.cell (p := ⟨F, 0, none⟩) hFW4).trans X0; have X1 := (hb5.cell (p := ⟨F, 1, none⟩) hFW4).trans X1; have Y0 := (hb5.cell (p := ⟨G, 0, none⟩) hGW4).trans Y0; have Y1 := (hb5.cell (p := ⟨G, 1, none⟩) hGW4).trans Y1; have P0 := (hb5.cell (p := ⟨O, 0, none⟩) hOW4).trans P0)
  refine wp_loop_rounds 2 ?_
  rw [rounds_succ]
  go_wp2
  rw [rounds_succ]
  go_wp2
  rw [rounds_succ]
  go_wp2
  go_end0
  exact ⟨rfl, Y0, Y1, HH4.out.trans (hb5.mono (by omega))⟩
end Go.Proofs.Ytifnmgbeepgfiaa
/- Package sector: the parts of two tiles. -/
namespace Go.Proofs.Ytifnmgbeepgfiaa
open Go.RowKit
set_option linter.unusedVariables false
set_option maxHeartbeats 1600000 in
theorem parts10 (F : Nat) (w : World) (f0 : w.cell? ⟨F, 0, none⟩ = some (.bool true)) (f1 : w.cell? ⟨F, 1, none⟩ = some (.bool true)) :
    Calls Try.prog 10 #[.int .i64 2, .int .i64 1, .slice (some ⟨F, 0, none⟩) 2 2] w fun e w' => ∃ G, e = .returned (.tuple #[.slice (some ⟨G, 0, none⟩) 2 2, .int .i64 0]) ∧ w'.cell? ⟨G, 0, none⟩ = some (.int .i64 0) ∧ w'.cell? ⟨G, 1, none⟩ = some (.int .i64 0) ∧ Below w.heap.size w w' := by
  have ES : Hk (Fx.szB 2 1 = true) := ⟨by decide⟩
  have hmk : ∀ w, (Instr.makeSlice 23 (.int .i64 2) (.int .i64 2)).run Try.prog w = .ok (.slice (some ⟨w.heap.size, 0, none⟩) 2 2) (w.alloc (.cells #[.int .i64 0, .int .i64 0] 3)) := fun _ => by kernel_rfl
  have hF : F < w.heap.size := World.block_lt_of_cell? _ _ f0
  have HF0 : Hk (∀ X, Below w.heap.size w X → X.cell? ⟨F, 0, none⟩ = some (.bool true) ∧ X.cell? ⟨F, 1, none⟩ = some (.bool true)) := ⟨fun X hX => ⟨(hX.cell (p := ⟨F, 0, none⟩) hF).trans f0, (hX.cell (p := ⟨F, 1, none⟩) hF).trans f1⟩⟩
  go_enter Try.func10, Try.ntmps10
  go_wp2_with (go_at_call 24; (with_reducible refine (sized_as true 2 1 _ ES).mono ?_); rintro e w1 ⟨rfl, hb1⟩)
  refine wp_loop_rounds 3 ?_
  rw [rounds_succ]
  go_wp2
  rw [rounds_succ]
  go_wp2
  rw [rounds_succ]
  go_wp2
  have hbw : Below w.heap.size w (w1.alloc (.cells #[.int .i64 (-1), .int .i64 (-1)] 3)) := hb1.alloc hb1.size _
  have g0 : (w1.alloc (.cells #[.int .i64 (-1), .int .i64 (-1)] 3)).cell? ⟨w1.heap.size, 0, none⟩ = some (.int .i64 (-1)) := by go_simp
  have g1 : (w1.alloc (.cells #[.int .i64 (-1), .int .i64 (-1)] 3)).cell? ⟨w1.heap.size, 1, none⟩ = some (.int .i64 (-1)) := by go_simp
  have z0 : (w1.alloc (.cells #[.int .i64 (-1), .int .i64 (-1)] 3)).frozen? ⟨w1.heap.size, 0, none⟩ = false := by go_simp
  have z1 : (w1.alloc (.cells #[.int .i64 (-1), .int .i64 (-1)] 3)).frozen? ⟨w1.heap.size, 1, none⟩ = false := by go_simp
  obtain ⟨k0, k1⟩ := HF0.out _ hbw
  have hs1 := hb1.size
  have hs2 := hbw.size
  clear hb1
  generalize (w1.alloc (.cells #[.int .i64 (-1), .int .i64 (-1)] 3)) = W2 at *
  generalize w1.heap.size = G at *
  have hGW : G < W2.heap.size := World.block_lt_of_cell? _ _ g0
  refine wp_loop_rounds 3 ?_
  rw [rounds_succ]
  go_wp2_with (go_at_call 25; (with_reducible refine (fill10_0 F G _ k0 k1 g0 g1 z0 z1 ?_).mono ?_); (omega); rintro e w3 ⟨rfl, g0', g1', hb3⟩; have HB3 := Hk.mk (hbw.trans (hb3.mono (by omega))); clear hb3 g0 g1 z0 z1 k0 k1)
  obtain ⟨k0, k1⟩ := HF0.out _ HB3.out
  have hs3 := HB3.out.size
  rw [rounds_succ]
  go_wp2_with (go_at_call 25; (with_reducible refine (fill10_1 F G _ k0 k1 g0' g1').mono ?_); rintro e w4 ⟨rfl, hb4⟩; have hG4 : G < w3.heap.size := World.block_lt_of_cell? _ _ g0'; have m0 := (hb4.cell (p := ⟨G, 0, none⟩) hG4).trans g0'; have m1 := (hb4.cell (p := ⟨G, 1, none⟩) hG4).trans g1')
  rw [rounds_succ]
  go_wp2
  refine bodyPost_ret (v := .tuple #[.slice (some ⟨G, 0, none⟩) 2 2, .int .i64 0]) (by simp [results, Try.results10, go_sem]) rfl ⟨G, rfl, m0, m1, HB3.out.trans (hb4.mono (by omega))⟩
end Go.Proofs.Ytifnmgbeepgfiaa
/- Slices of ways: what it means that one reads as two rows of numbers. -/
namespace Go.Proofs.Ytifnmgbeepgfiaa
open Go.ChangeShapes Go.WideShapes Go.ChangeAt Go.RowKit Go.Deep
set_option linter.unusedVariables false
/-- The slice's n elements are the ways (f k, g k). -/
structure Vs (w : World) (B : Nat) (a : Option Addr) (n : Nat) (f g : Nat → Int) : Prop where
  num : ∀ k, k < n → Fx.I64 (f k) ∧ Fx.I64 (g k)
  rd : 0 < n → ∃ b off, a = some ⟨b, off, none⟩ ∧ b < B ∧ ∀ k, k < n → w.cell? ⟨b, off + k * 2, none⟩ = some (.int .i64 (f k)) ∧ w.cell? ⟨b, off + k * 2 + 1, none⟩ = some (.int .i64 (g k))
theorem Vs.nil (w : World) (B : Nat) (a : Option Addr) (f g : Nat → Int) : Vs w B a 0 f g := ⟨fun k h => absurd h (by omega), fun h => absurd h (by omega)⟩
theorem Vs.below {w w' : World} {B B' n : Nat} {a : Option Addr} {f g : Nat → Int} (h : Vs w B a n f g) (hb : Below B' w w') (hB : B ≤ B') : Vs w' B a n f g := ⟨h.num, fun hn => by
  obtain ⟨b, off, e, hlt, hc⟩ := h.rd hn
  exact ⟨b, off, e, hlt, fun k hk => ⟨(hb.cell (p := ⟨b, off + k * 2, none⟩) (Nat.lt_of_lt_of_le hlt hB)).trans (hc k hk).1, (hb.cell (p := ⟨b, off + k * 2 + 1, none⟩) (Nat.lt_of_lt_of_le hlt hB)).trans (hc k hk).2⟩⟩⟩
theorem Vs.mono {w : World} {B B' n : Nat} {a : Option Addr} {f g : Nat → Int} (h : Vs w B a n f g) (hB : B ≤ B') : Vs w B' a n f g := ⟨h.num, fun hn => by
  obtain ⟨b, off, e, hlt, hc⟩ := h.rd hn
  exact ⟨b, off, e, by omega, hc⟩⟩
end Go.Proofs.Ytifnmgbeepgfiaa
/- Slices of numbers: what is known of them. -/
namespace Go.Proofs.Ytifnmgbeepgfiaa
open Go.ChangeShapes Go.WideShapes Go.ChangeAt Go.RowKit Go.Deep
set_option linter.unusedVariables false
/-- The slice reads as these numbers. -/
structure Nq (w : World) (B : Nat) (a : Option Addr) (n : Nat) (xs : List Int) : Prop where
  len : xs.length = n
  rd : 0 < n → ∃ b off, a = some ⟨b, off, none⟩ ∧ b < B ∧ ∀ k, k < n → w.cell? ⟨b, off + k, none⟩ = some (.int .i64 (xs.getD k 0))
theorem Nq.below {w w' : World} {B B' n : Nat} {a : Option Addr} {xs : List Int} (h : Nq w B a n xs) (hb : Below B' w w') (hB : B ≤ B') : Nq w' B a n xs := ⟨h.len, fun hn => by
  obtain ⟨b, off, e, hlt, hc⟩ := h.rd hn
  exact ⟨b, off, e, hlt, fun k hk => (hb.cell (p := ⟨b, off + k, none⟩) (Nat.lt_of_lt_of_le hlt hB)).trans (hc k hk)⟩⟩
theorem Nq.mono {w : World} {B B' n : Nat} {a : Option Addr} {xs : List Int} (h : Nq w B a n xs) (hB : B ≤ B') : Nq w B' a n xs := ⟨h.len, fun hn => by
  obtain ⟨b, off, e, hlt, hc⟩ := h.rd hn
  exact ⟨b, off, e, by omega, hc⟩⟩
theorem Nq.drewN {w : World} {B n : Nat} {a : Option Addr} {xs : List Int} (h : Nq w B a n xs) (m : Nat) : Nq (w.drewN m) B a n xs := ⟨h.len, h.rd⟩
theorem Nq.nil (w : World) (B : Nat) (a : Option Addr) : Nq w B a 0 [] := ⟨rfl, fun h => absurd h (by omega)⟩
theorem aq_plus {b off : Nat} (j : Nat) : (⟨b, off, none⟩ : Addr).add j = ⟨b, off + j, none⟩ := by
  unfold Addr.add; split <;> simp_all
theorem nq_of {H : Type} {enc : TypeId × Value → H} {w : World} {base : Nat} {spare : Nat → Bool} {held : Bool} {fuel : Nat} {x : DataW H × List MemPlace} {v : Value}
    (hf : DataW.trod enc Try.prog w base spare held fuel 23 [v] = some x) : ∃ a0 len0 cap0 xs, v = .slice a0 len0 cap0 ∧ len0 ≤ 9223372036854775807 ∧ Nq w w.heap.size a0 len0 xs := by
  rcases open_ints Try.underlying23 Try.underlying3 (by kernel_rfl) hf with ⟨hcs, _⟩ | ⟨a, l, c, zs, hcs, _, hl, hm, hz, _, hc, hwf⟩
  · simp at hcs; subst hcs
    exact ⟨none, 0, 0, [], rfl, by omega, rfl, fun h => absurd h (by omega)⟩
  · simp at hcs; subst hcs
    have hzl : l ≤ zs.length := by rw [hz]; split <;> omega
    refine ⟨_, _, _, zs.take l, rfl, by unfold maxLen at hm; omega, by simp; omega, fun hn => ?_⟩
    obtain ⟨b, off, spot⟩ := a
    have hs : spot = none := by
      have h0 := World.cell?_spot (hc 0 (by omega))
      simpa [Addr.add] using h0
    subst hs
    refine ⟨b, off, rfl, ?_, fun k hk => ?_⟩
    · have := hc 0 (by omega); rw [aq_plus] at this; exact World.block_lt_of_cell? _ _ this
    · have := hc k (by omega)
      rw [aq_plus] at this
      rw [this]
      simp [List.getD, hk]
end Go.Proofs.Ytifnmgbeepgfiaa
