/- Package sector: the tiles beside each of two. -/
import Derived.Test.YtkggejdbkllaaaaScb
import Derived.ArgAppend
namespace Go.Proofs.Ytkggejdbkllaaaa
open Go.RowKit
set_option linter.unusedVariables false
theorem app_c1 (w9 : World) (s : Nat) (hs : w9.heap.size = s) (v : Value) (T : TypeId) : ∀ (j : Nat) (u : Value), [v][j]? = some u → ((w9.alloc (.cells #[.int .i64 0, .int .i64 0, .int .i64 0, .int .i64 0] T)).alloc (.cells #[v] T)).cell? ((⟨s + 1, 0, none⟩ : Addr).add j) = some u := by
  subst hs
  intro j u hj
  match j, hj with
  | 0, hj => simp at hj; subst hj; simp [Addr.add]
theorem app_c3 (w9 : World) (s : Nat) (hs : w9.heap.size = s) (v : Value) (T : TypeId) : ∀ j, j < [v].length → (((w9.alloc (.cells #[.int .i64 0, .int .i64 0, .int .i64 0, .int .i64 0] T)).alloc (.cells #[v] T)).cell? ⟨s, 0 + 0 * 1 + j, none⟩).isSome = true ∧ ((w9.alloc (.cells #[.int .i64 0, .int .i64 0, .int .i64 0, .int .i64 0] T)).alloc (.cells #[v] T)).frozen? ⟨s, 0 + 0 * 1 + j, none⟩ = false := by
  subst hs
  intro j hj
  obtain rfl : j = 0 := by simp at hj; omega
  exact ⟨by simp, by simp⟩
theorem app_end (w9 : World) (s : Nat) (hs : w9.heap.size = s) (v : Value) (T : TypeId) : s < (((w9.alloc (.cells #[.int .i64 0, .int .i64 0, .int .i64 0, .int .i64 0] T)).alloc (.cells #[v] T)).setCells s 0 [v]).heap.size ∧ (((w9.alloc (.cells #[.int .i64 0, .int .i64 0, .int .i64 0, .int .i64 0] T)).alloc (.cells #[v] T)).setCells s 0 [v]).cell? ⟨s, 0, none⟩ = some v ∧ Below s w9 (((w9.alloc (.cells #[.int .i64 0, .int .i64 0, .int .i64 0, .int .i64 0] T)).alloc (.cells #[v] T)).setCells s 0 [v]) := by
  subst hs
  show _ < (World.setCell _ ⟨w9.heap.size, 0, none⟩ v).heap.size ∧ (World.setCell _ ⟨w9.heap.size, 0, none⟩ v).cell? _ = _ ∧ Below _ _ (World.setCell _ ⟨w9.heap.size, 0, none⟩ v)
  refine ⟨by simp; omega, ?_, ?_⟩
  · exact World.cell?_setCell_same' _ _ _ (by simp)
  · exact (((Below.refl _ _).alloc (Nat.le_refl _) _).alloc (by simp) _).setCell (Nat.le_refl _) _
theorem beside10_0 (w : World) : Calls Try.prog 54 #[.int .i64 2, .int .i64 1, .int .i64 0] w fun e w' => ∃ B, e = .returned (.slice (some ⟨B, 0, none⟩) 1 4) ∧ w.heap.size ≤ B ∧ B < w'.heap.size ∧ w'.cell? ⟨B, 0, none⟩ = some (.int .i64 1) ∧ Below w.heap.size w w' := by
  have hmk : ∀ w, (Instr.makeSlice 23 (.int .i64 0) (.int .i64 4)).run Try.prog w = .ok (.slice (some ⟨w.heap.size, 0, none⟩) 0 4) (w.alloc (.cells #[.int .i64 0, .int .i64 0, .int .i64 0, .int .i64 0] 3)) := fun _ => by kernel_rfl
  have info_int : (Try.prog.info? 3).map (fun i => (i.zero, i.size, i.bytes)) = some (some (.int .i64 0), 1, 8) := by kernel_rfl
  obtain ⟨i0, hi, hz0, hz1, hz2⟩ := info_parts info_int
  clear info_int
  have hs : ∀ m, (w.drewN m).heap.size = w.heap.size := fun m => by simp
  go_enter Try.func54, Try.ntmps54
  go_wp2
  go_quiet (fail)
  go_wp2_with (at_builtin; go_must (refine wpList_append_arg _ rfl _ _ 23 rfl 3 i0 (.int .i64 0) 1 8 Try.underlying23 hi hz0 hz1 hz2 rfl (by decide) w.heap.size 0 0 4 [] rfl rfl ?c0 ⟨w.heap.size + 1, 0, none⟩ 1 1 [.int .i64 1] rfl rfl ?c1 ?c2 ?c3 (by unfold maxLen; omega) (by omega) ?c4 (fun h => absurd h (by omega))))
  case c0 => intro j u hj; simp at hj
  case c1 =>
    exact app_c1 _ _ (hs _) _ _
  case c2 => intro u hu; simp at hu; subst hu; rfl
  case c3 =>
    exact fun _ => app_c3 _ _ (hs _) _ _
  have hend := app_end (w.drewN nq) w.heap.size (hs _) (.int .i64 1) 3
  refine bodyPost_ret (v := .slice (some ⟨w.heap.size, 0, none⟩) 1 4) (by simp [results, Try.results54, go_sem]) rfl ⟨_, rfl, Nat.le_refl _, hend.1, hend.2.1, ?_⟩
  exact (below_drewN (Below.refl _ _) nq).trans hend.2.2
theorem beside10_1 (w : World) : Calls Try.prog 54 #[.int .i64 2, .int .i64 1, .int .i64 1] w fun e w' => ∃ B, e = .returned (.slice (some ⟨B, 0, none⟩) 1 4) ∧ w.heap.size ≤ B ∧ B < w'.heap.size ∧ w'.cell? ⟨B, 0, none⟩ = some (.int .i64 0) ∧ Below w.heap.size w w' := by
  have hmk : ∀ w, (Instr.makeSlice 23 (.int .i64 0) (.int .i64 4)).run Try.prog w = .ok (.slice (some ⟨w.heap.size, 0, none⟩) 0 4) (w.alloc (.cells #[.int .i64 0, .int .i64 0, .int .i64 0, .int .i64 0] 3)) := fun _ => by kernel_rfl
  have info_int : (Try.prog.info? 3).map (fun i => (i.zero, i.size, i.bytes)) = some (some (.int .i64 0), 1, 8) := by kernel_rfl
  obtain ⟨i0, hi, hz0, hz1, hz2⟩ := info_parts info_int
  clear info_int
  have hs : ∀ m, (w.drewN m).heap.size = w.heap.size := fun m => by simp
  go_enter Try.func54, Try.ntmps54
  go_wp2
  go_quiet (fail)
  go_wp2_with (at_builtin; go_must (refine wpList_append_arg _ rfl _ _ 23 rfl 3 i0 (.int .i64 0) 1 8 Try.underlying23 hi hz0 hz1 hz2 rfl (by decide) w.heap.size 0 0 4 [] rfl rfl ?c0 ⟨w.heap.size + 1, 0, none⟩ 1 1 [.int .i64 0] rfl rfl ?c1 ?c2 ?c3 (by unfold maxLen; omega) (by omega) ?c4 (fun h => absurd h (by omega))))
  case c0 => intro j u hj; simp at hj
  case c1 =>
    exact app_c1 _ _ (hs _) _ _
  case c2 => intro u hu; simp at hu; subst hu; rfl
  case c3 =>
    exact fun _ => app_c3 _ _ (hs _) _ _
  have hend := app_end (w.drewN nq) w.heap.size (hs _) (.int .i64 0) 3
  refine bodyPost_ret (v := .slice (some ⟨w.heap.size, 0, none⟩) 1 4) (by simp [results, Try.results54, go_sem]) rfl ⟨_, rfl, Nat.le_refl _, hend.1, hend.2.1, ?_⟩
  exact (below_drewN (Below.refl _ _) nq).trans hend.2.2
end Go.Proofs.Ytkggejdbkllaaaa
