/- For every list, VecClamps answers true and leaves its argument as it was: what any way is, made not longer than any number, is the page's. No condition. -/
import Derived.Test.YtdammgpflfoppabVecm
import Derived.Deep.QuietTactic
import Derived.BigQuiet
import Derived.Deep.RegionWith
import Derived.Deep.RegionHeld3
namespace Go.Proofs.Ytdammgpflfoppab
open Go.ChangeShapes Go.WideShapes Go.ChangeAt Go.RowKit Go.Deep
set_option linter.unusedVariables false
set_option maxRecDepth 100000 in
set_option maxHeartbeats 800000 in
theorem vecClamps_walk (a : Option Addr) (len cap : Nat) (w : World) (rows : Asks2 w a len cap) :
    Calls Try.prog 3 #[.slice a len cap] w fun e w' => e = .returned (.bool true) ∧ Below w.heap.size w w' := by
  obtain ⟨hl, hm, hall⟩ := rows
  have HALL := Fx.Hd.mk hall
  clear hall
  go_enter Try.func3, Try.ntmps3
  go_wp2
  go_loopw [3] (fun i  wr => ∃ (k : Nat), i = .int .i64 k ∧ k ≤ len ∧ k ≤ 30 ∧ Fx.Hd (Below w.heap.size w wr)) (fun i  _ => 30 - (intOf i).toNat)
  case atStart => exact ⟨0, rfl, by omega, by omega, ⟨Below.refl _ _⟩⟩
  case round =>
    obtain ⟨k, rfl, hk, hk2, HB⟩ := hrel
    by_cases hlt : k < len ∧ k < 30
    · obtain ⟨g1, g2⟩ := hlt
      obtain ⟨b, off, x, y, u, v, z, rfl, hbl, hx, hy, hu, hv, hz, c0, c1, c2, c3, c4⟩ := HALL.out k g1
      have d0 := (HB.out.cell (p := ⟨b, off + k * 5, none⟩) hbl).trans c0
      have d1 := (HB.out.cell (p := ⟨b, off + k * 5 + 1, none⟩) hbl).trans c1
      have d2 := (HB.out.cell (p := ⟨b, off + k * 5 + 2, none⟩) hbl).trans c2
      have d3 := (HB.out.cell (p := ⟨b, off + k * 5 + 3, none⟩) hbl).trans c3
      have d4 := (HB.out.cell (p := ⟨b, off + k * 5 + 4, none⟩) hbl).trans c4
      have hbw : b < wr.heap.size := Nat.lt_of_lt_of_le hbl HB.out.size
      clear c0 c1 c2 c3 c4
      have eb : Below w.heap.size w wr := HB.out
      go_wp2
      go_region_held3 (fun w' => w'.cell? ⟨b, off + k * 5, none⟩ = some (.int .i64 x) ∧ w'.cell? ⟨b, off + k * 5 + 1, none⟩ = some (.int .i64 y) ∧ w'.cell? ⟨b, off + k * 5 + 4, none⟩ = some (.int .i64 z) ∧ Below w.heap.size w w') (first | exact ⟨e0, e1, e2, eb⟩ | exact ⟨d0, d1, d4, Below.drew eb⟩ | go_keep)
        (first | (go_at_call 15; go_must (refine (held3c (x := .int .i64 x) (y := .int .i64 y) (z := .int .i64 z) (b := b) (o1 := off + k * 5) (o2 := off + k * 5 + 1) (o3 := off + k * 5 + 4) (clamp_any x y z _ hx hy hz) ?_ hbl ?_ ?_ ?_).mono ?_); (first | assumption | exact eb.drew); (first | assumption | exact d0); (first | assumption | exact d1); (first | assumption | exact d4); rintro e w' ⟨rfl, e0, e1, e2, eb⟩) | (go_at_call 16; go_must (refine (held3c (x := .int .i64 x) (y := .int .i64 y) (z := .int .i64 z) (b := b) (o1 := off + k * 5) (o2 := off + k * 5 + 1) (o3 := off + k * 5 + 4) (rclamp_any x y z _ hx hy hz) ?_ hbl ?_ ?_ ?_).mono ?_); (first | assumption | exact eb.drew); (first | assumption | exact d0); (first | assumption | exact d1); (first | assumption | exact d4); rintro e w' ⟨rfl, e0, e1, e2, eb⟩))
      go_wp2
      replace HB := Fx.Hd.mk eb
      refine ⟨⟨k + 1, by go_num, by omega, by omega, HB⟩, by simp [intOf]; omega⟩

    · go_wp2_with (go_at_call 17; (with_reducible refine (up (wakes2_any _) HB).mono ?_); clear HB; rintro e w' ⟨rfl, HB⟩)
      all_goals
        go_ret
        exact ⟨rfl, HB.out⟩

theorem vecClamps_own : ownKnob Try.prog.godebug = none := by kernel_rfl
theorem vecClamps_laidOut : laidOutB Try.prog = true := by kernel_rfl
set_option maxRecDepth 100000 in
theorem vecClamps_lifted (os : Os) (started : os.Started) (H : Type) (enc : TypeId × Value → H) :
    ReturnsInHanded {} Try.checked os 3 .any (Rows.vecClampsSpec.pre6 enc Try.prog Try.f3 Rows.vecClampsRow.domain false) (Rows.vecClampsSpec.post enc Try.prog Try.f3 false true false false) := by
  refine returnsInHanded_of_change (C := Try.checked) vecClamps_own started (by kernel_rfl) Try.func3
    (ChangeSpec.witness6 (enc := enc) (C := Try.checked) false ⟨#[], #[.slice none 0 0], []⟩ 8 (by kernel_rfl) (by kernel_rfl) (by kernel_rfl) (by kernel_rfl)) ?_
  intro W base args ds gs before hval0 hW hcnd _
  have hval : ∀ (j : Nat) t v, Try.f3.params[j]? = some t → args[j]? = some v → Value.okWide Try.prog W .any base t v := hval0
  have hW' := hW
  obtain ⟨p, q, hA0, hV, rfl, hfz, hnd⟩ := hW
  have hA : DataW.TrodAll enc Try.prog W 0 (fun _ => true) true Try.f3.params.toList args.toList ds p := hA0
  rw [Try.params3] at hA hval
  obtain ⟨v0, vs0, d0, ds0, p0, q0, hargs, rfl, rfl, h0, r0⟩ := trodAll_cons hA
  obtain ⟨rfl, rfl, rfl⟩ := trodAll_nil r0
  obtain rfl : args = #[v0] := by cases args; simp_all
  obtain ⟨rfl, rfl⟩ := trodVars_none hV
  obtain ⟨a0, len0, cap0, rfl⟩ := okWide_slice Try.underlying22 (hval 0 22 v0 rfl rfl)
  have k0 := h0
  have lt0 : ∀ x ∈ p0, x.block < W.heap.size := by obtain ⟨m, hm⟩ := k0; exact DataW.trod_lt m _ _ _ hm
  have rows : Asks2 W a0 len0 cap0 := by obtain ⟨fuel, hf⟩ := h0; exact asks2_of hf
  clear hA0 hval0
  refine (vecClamps_walk a0 len0 cap0 W rows).mono fun e W' ⟨he, bel⟩ => ?_
  subst he
  exact ⟨_, rfl, _, _, _, [], _, [], hW', trodAll_mk1 (shut_bool Try.underlying4 _), (trodAll_cons_mk (Below.trod vecClamps_laidOut (by kernel_rfl) (of_decide_eq_true (by kernel_rfl)) k0 bel lt0) trodAll_mk0), rfl, bel.frame _, fun h => by cases h⟩
theorem vecClamps_over : Rows.vecClampsRow.holds Try.pinned (OpenSpec.ofChange Rows.vecClampsSpec) :=
  OpenClaim.holds_of_wide 3 Try.f3 rfl rfl rfl rfl rfl rfl rfl ⟨rfl, rfl, rfl, rfl, rfl⟩ rfl rfl rfl rfl rfl (by kernel_rfl) Try.func3 (by kernel_rfl)
    (of_decide_eq_true (by kernel_rfl)) (by unfold Func.isWrapper; first | (rw [if_pos (by decide +kernel)]; kernel_rfl) | (rw [if_neg (by decide +kernel)]; exact ⟨rfl, rfl⟩))
    (fun os started H enc _ => vecClamps_lifted os started H enc)
/-- The given statement of VecClamps. -/
theorem vecClamps_holds : Rows.VecClampsSaid := vecClamps_over
end Go.Proofs.Ytdammgpflfoppab
