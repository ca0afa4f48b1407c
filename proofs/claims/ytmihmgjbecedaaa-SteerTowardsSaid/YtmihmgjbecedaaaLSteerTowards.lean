/- For every list, SteerTowards answers true and leaves its argument as it was: the step from any place to any other one is the page's. No condition. -/
import Derived.Test.YtmihmgjbecedaaaAsk19
import Derived.Test.YtmihmgjbecedaaaSta
import Derived.Deep.QuietTactic
import Derived.BigQuiet
import Derived.Deep.RegionWith
import Derived.Deep.RegionHeld3
namespace Go.Proofs.Ytmihmgjbecedaaa
open Go.ChangeShapes Go.WideShapes Go.ChangeAt Go.RowKit Go.Deep
set_option linter.unusedVariables false
set_option maxRecDepth 100000 in
set_option maxHeartbeats 1600000 in
theorem steerTowards_walk (a : Option Addr) (len cap : Nat) (w : World) (rows : Asks19 w a len cap) :
    Calls Try.prog 3 #[.slice a len cap] w fun e w' => e = .returned (.bool true) ∧ Below w.heap.size w w' := by
  obtain ⟨hl, hm, hall⟩ := rows
  have HALL := Fx.Hd.mk hall
  clear hall
  go_enter Try.func3, Try.ntmps3
  go_wp2
  go_loopw [3] (fun i wr => ∃ (k : Nat), i = .int .i64 k ∧ k ≤ len ∧ k ≤ 20 ∧ Fx.Hd (Below w.heap.size w wr)) (fun i _ => 20 - (intOf i).toNat)
  case atStart => exact ⟨0, rfl, by omega, by omega, ⟨Below.refl _ _⟩⟩
  case round =>
    obtain ⟨k, rfl, hk, hk2, HB⟩ := hrel
    by_cases hlt : k < len ∧ k < 20
    · obtain ⟨g1, g2⟩ := hlt
      obtain ⟨b, off, x, y, u, v, z, ab, nb, cb, f, g, rfl, hbl, hx, hy, hu, hv, hz, hnb, hcb, hvs, c0, c1, c2, c3, c4, c5⟩ := HALL.out k g1
      have d0 := (HB.out.cell (p := ⟨b, off + k * 6, none⟩) hbl).trans c0
      have d1 := (HB.out.cell (p := ⟨b, off + k * 6 + 1, none⟩) hbl).trans c1
      have d2 := (HB.out.cell (p := ⟨b, off + k * 6 + 2, none⟩) hbl).trans c2
      have d3 := (HB.out.cell (p := ⟨b, off + k * 6 + 3, none⟩) hbl).trans c3
      have d4 := (HB.out.cell (p := ⟨b, off + k * 6 + 4, none⟩) hbl).trans c4
      have d5 := (HB.out.cell (p := ⟨b, off + k * 6 + 5, none⟩) hbl).trans c5
      have hbw : b < wr.heap.size := Nat.lt_of_lt_of_le hbl HB.out.size
      have HVS := Fx.Hd.mk hvs
      clear c0 c1 c2 c3 c4 c5 hvs
      have eb : Below w.heap.size w wr := HB.out
      go_wp2
      go_region_held3 (fun w' => w'.cell? ⟨b, off + k * 6, none⟩ = some (.int .i64 x) ∧ w'.cell? ⟨b, off + k * 6 + 1, none⟩ = some (.int .i64 y) ∧ w'.cell? ⟨b, off + k * 6 + 2, none⟩ = some (.int .i64 u) ∧ w'.cell? ⟨b, off + k * 6 + 3, none⟩ = some (.int .i64 v) ∧ w'.cell? ⟨b, off + k * 6 + 4, none⟩ = some (.int .i64 z) ∧ Below w.heap.size w w') (first | exact ⟨e0, e1, e2, e3, e4, eb⟩ | exact ⟨d0, d1, d2, d3, d4, Below.drew eb⟩ | go_keep)
        (first | (go_at_call 8; go_must (refine (held5c (x1 := .int .i64 x) (o1 := off + k * 6) (x2 := .int .i64 y) (o2 := off + k * 6 + 1) (x3 := .int .i64 u) (o3 := off + k * 6 + 2) (x4 := .int .i64 v) (o4 := off + k * 6 + 3) (x5 := .int .i64 z) (o5 := off + k * 6 + 4) (b := b) (toward_any x y u v z _ hx hy hu hv hz) ?_ hbl ?_ ?_ ?_ ?_ ?_ ).mono ?_); (first | assumption | exact eb.drew); (first | assumption | exact d0); (first | assumption | exact d1); (first | assumption | exact d2); (first | assumption | exact d3); (first | assumption | exact d4); rintro e w' ⟨rfl, e0, e1, e2, e3, e4, eb⟩) | (go_at_call 9; go_must (refine (held5c (x1 := .int .i64 x) (o1 := off + k * 6) (x2 := .int .i64 y) (o2 := off + k * 6 + 1) (x3 := .int .i64 u) (o3 := off + k * 6 + 2) (x4 := .int .i64 v) (o4 := off + k * 6 + 3) (x5 := .int .i64 z) (o5 := off + k * 6 + 4) (b := b) (rtoward_any x y u v z _ hx hy hu hv hz) ?_ hbl ?_ ?_ ?_ ?_ ?_ ).mono ?_); (first | assumption | exact eb.drew); (first | assumption | exact d0); (first | assumption | exact d1); (first | assumption | exact d2); (first | assumption | exact d3); (first | assumption | exact d4); rintro e w' ⟨rfl, e0, e1, e2, e3, e4, eb⟩))
      go_wp2
      replace HB := Fx.Hd.mk eb
      refine ⟨⟨k + 1, by go_num, by omega, by omega, HB⟩, by simp [intOf]; omega⟩

    · go_wp2_with (go_at_call 10; (with_reducible refine (up (wakes19_any _) HB).mono ?_); clear HB; rintro e w' ⟨rfl, HB⟩)
      all_goals
        go_ret
        exact ⟨rfl, HB.out⟩

theorem steerTowards_own : ownKnob Try.prog.godebug = none := by kernel_rfl
theorem steerTowards_laidOut : laidOutB Try.prog = true := by kernel_rfl
set_option maxRecDepth 100000 in
theorem steerTowards_lifted (os : Os) (started : os.Started) (H : Type) (enc : TypeId × Value → H) :
    ReturnsInHanded {} Try.checked os 3 .any (Rows.steerTowardsSpec.pre6 enc Try.prog Try.f3 Rows.steerTowardsRow.domain false) (Rows.steerTowardsSpec.post enc Try.prog Try.f3 false true false false) := by
  refine returnsInHanded_of_change (C := Try.checked) steerTowards_own started (by kernel_rfl) Try.func3
    (ChangeSpec.witness6 (enc := enc) (C := Try.checked) false ⟨#[], #[.slice none 0 0], []⟩ 8 (by kernel_rfl) (by kernel_rfl) (by kernel_rfl) (by kernel_rfl)) ?_
  intro W base args ds gs before hval0 hW hcnd _
  have hval : ∀ (j : Nat) t v, Try.f3.params[j]? = some t → args[j]? = some v → Value.okWide Try.prog W .any base t v := hval0
  have hW' := hW
  obtain ⟨p, q, hA0, hV, rfl, hfz, hnd⟩ := hW
  have hA : DataW.TrodAll enc Try.prog W 0 (fun _ => true) true Try.f3.params.toList args.toList ds p := hA0
  rw [Try.params3] at hA hval
  obtain ⟨v0, vs0, d0, ds0, p0, q0, hargs, rfl, rfl, h0, r0⟩ := trodAll_cons hA
  obtain ⟨rfl, rfl, rfl⟩ := trodAll_nil r0
  obtain rfl : args = #[v0] := by cases args; simp_all
  obtain ⟨rfl, rfl⟩ := trodVars_none hV
  obtain ⟨a0, len0, cap0, rfl⟩ := okWide_slice Try.underlying22 (hval 0 22 v0 rfl rfl)
  have k0 := h0
  have lt0 : ∀ x ∈ p0, x.block < W.heap.size := by obtain ⟨m, hm⟩ := k0; exact DataW.trod_lt m _ _ _ hm
  have rows : Asks19 W a0 len0 cap0 := by obtain ⟨fuel, hf⟩ := h0; exact asks19_of hf
  clear hA0 hval0
  refine (steerTowards_walk a0 len0 cap0 W rows).mono fun e W' ⟨he, bel⟩ => ?_
  subst he
  exact ⟨_, rfl, _, _, _, [], _, [], hW', trodAll_mk1 (shut_bool Try.underlying4 _), (trodAll_cons_mk (Below.trod steerTowards_laidOut (by kernel_rfl) (of_decide_eq_true (by kernel_rfl)) k0 bel lt0) trodAll_mk0), rfl, bel.frame _, fun h => by cases h⟩
theorem steerTowards_over : Rows.steerTowardsRow.holds Try.pinned (OpenSpec.ofChange Rows.steerTowardsSpec) :=
  OpenClaim.holds_of_wide 3 Try.f3 rfl rfl rfl rfl rfl rfl rfl ⟨rfl, rfl, rfl, rfl, rfl⟩ rfl rfl rfl rfl rfl (by kernel_rfl) Try.func3 (by kernel_rfl)
    (of_decide_eq_true (by kernel_rfl)) (by unfold Func.isWrapper; first | (rw [if_pos (by decide +kernel)]; kernel_rfl) | (rw [if_neg (by decide +kernel)]; exact ⟨rfl, rfl⟩))
    (fun os started H enc _ => steerTowards_lifted os started H enc)
/-- The given statement of SteerTowards. -/
theorem steerTowards_holds : Rows.SteerTowardsSaid := steerTowards_over
end Go.Proofs.Ytmihmgjbecedaaa
