/- For every list, SteerCoheres answers true and leaves its argument as it was: what draws to any others is the page's. No condition. -/
import Derived.Test.YtmihmgjbecedaaaAsk19
import Derived.Test.YtmihmgjbecedaaaStc
import Derived.Test.YtmihmgjbecedaaaStd
import Derived.Deep.QuietTactic
import Derived.BigQuiet
import Derived.Deep.RegionWith
import Derived.Deep.RegionHeld3
namespace Go.Proofs.Ytmihmgjbecedaaa
open Go.ChangeShapes Go.WideShapes Go.ChangeAt Go.RowKit Go.Deep
set_option linter.unusedVariables false

/-- A call that makes memory leaves 4 cells of the argument as they were. -/
theorem held4d {P : Program} {F : FuncId} {args : Array Value} {w w0 : World} {r : Ending} {b o1 o2 o3 o4 : Nat} {x1 x2 x3 x4 : Value} (h : Calls P F args w fun e w' => e = r ∧ Below w.heap.size w w')
    (hB : Below w0.heap.size w0 w) (hbl : b < w0.heap.size) (d1 : w.cell? ⟨b, o1, none⟩ = some x1) (d2 : w.cell? ⟨b, o2, none⟩ = some x2) (d3 : w.cell? ⟨b, o3, none⟩ = some x3) (d4 : w.cell? ⟨b, o4, none⟩ = some x4) :
    Calls P F args w fun e w' => e = r ∧ w'.cell? ⟨b, o1, none⟩ = some x1 ∧ w'.cell? ⟨b, o2, none⟩ = some x2 ∧ w'.cell? ⟨b, o3, none⟩ = some x3 ∧ w'.cell? ⟨b, o4, none⟩ = some x4 ∧ Below w0.heap.size w0 w' := by
  have hl := Nat.lt_of_lt_of_le hbl hB.size
  exact h.mono fun e w' ⟨h1, h2⟩ => ⟨h1, (h2.cell (p := ⟨b, o1, none⟩) hl).trans d1, (h2.cell (p := ⟨b, o2, none⟩) hl).trans d2, (h2.cell (p := ⟨b, o3, none⟩) hl).trans d3, (h2.cell (p := ⟨b, o4, none⟩) hl).trans d4, hB.trans (h2.mono hB.size)⟩
set_option maxRecDepth 100000 in
set_option maxHeartbeats 1600000 in
theorem steerCoheres_walk (a : Option Addr) (len cap : Nat) (w : World) (rows : Asks19 w a len cap) :
    Calls Try.prog 5 #[.slice a len cap] w fun e w' => e = .returned (.bool true) ∧ Below w.heap.size w w' := by
  obtain ⟨hl, hm, hall⟩ := rows
  have HALL := Fx.Hd.mk hall
  clear hall
  go_enter Try.func5, Try.ntmps5
  go_wp2
  go_loopw [3] (fun i wr => ∃ (k : Nat), i = .int .i64 k ∧ k ≤ len ∧ k ≤ 20 ∧ Fx.Hd (Below w.heap.size w wr)) (fun i _ => 20 - (intOf i).toNat)
  case atStart => exact ⟨0, rfl, by omega, by omega, ⟨Below.refl _ _⟩⟩
  case round =>
    obtain ⟨k, rfl, hk, hk2, HB⟩ := hrel
    by_cases hlt : k < len ∧ k < 20
    · obtain ⟨g1, g2⟩ := hlt
      obtain ⟨b, off, x, y, u, v, z, ab, nb, cb, f, g, rfl, hbl, hx, hy, hu, hv, hz, hnb, hcb, hvs, c0, c1, c2, c3, c4, c5⟩ := HALL.out k g1
      have d0 := (HB.out.cell (p := ⟨b, off + k * 6, none⟩) hbl).trans c0
      have d1 := (HB.out.cell (p := ⟨b, off + k * 6 + 1, none⟩) hbl).trans c1
      have d2 := (HB.out.cell (p := ⟨b, off + k * 6 + 2, none⟩) hbl).trans c2
      have d3 := (HB.out.cell (p := ⟨b, off + k * 6 + 3, none⟩) hbl).trans c3
      have d4 := (HB.out.cell (p := ⟨b, off + k * 6 + 4, none⟩) hbl).trans c4
      have d5 := (HB.out.cell (p := ⟨b, off + k * 6 + 5, none⟩) hbl).trans c5
      have hbw : b < wr.heap.size := Nat.lt_of_lt_of_le hbl HB.out.size
      have HVS := Fx.Hd.mk hvs
      clear c0 c1 c2 c3 c4 c5 hvs
      have eb : Below w.heap.size w wr := HB.out
      have QB : Fx.Hd (w.heap.size ≤ wr.heap.size) := ⟨eb.size⟩
      by_cases hheavy : 100 < nb
      · have hd : decide (100 < nb) = true := by simp; omega
        go_wp2_with (go_at_call 11; (with_reducible refine (heavy19_any x y u v z ab nb cb _).mono ?_); rintro e w' ⟨rfl, hbh⟩; have HBh := Fx.Hd.mk hbh; clear hbh)
        go_ret
        exact ⟨rfl, HB.out.trans (HBh.out.mono HB.out.size)⟩
      · have hd : decide (100 < nb) = false := by simp; omega
        go_wp2_with (go_at_call 11; (with_reducible refine (heavy19_any x y u v z ab nb cb _).mono ?_); rintro e w' ⟨rfl, hbh⟩; have HBh := Fx.Hd.mk hbh; clear hbh)
        have EB := Fx.Hd.mk (HB.out.trans (HBh.out.mono HB.out.size))
        have hbw2 : b < w'.heap.size := Nat.lt_of_lt_of_le hbw HBh.out.size
        have hvs2 := Fx.Hd.mk (HVS.out.below EB.out (Nat.le_refl _))
        replace d0 := (HBh.out.cell (p := ⟨b, off + k * 6, none⟩) hbw).trans d0
        replace d1 := (HBh.out.cell (p := ⟨b, off + k * 6 + 1, none⟩) hbw).trans d1
        replace d2 := (HBh.out.cell (p := ⟨b, off + k * 6 + 2, none⟩) hbw).trans d2
        replace d3 := (HBh.out.cell (p := ⟨b, off + k * 6 + 3, none⟩) hbw).trans d3
        replace d4 := (HBh.out.cell (p := ⟨b, off + k * 6 + 4, none⟩) hbw).trans d4
        replace d5 := (HBh.out.cell (p := ⟨b, off + k * 6 + 5, none⟩) hbw).trans d5
        replace eb := EB.out
        have VS := fun (W : World) (hW : Below w.heap.size w W) => HVS.out.below hW (Nat.le_refl _)
        have HVV := Fx.Hd.mk VS
        clear VS
        go_region_held3 (fun w' => w'.cell? ⟨b, off + k * 6, none⟩ = some (.int .i64 x) ∧ w'.cell? ⟨b, off + k * 6 + 1, none⟩ = some (.int .i64 y) ∧ w'.cell? ⟨b, off + k * 6 + 4, none⟩ = some (.int .i64 z) ∧ w'.cell? ⟨b, off + k * 6 + 5, none⟩ = some (.slice ab nb cb) ∧ Below w.heap.size w w') (first | exact ⟨e0, e1, e4, e5, eb⟩ | exact ⟨d0, d1, d4, d5, Below.drew eb⟩ | go_keep)
          (first | (go_at_call 16; go_must (refine (held4d (x1 := .int .i64 x) (o1 := off + k * 6) (x2 := .int .i64 y) (o2 := off + k * 6 + 1) (x3 := .int .i64 z) (o3 := off + k * 6 + 4) (x4 := .slice ab nb cb) (o4 := off + k * 6 + 5) (b := b) (cohere_any x y z ab nb cb w.heap.size f g _ hx hy hz ?_ ?_ ?_) ?_ hbl ?_ ?_ ?_ ?_ ).mono ?_); (exact HVV.out _ (by first | exact eb.drew | exact eb)); (exact Below.size (by first | exact eb.drew | exact eb)); (omega); (first | assumption | exact eb.drew); (first | assumption | exact d0); (first | assumption | exact d1); (first | assumption | exact d4); (first | assumption | exact d5); rintro e w' ⟨rfl, e0, e1, e4, e5, eb⟩) | (go_at_call 17; go_must (refine (held4d (x1 := .int .i64 x) (o1 := off + k * 6) (x2 := .int .i64 y) (o2 := off + k * 6 + 1) (x3 := .int .i64 z) (o3 := off + k * 6 + 4) (x4 := .slice ab nb cb) (o4 := off + k * 6 + 5) (b := b) (rcohere_any x y z ab nb cb w.heap.size f g _ hx hy hz ?_ ?_ ?_) ?_ hbl ?_ ?_ ?_ ?_ ).mono ?_); (exact HVV.out _ (by first | exact eb.drew | exact eb)); (exact Below.size (by first | exact eb.drew | exact eb)); (omega); (first | assumption | exact eb.drew); (first | assumption | exact d0); (first | assumption | exact d1); (first | assumption | exact d4); (first | assumption | exact d5); rintro e w' ⟨rfl, e0, e1, e4, e5, eb⟩))
        go_wp2
        replace HB := Fx.Hd.mk eb
        refine ⟨⟨k + 1, by go_num, by omega, by omega, HB⟩, by simp [intOf]; omega⟩

    · go_wp2_with (go_at_call 10; (with_reducible refine (up (wakes19_any _) HB).mono ?_); clear HB; rintro e w' ⟨rfl, HB⟩)
      all_goals
        go_ret
        exact ⟨rfl, HB.out⟩

theorem steerCoheres_own : ownKnob Try.prog.godebug = none := by kernel_rfl
theorem steerCoheres_laidOut : laidOutB Try.prog = true := by kernel_rfl
set_option maxRecDepth 100000 in
theorem steerCoheres_lifted (os : Os) (started : os.Started) (H : Type) (enc : TypeId × Value → H) :
    ReturnsInHanded {} Try.checked os 5 .any (Rows.steerCoheresSpec.pre6 enc Try.prog Try.f5 Rows.steerCoheresRow.domain false) (Rows.steerCoheresSpec.post enc Try.prog Try.f5 false true false false) := by
  refine returnsInHanded_of_change (C := Try.checked) steerCoheres_own started (by kernel_rfl) Try.func5
    (ChangeSpec.witness6 (enc := enc) (C := Try.checked) false ⟨#[], #[.slice none 0 0], []⟩ 8 (by kernel_rfl) (by kernel_rfl) (by kernel_rfl) (by kernel_rfl)) ?_
  intro W base args ds gs before hval0 hW hcnd _
  have hval : ∀ (j : Nat) t v, Try.f5.params[j]? = some t → args[j]? = some v → Value.okWide Try.prog W .any base t v := hval0
  have hW' := hW
  obtain ⟨p, q, hA0, hV, rfl, hfz, hnd⟩ := hW
  have hA : DataW.TrodAll enc Try.prog W 0 (fun _ => true) true Try.f5.params.toList args.toList ds p := hA0
  rw [Try.params5] at hA hval
  obtain ⟨v0, vs0, d0, ds0, p0, q0, hargs, rfl, rfl, h0, r0⟩ := trodAll_cons hA
  obtain ⟨rfl, rfl, rfl⟩ := trodAll_nil r0
  obtain rfl : args = #[v0] := by cases args; simp_all
  obtain ⟨rfl, rfl⟩ := trodVars_none hV
  obtain ⟨a0, len0, cap0, rfl⟩ := okWide_slice Try.underlying22 (hval 0 22 v0 rfl rfl)
  have k0 := h0
  have lt0 : ∀ x ∈ p0, x.block < W.heap.size := by obtain ⟨m, hm⟩ := k0; exact DataW.trod_lt m _ _ _ hm
  have rows : Asks19 W a0 len0 cap0 := by obtain ⟨fuel, hf⟩ := h0; exact asks19_of hf
  clear hA0 hval0
  refine (steerCoheres_walk a0 len0 cap0 W rows).mono fun e W' ⟨he, bel⟩ => ?_
  subst he
  exact ⟨_, rfl, _, _, _, [], _, [], hW', trodAll_mk1 (shut_bool Try.underlying4 _), (trodAll_cons_mk (Below.trod steerCoheres_laidOut (by kernel_rfl) (of_decide_eq_true (by kernel_rfl)) k0 bel lt0) trodAll_mk0), rfl, bel.frame _, fun h => by cases h⟩
theorem steerCoheres_over : Rows.steerCoheresRow.holds Try.pinned (OpenSpec.ofChange Rows.steerCoheresSpec) :=
  OpenClaim.holds_of_wide 5 Try.f5 rfl rfl rfl rfl rfl rfl rfl ⟨rfl, rfl, rfl, rfl, rfl⟩ rfl rfl rfl rfl rfl (by kernel_rfl) Try.func5 (by kernel_rfl)
    (of_decide_eq_true (by kernel_rfl)) (by unfold Func.isWrapper; first | (rw [if_pos (by decide +kernel)]; kernel_rfl) | (rw [if_neg (by decide +kernel)]; exact ⟨rfl, rfl⟩))
    (fun os started H enc _ => steerCoheres_lifted os started H enc)
/-- The given statement of SteerCoheres. -/
theorem steerCoheres_holds : Rows.SteerCoheresSaid := steerCoheres_over
end Go.Proofs.Ytmihmgjbecedaaa
