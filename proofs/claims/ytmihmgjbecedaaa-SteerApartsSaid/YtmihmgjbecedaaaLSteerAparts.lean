/- For every list, SteerAparts answers true and leaves its argument as it was: what pushes away from any others is the page's. No condition. -/
import Derived.Test.YtmihmgjbecedaaaAsk19
import Derived.Test.YtmihmgjbecedaaaSth
import Derived.Deep.QuietTactic
import Derived.BigQuiet
import Derived.Deep.RegionWith
import Derived.Deep.RegionHeld3
namespace Go.Proofs.Ytmihmgjbecedaaa
open Go.ChangeShapes Go.WideShapes Go.ChangeAt Go.RowKit Go.Deep
set_option linter.unusedVariables false
set_option maxRecDepth 100000 in
set_option maxHeartbeats 3200000 in
theorem steerAparts_walk (a : Option Addr) (len cap : Nat) (w : World) (rows : Asks19 w a len cap) :
    Calls Try.prog 4 #[.slice a len cap] w fun e w' => e = .returned (.bool true) ∧ Below w.heap.size w w' := by
  obtain ⟨hl, hm, hall⟩ := rows
  have HALL := Fx.Hd.mk hall
  clear hall
  go_enter Try.func4, Try.ntmps4
  go_wp2
  go_loopw [3] (fun i wr => ∃ (k : Nat), i = .int .i64 k ∧ k ≤ len ∧ k ≤ 20 ∧ Fx.Hd (Below w.heap.size w wr)) (fun i _ => 20 - (intOf i).toNat)
  case atStart => exact ⟨0, rfl, by omega, by omega, ⟨Below.refl _ _⟩⟩
  case round =>
    obtain ⟨k, rfl, hk, hk2, HB⟩ := hrel
    by_cases hlt : k < len ∧ k < 20
    · obtain ⟨g1, g2⟩ := hlt
      obtain ⟨b, off, x, y, u, v, z, ab, nb, cb, f, g, rfl, hbl, hx, hy, hu, hv, hz, hnb, hcb, hvs, c0, c1, c2, c3, c4, c5⟩ := HALL.out k g1
      have d0 := (HB.out.cell (p := ⟨b, off + k * 6, none⟩) hbl).trans c0
      have d1 := (HB.out.cell (p := ⟨b, off + k * 6 + 1, none⟩) hbl).trans c1
      have d2 := (HB.out.cell (p := ⟨b, off + k * 6 + 2, none⟩) hbl).trans c2
      have d3 := (HB.out.cell (p := ⟨b, off + k * 6 + 3, none⟩) hbl).trans c3
      have d4 := (HB.out.cell (p := ⟨b, off + k * 6 + 4, none⟩) hbl).trans c4
      have d5 := (HB.out.cell (p := ⟨b, off + k * 6 + 5, none⟩) hbl).trans c5
      have hbw : b < wr.heap.size := Nat.lt_of_lt_of_le hbl HB.out.size
      have HVS := Fx.Hd.mk hvs
      clear c0 c1 c2 c3 c4 c5 hvs
      have eb : Below w.heap.size w wr := HB.out
      by_cases hheavy : 100 < nb
      · have hd : decide (100 < nb) = true := by simp; omega
        go_wp2_with (go_at_call 11; (with_reducible refine (heavy19_any x y u v z ab nb cb _).mono ?_); rintro e w' ⟨rfl, hbh⟩; have HBh := Fx.Hd.mk hbh; clear hbh)
        go_ret
        exact ⟨rfl, HB.out.trans (HBh.out.mono HB.out.size)⟩
      · have hd : decide (100 < nb) = false := by simp; omega
        have HB9 : Fx.Hd (∀ X, Below wr.heap.size wr X → Below w.heap.size w X) := ⟨fun X hX => HB.out.trans (hX.mono HB.out.size)⟩
        have HDD : Fx.Hd (∀ X, Below wr.heap.size wr X → X.cell? ⟨b, off + k * 6, none⟩ = some (.int .i64 x) ∧ X.cell? ⟨b, off + k * 6 + 1, none⟩ = some (.int .i64 y) ∧ X.cell? ⟨b, off + k * 6 + 3, none⟩ = some (.int .i64 v) ∧ X.cell? ⟨b, off + k * 6 + 2, none⟩ = some (.int .i64 u) ∧ X.cell? ⟨b, off + k * 6 + 4, none⟩ = some (.int .i64 z) ∧ X.cell? ⟨b, off + k * 6 + 5, none⟩ = some (.slice ab nb cb)) := ⟨fun X hX => ⟨(hX.cell (p := ⟨b, off + k * 6, none⟩) hbw).trans d0, (hX.cell (p := ⟨b, off + k * 6 + 1, none⟩) hbw).trans d1, (hX.cell (p := ⟨b, off + k * 6 + 3, none⟩) hbw).trans d3, (hX.cell (p := ⟨b, off + k * 6 + 2, none⟩) hbw).trans d2, (hX.cell (p := ⟨b, off + k * 6 + 4, none⟩) hbw).trans d4, (hX.cell (p := ⟨b, off + k * 6 + 5, none⟩) hbw).trans d5⟩⟩
        go_wp2_with (first | (go_at_call 11; (with_reducible refine (heavy19_any x y u v z ab nb cb _).mono ?_); rintro e w2 ⟨rfl, hbh⟩; have HBh := Fx.Hd.mk hbh; clear d0 d1 d2 d3 d4 d5; obtain ⟨d0, d1, d3, d2, d4, d5⟩ := HDD.out _ hbh; clear hbh) | (go_at_call 12; go_must (refine (copyv_any ab nb cb w.heap.size f g _ ?_ ?_ ?_).mono ?_); (exact HVS.out.below (HB9.out _ HBh.out) (Nat.le_refl _)); (exact (HB9.out _ HBh.out).size); (omega); rintro e W1 ⟨ca, cc, rfl, hvc, hbc⟩; have HVC := Fx.Hd.mk hvc; have HB2 := Fx.Hd.mk (HBh.out.trans (hbc.mono HBh.out.size)); clear d0 d1 d2 d3 d4 d5 hvc hbc; obtain ⟨d0, d1, d3, d2, d4, d5⟩ := HDD.out _ HB2.out))
        have HWW : Fx.Hd (∀ X, Below W1.heap.size W1 X → Below w.heap.size w X) := ⟨fun X hX => (HB9.out _ HB2.out).trans (hX.mono (HB9.out _ HB2.out).size)⟩
        have eb : Below W1.heap.size W1 W1 := Below.refl _ _
        have j1 : (0 : Int) ≤ (k : Int) := by omega
        have j2 : (k : Int) < (len : Int) := by omega
        go_region_held3 (fun w' => w'.cell? ⟨b, off + k * 6, none⟩ = some (.int .i64 x) ∧ w'.cell? ⟨b, off + k * 6 + 1, none⟩ = some (.int .i64 y) ∧ w'.cell? ⟨b, off + k * 6 + 4, none⟩ = some (.int .i64 z) ∧ w'.cell? ⟨b, off + k * 6 + 5, none⟩ = some (.slice ab nb cb) ∧ Below W1.heap.size W1 w') (first | exact ⟨ed0, ed1, ed4, ed5, eb⟩ | exact ⟨ed0, ed1, ed4, ed5, Below.drew eb⟩ | exact ⟨d0, d1, d4, d5, Below.drew eb⟩ | go_keep)
          (first | (go_at_call 13; go_must (refine (hold4 (B := W1.heap.size) (w0 := W1) (b1 := b) (o1 := off + k * 6) (x1 := .int .i64 x) (b2 := b) (o2 := off + k * 6 + 1) (x2 := .int .i64 y) (b3 := b) (o3 := off + k * 6 + 4) (x3 := .int .i64 z) (b4 := b) (o4 := off + k * 6 + 5) (x4 := .slice ab nb cb) (apart_any x y z ca nb cc W1.heap.size f g _ hx hy hz ?_ ?_ ?_) ?_ ?_ ?_ ?_ ?_ ?_).mono ?_); (exact (HVC.out.below (by first | exact Below.drew eb | exact eb) (Nat.le_refl _))); (exact Below.size (by first | exact Below.drew eb | exact eb)); (omega); (first | assumption | exact eb.drew); (exact (show W1.heap.size ≤ _ from (by first | exact Below.size eb | exact Below.size (Below.drew eb)))); (first | assumption | exact ed0 | exact d0); (first | assumption | exact ed1 | exact d1); (first | assumption | exact ed4 | exact d4); (first | assumption | exact ed5 | exact d5); rintro e w' ⟨rfl, ed0, ed1, ed4, ed5, eb⟩) | (go_at_call 14; go_must (refine (hold4 (B := W1.heap.size) (w0 := W1) (b1 := b) (o1 := off + k * 6) (x1 := .int .i64 x) (b2 := b) (o2 := off + k * 6 + 1) (x2 := .int .i64 y) (b3 := b) (o3 := off + k * 6 + 4) (x3 := .int .i64 z) (b4 := b) (o4 := off + k * 6 + 5) (x4 := .slice ab nb cb) (push_any x y z ab nb cb w.heap.size f g _ hx hy hz ?_ ?_ ?_) ?_ ?_ ?_ ?_ ?_ ?_).mono ?_); (exact (HVS.out.below (HWW.out _ (by first | exact Below.drew eb | exact eb)) (Nat.le_refl _))); (exact Below.size (HWW.out _ (by first | exact Below.drew eb | exact eb))); (omega); (first | assumption | exact eb.drew); (exact (show W1.heap.size ≤ _ from (by first | exact Below.size eb | exact Below.size (Below.drew eb)))); (first | assumption | exact ed0 | exact d0); (first | assumption | exact ed1 | exact d1); (first | assumption | exact ed4 | exact d4); (first | assumption | exact ed5 | exact d5); rintro e w' ⟨rfl, ed0, ed1, ed4, ed5, eb⟩) | (go_at_call 15; go_must (refine (hold4 (B := W1.heap.size) (w0 := W1) (b1 := b) (o1 := off + k * 6) (x1 := .int .i64 x) (b2 := b) (o2 := off + k * 6 + 1) (x2 := .int .i64 y) (b3 := b) (o3 := off + k * 6 + 4) (x3 := .int .i64 z) (b4 := b) (o4 := off + k * 6 + 5) (x4 := .slice ab nb cb) (eqv_b ca ab nb cc cb W1.heap.size w.heap.size f g _ ?_ ?_ ?_) ?_ ?_ ?_ ?_ ?_ ?_).mono ?_); (exact (HVC.out.below (by first | exact Below.drew eb | exact eb) (Nat.le_refl _))); (exact (HVS.out.below (HWW.out _ (by first | exact Below.drew eb | exact eb)) (Nat.le_refl _))); (omega); (first | assumption | exact eb.drew); (exact (show W1.heap.size ≤ _ from (by first | exact Below.size eb | exact Below.size (Below.drew eb)))); (first | assumption | exact ed0 | exact d0); (first | assumption | exact ed1 | exact d1); (first | assumption | exact ed4 | exact d4); (first | assumption | exact ed5 | exact d5); rintro e w' ⟨rfl, ed0, ed1, ed4, ed5, eb⟩))
        go_wp2
        replace HB := Fx.Hd.mk (HWW.out _ eb)
        refine ⟨⟨k + 1, by go_num, by omega, by omega, HB⟩, by simp [intOf]; omega⟩

    · go_wp2_with (go_at_call 10; (with_reducible refine (up (wakes19_any _) HB).mono ?_); clear HB; rintro e w' ⟨rfl, HB⟩)
      all_goals
        go_ret
        exact ⟨rfl, HB.out⟩

theorem steerAparts_own : ownKnob Try.prog.godebug = none := by kernel_rfl
theorem steerAparts_laidOut : laidOutB Try.prog = true := by kernel_rfl
set_option maxRecDepth 100000 in
theorem steerAparts_lifted (os : Os) (started : os.Started) (H : Type) (enc : TypeId × Value → H) :
    ReturnsInHanded {} Try.checked os 4 .any (Rows.steerApartsSpec.pre6 enc Try.prog Try.f4 Rows.steerApartsRow.domain false) (Rows.steerApartsSpec.post enc Try.prog Try.f4 false true false false) := by
  refine returnsInHanded_of_change (C := Try.checked) steerAparts_own started (by kernel_rfl) Try.func4
    (ChangeSpec.witness6 (enc := enc) (C := Try.checked) false ⟨#[], #[.slice none 0 0], []⟩ 8 (by kernel_rfl) (by kernel_rfl) (by kernel_rfl) (by kernel_rfl)) ?_
  intro W base args ds gs before hval0 hW hcnd _
  have hval : ∀ (j : Nat) t v, Try.f4.params[j]? = some t → args[j]? = some v → Value.okWide Try.prog W .any base t v := hval0
  have hW' := hW
  obtain ⟨p, q, hA0, hV, rfl, hfz, hnd⟩ := hW
  have hA : DataW.TrodAll enc Try.prog W 0 (fun _ => true) true Try.f4.params.toList args.toList ds p := hA0
  rw [Try.params4] at hA hval
  obtain ⟨v0, vs0, d0, ds0, p0, q0, hargs, rfl, rfl, h0, r0⟩ := trodAll_cons hA
  obtain ⟨rfl, rfl, rfl⟩ := trodAll_nil r0
  obtain rfl : args = #[v0] := by cases args; simp_all
  obtain ⟨rfl, rfl⟩ := trodVars_none hV
  obtain ⟨a0, len0, cap0, rfl⟩ := okWide_slice Try.underlying22 (hval 0 22 v0 rfl rfl)
  have k0 := h0
  have lt0 : ∀ x ∈ p0, x.block < W.heap.size := by obtain ⟨m, hm⟩ := k0; exact DataW.trod_lt m _ _ _ hm
  have rows : Asks19 W a0 len0 cap0 := by obtain ⟨fuel, hf⟩ := h0; exact asks19_of hf
  clear hA0 hval0
  refine (steerAparts_walk a0 len0 cap0 W rows).mono fun e W' ⟨he, bel⟩ => ?_
  subst he
  exact ⟨_, rfl, _, _, _, [], _, [], hW', trodAll_mk1 (shut_bool Try.underlying4 _), (trodAll_cons_mk (Below.trod steerAparts_laidOut (by kernel_rfl) (of_decide_eq_true (by kernel_rfl)) k0 bel lt0) trodAll_mk0), rfl, bel.frame _, fun h => by cases h⟩
theorem steerAparts_over : Rows.steerApartsRow.holds Try.pinned (OpenSpec.ofChange Rows.steerApartsSpec) :=
  OpenClaim.holds_of_wide 4 Try.f4 rfl rfl rfl rfl rfl rfl rfl ⟨rfl, rfl, rfl, rfl, rfl⟩ rfl rfl rfl rfl rfl (by kernel_rfl) Try.func4 (by kernel_rfl)
    (of_decide_eq_true (by kernel_rfl)) (by unfold Func.isWrapper; first | (rw [if_pos (by decide +kernel)]; kernel_rfl) | (rw [if_neg (by decide +kernel)]; exact ⟨rfl, rfl⟩))
    (fun os started H enc _ => steerAparts_lifted os started H enc)
/-- The given statement of SteerAparts. -/
theorem steerAparts_holds : Rows.SteerApartsSaid := steerAparts_over
end Go.Proofs.Ytmihmgjbecedaaa
