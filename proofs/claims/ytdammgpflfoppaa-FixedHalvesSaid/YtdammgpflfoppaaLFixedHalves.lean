/- For every list, FixedHalves answers true and leaves its argument as it was: half of what is doubled is the number; a quotient times its divisor is the number, but for less than one unit of it. No condition. -/
import Derived.Test.YtdammgpflfoppaaAsk
import Derived.Deep.QuietTactic
import Derived.BigQuiet
import Derived.Deep.RegionWith
import Derived.Deep.RegionHeld3
namespace Go.Proofs.Ytdammgpflfoppaa
open Go.ChangeShapes Go.WideShapes Go.ChangeAt Go.RowKit Go.Deep
set_option linter.unusedVariables false
set_option maxRecDepth 100000 in
set_option maxHeartbeats 800000 in
theorem fixedHalves_walk (a : Option Addr) (len cap : Nat) (w : World) (rows : Asks w a len cap) :
    Calls Try.prog 10 #[.slice a len cap] w fun e w' => e = .returned (.bool true) ∧ Below w.heap.size w w' := by
  obtain ⟨hl, hm, hall⟩ := rows
  have HALL := Fx.Hd.mk hall
  clear hall
  go_enter Try.func10, Try.ntmps10
  go_wp2
  go_loopw [3, 4, 5, 6, 7] (fun i _ _ _ _ wr => ∃ (k : Nat), i = .int .i64 k ∧ k ≤ len ∧ k ≤ 30 ∧ Fx.Hd (Below w.heap.size w wr)) (fun i _ _ _ _ _ => 30 - (intOf i).toNat)
  case atStart => exact ⟨0, rfl, by omega, by omega, ⟨Below.refl _ _⟩⟩
  case round =>
    obtain ⟨k, rfl, hk, hk2, HB⟩ := hrel
    by_cases hlt : k < len ∧ k < 30
    · obtain ⟨g1, g2⟩ := hlt
      obtain ⟨b, off, x, y, z, rfl, hbl, hx, hy, hz, c0, c1, c2⟩ := HALL.out k g1
      have d0 := (HB.out.cell (p := ⟨b, off + k * 3, none⟩) hbl).trans c0
      have d1 := (HB.out.cell (p := ⟨b, off + k * 3 + 1, none⟩) hbl).trans c1
      have d2 := (HB.out.cell (p := ⟨b, off + k * 3 + 2, none⟩) hbl).trans c2
      clear c0 c1 c2
      have bX := Fx.tmod_bd x 1099511627776 (by omega)
      have bY := Fx.tmod_bd y 1048576 (by omega)
      go_wp2
      go_quiet (fail)
      rename_i nq
      replace HB : Fx.Hd (Below w.heap.size w (wr.drewN nq)) := ⟨below_drewN HB.out nq⟩
      generalize x.tmod 1099511627776 = X at *
      generalize y.tmod 1048576 = Y at *
      obtain ⟨m1, m2, m3, m4⟩ := Fx.halves_back bX
      have iX : Fx.I64 X := Fx.i64_small bX (by omega)
      have iY : Fx.I64 Y := Fx.i64_small bY (by omega)
      have j1 : Fx.I64 131072 := by unfold Fx.I64; omega
      have j2 : Fx.I64 (-65536) := by unfold Fx.I64; omega
      have j3 : Fx.I64 (Fx.mulS X 131072) := Fx.mul_i64 iX j1
      have n1 : Fx.divS (Fx.mulS X 131072) 131072 ≤ X ∧ X ≤ Fx.divS (Fx.mulS X 131072) 131072 := by rw [m1, m2]; omega
      have n2 : Fx.mulS X (-65536) ≤ -X ∧ -X ≤ Fx.mulS X (-65536) := by omega
      have n3 : Fx.divS X (-65536) ≤ -X ∧ -X ≤ Fx.divS X (-65536) := by omega
      clear m1 m2 m3 m4
      by_cases hy0 : Y ≤ 0
      · go_wp2_with (first | (go_at_call 22; refine (up (mul_any _ _ _ (by assumption) (by assumption)) HB).mono ?_; clear HB; rintro e w' ⟨rfl, HB⟩) | (go_at_call 24; refine (up (div_any _ _ _ (by assumption) (by assumption)) HB).mono ?_; clear HB; rintro e w' ⟨rfl, HB⟩))
        refine ⟨⟨k + 1, by go_num, by omega, by omega, HB⟩, by simp [intOf]; omega⟩
      · obtain ⟨o1, o2, o3, o4⟩ := Fx.quo_back bX ⟨by omega, bY.2⟩
        go_wp2_with (first | (go_at_call 22; refine (up (mul_any _ _ _ (by assumption) (by assumption)) HB).mono ?_; clear HB; rintro e w' ⟨rfl, HB⟩) | (go_at_call 24; refine (up (div_any _ _ _ (by assumption) (by assumption)) HB).mono ?_; clear HB; rintro e w' ⟨rfl, HB⟩))
        refine ⟨⟨k + 1, by go_num, by omega, by omega, HB⟩, by simp [intOf]; omega⟩

    · go_wp2_with (go_at_call 21; refine (up (wakes1_any _) HB).mono ?_; clear HB; rintro e w' ⟨rfl, HB⟩)
      all_goals
        go_ret
        exact ⟨rfl, HB.out⟩

theorem fixedHalves_own : ownKnob Try.prog.godebug = none := by kernel_rfl
theorem fixedHalves_laidOut : laidOutB Try.prog = true := by kernel_rfl
set_option maxRecDepth 100000 in
theorem fixedHalves_lifted (os : Os) (started : os.Started) (H : Type) (enc : TypeId × Value → H) :
    ReturnsInHanded {} Try.checked os 10 .any (Rows.fixedHalvesSpec.pre6 enc Try.prog Try.f10 Rows.fixedHalvesRow.domain false) (Rows.fixedHalvesSpec.post enc Try.prog Try.f10 false true false false) := by
  refine returnsInHanded_of_change (C := Try.checked) fixedHalves_own started (by kernel_rfl) Try.func10
    (ChangeSpec.witness6 (enc := enc) (C := Try.checked) false ⟨#[], #[.slice none 0 0], []⟩ 8 (by kernel_rfl) (by kernel_rfl) (by kernel_rfl) (by kernel_rfl)) ?_
  intro W base args ds gs before hval0 hW hcnd _
  have hval : ∀ (j : Nat) t v, Try.f10.params[j]? = some t → args[j]? = some v → Value.okWide Try.prog W .any base t v := hval0
  have hW' := hW
  obtain ⟨p, q, hA0, hV, rfl, hfz, hnd⟩ := hW
  have hA : DataW.TrodAll enc Try.prog W 0 (fun _ => true) true Try.f10.params.toList args.toList ds p := hA0
  rw [Try.params10] at hA hval
  obtain ⟨v0, vs0, d0, ds0, p0, q0, hargs, rfl, rfl, h0, r0⟩ := trodAll_cons hA
  obtain ⟨rfl, rfl, rfl⟩ := trodAll_nil r0
  obtain rfl : args = #[v0] := by cases args; simp_all
  obtain ⟨rfl, rfl⟩ := trodVars_none hV
  obtain ⟨a0, len0, cap0, rfl⟩ := okWide_slice Try.underlying22 (hval 0 22 v0 rfl rfl)
  have k0 := h0
  have lt0 : ∀ x ∈ p0, x.block < W.heap.size := by obtain ⟨m, hm⟩ := k0; exact DataW.trod_lt m _ _ _ hm
  have rows : Asks W a0 len0 cap0 := by obtain ⟨fuel, hf⟩ := h0; exact asks_of hf
  clear hA0 hval0
  refine (fixedHalves_walk a0 len0 cap0 W rows).mono fun e W' ⟨he, bel⟩ => ?_
  subst he
  exact ⟨_, rfl, _, _, _, [], _, [], hW', trodAll_mk1 (shut_bool Try.underlying4 _), (trodAll_cons_mk (Below.trod fixedHalves_laidOut (by kernel_rfl) (of_decide_eq_true (by kernel_rfl)) k0 bel lt0) trodAll_mk0), rfl, bel.frame _, fun h => by cases h⟩
theorem fixedHalves_over : Rows.fixedHalvesRow.holds Try.pinned (OpenSpec.ofChange Rows.fixedHalvesSpec) :=
  OpenClaim.holds_of_wide 10 Try.f10 rfl rfl rfl rfl rfl rfl rfl ⟨rfl, rfl, rfl, rfl, rfl⟩ rfl rfl rfl rfl rfl (by kernel_rfl) Try.func10 (by kernel_rfl)
    (of_decide_eq_true (by kernel_rfl)) (by unfold Func.isWrapper; first | (rw [if_pos (by decide +kernel)]; kernel_rfl) | (rw [if_neg (by decide +kernel)]; exact ⟨rfl, rfl⟩))
    (fun os started H enc _ => fixedHalves_lifted os started H enc)
/-- The given statement of FixedHalves. -/
theorem fixedHalves_holds : Rows.FixedHalvesSaid := fixedHalves_over
end Go.Proofs.Ytdammgpflfoppaa
