/- For every list, FixedDowns answers true and leaves its argument as it was: products and quotients of small numbers are rounded down, below 0 too. No condition. -/
import Derived.Test.YtdammgpflfoppaaAsk
import Derived.Deep.QuietTactic
import Derived.BigQuiet
import Derived.Deep.RegionWith
import Derived.Deep.RegionHeld3
namespace Go.Proofs.Ytdammgpflfoppaa
open Go.ChangeShapes Go.WideShapes Go.ChangeAt Go.RowKit Go.Deep
set_option linter.unusedVariables false
set_option maxRecDepth 100000 in
set_option maxHeartbeats 800000 in
theorem fixedDowns_walk (a : Option Addr) (len cap : Nat) (w : World) (rows : Asks w a len cap) :
    Calls Try.prog 9 #[.slice a len cap] w fun e w' => e = .returned (.bool true) ∧ Below w.heap.size w w' := by
  obtain ⟨hl, hm, hall⟩ := rows
  have HALL := Fx.Hd.mk hall
  clear hall
  go_enter Try.func9, Try.ntmps9
  go_wp2
  go_loopw [3, 4, 5, 6, 7, 8, 9] (fun i _ _ _ _ _ _ wr => ∃ (k : Nat), i = .int .i64 k ∧ k ≤ len ∧ k ≤ 30 ∧ Fx.Hd (Below w.heap.size w wr)) (fun i _ _ _ _ _ _ _ => 30 - (intOf i).toNat)
  case atStart => exact ⟨0, rfl, by omega, by omega, ⟨Below.refl _ _⟩⟩
  case round =>
    obtain ⟨k, rfl, hk, hk2, HB⟩ := hrel
    by_cases hlt : k < len ∧ k < 30
    · obtain ⟨g1, g2⟩ := hlt
      obtain ⟨b, off, x, y, z, rfl, hbl, hx, hy, hz, c0, c1, c2⟩ := HALL.out k g1
      have d0 := (HB.out.cell (p := ⟨b, off + k * 3, none⟩) hbl).trans c0
      have d1 := (HB.out.cell (p := ⟨b, off + k * 3 + 1, none⟩) hbl).trans c1
      have d2 := (HB.out.cell (p := ⟨b, off + k * 3 + 2, none⟩) hbl).trans c2
      clear c0 c1 c2
      have bX := Fx.tmod_bd x 1073741824 (by omega)
      have bY := Fx.tmod_bd y 1073741824 (by omega)
      go_wp2
      go_quiet (fail)
      rename_i nq
      replace HB : Fx.Hd (Below w.heap.size w (wr.drewN nq)) := ⟨below_drewN HB.out nq⟩
      generalize x.tmod 1073741824 = X at *
      generalize y.tmod 1073741824 = Y at *
      obtain ⟨pb, pe⟩ := Fx.mul_small bX bY
      have pe2 : Fx.mulS X Y ≤ X * Y / 65536 ∧ X * Y / 65536 ≤ Fx.mulS X Y := by omega
      have iX : Fx.I64 X := Fx.i64_small bX (by omega)
      have iY : Fx.I64 Y := Fx.i64_small bY (by omega)
      clear pe
      by_cases hy0 : Y = 0
      · have hy1 : (Y != 0) = false := by simp [hy0]
        clear hy0
        go_wp2_with (first | (go_at_call 22; refine (up (mul_any _ _ _ (by assumption) (by assumption)) HB).mono ?_; clear HB; rintro e w' ⟨rfl, HB⟩) | (go_at_call 24; refine (up (div_any _ _ _ (by assumption) (by assumption)) HB).mono ?_; clear HB; rintro e w' ⟨rfl, HB⟩))
        refine ⟨⟨k + 1, by go_num, by omega, by omega, HB⟩, by simp [intOf]; omega⟩
      · have hy1 : (Y != 0) = true := by simpa using hy0
        have hy2 : (Y == 0) = false := by simpa using hy0
        go_wp2_with (first | (go_at_call 22; refine (up (mul_any _ _ _ (by assumption) (by assumption)) HB).mono ?_; clear HB; rintro e w' ⟨rfl, HB⟩) | (go_at_call 24; refine (up (div_any _ _ _ (by assumption) (by assumption)) HB).mono ?_; clear HB; rintro e w' ⟨rfl, HB⟩))
        all_goals first
          | (refine ⟨⟨k + 1, by go_num, by omega, by omega, HB⟩, ?_⟩; simp [intOf]; omega)
          | (exfalso; rename_i hr hd; exact absurd hd (by rw [Fx.down1 bX bY hy0 hr]; decide))
          | (exfalso; rename_i hr hd; exact absurd hd (by rw [Fx.down2 bX bY hy0 hr]; decide))
          | (exfalso; rename_i hr hd; exact absurd hd (by rw [Fx.down3 bX bY hy0 hr]; decide))

    · go_wp2_with (first | (go_at_call 22; (with_reducible refine (up (k_mul3 _) HB).mono ?_); clear HB; rintro e w' ⟨rfl, HB⟩) | (go_at_call 24; (with_reducible refine (up (k_div5 _) HB).mono ?_); clear HB; rintro e w' ⟨rfl, HB⟩) | (go_at_call 21; refine (up (wakes1_any _) HB).mono ?_; clear HB; rintro e w' ⟨rfl, HB⟩))
      all_goals
        go_ret
        exact ⟨rfl, HB.out⟩

theorem fixedDowns_own : ownKnob Try.prog.godebug = none := by kernel_rfl
theorem fixedDowns_laidOut : laidOutB Try.prog = true := by kernel_rfl
set_option maxRecDepth 100000 in
theorem fixedDowns_lifted (os : Os) (started : os.Started) (H : Type) (enc : TypeId × Value → H) :
    ReturnsInHanded {} Try.checked os 9 .any (Rows.fixedDownsSpec.pre6 enc Try.prog Try.f9 Rows.fixedDownsRow.domain false) (Rows.fixedDownsSpec.post enc Try.prog Try.f9 false true false false) := by
  refine returnsInHanded_of_change (C := Try.checked) fixedDowns_own started (by kernel_rfl) Try.func9
    (ChangeSpec.witness6 (enc := enc) (C := Try.checked) false ⟨#[], #[.slice none 0 0], []⟩ 8 (by kernel_rfl) (by kernel_rfl) (by kernel_rfl) (by kernel_rfl)) ?_
  intro W base args ds gs before hval0 hW hcnd _
  have hval : ∀ (j : Nat) t v, Try.f9.params[j]? = some t → args[j]? = some v → Value.okWide Try.prog W .any base t v := hval0
  have hW' := hW
  obtain ⟨p, q, hA0, hV, rfl, hfz, hnd⟩ := hW
  have hA : DataW.TrodAll enc Try.prog W 0 (fun _ => true) true Try.f9.params.toList args.toList ds p := hA0
  rw [Try.params9] at hA hval
  obtain ⟨v0, vs0, d0, ds0, p0, q0, hargs, rfl, rfl, h0, r0⟩ := trodAll_cons hA
  obtain ⟨rfl, rfl, rfl⟩ := trodAll_nil r0
  obtain rfl : args = #[v0] := by cases args; simp_all
  obtain ⟨rfl, rfl⟩ := trodVars_none hV
  obtain ⟨a0, len0, cap0, rfl⟩ := okWide_slice Try.underlying22 (hval 0 22 v0 rfl rfl)
  have k0 := h0
  have lt0 : ∀ x ∈ p0, x.block < W.heap.size := by obtain ⟨m, hm⟩ := k0; exact DataW.trod_lt m _ _ _ hm
  have rows : Asks W a0 len0 cap0 := by obtain ⟨fuel, hf⟩ := h0; exact asks_of hf
  clear hA0 hval0
  refine (fixedDowns_walk a0 len0 cap0 W rows).mono fun e W' ⟨he, bel⟩ => ?_
  subst he
  exact ⟨_, rfl, _, _, _, [], _, [], hW', trodAll_mk1 (shut_bool Try.underlying4 _), (trodAll_cons_mk (Below.trod fixedDowns_laidOut (by kernel_rfl) (of_decide_eq_true (by kernel_rfl)) k0 bel lt0) trodAll_mk0), rfl, bel.frame _, fun h => by cases h⟩
theorem fixedDowns_over : Rows.fixedDownsRow.holds Try.pinned (OpenSpec.ofChange Rows.fixedDownsSpec) :=
  OpenClaim.holds_of_wide 9 Try.f9 rfl rfl rfl rfl rfl rfl rfl ⟨rfl, rfl, rfl, rfl, rfl⟩ rfl rfl rfl rfl rfl (by kernel_rfl) Try.func9 (by kernel_rfl)
    (of_decide_eq_true (by kernel_rfl)) (by unfold Func.isWrapper; first | (rw [if_pos (by decide +kernel)]; kernel_rfl) | (rw [if_neg (by decide +kernel)]; exact ⟨rfl, rfl⟩))
    (fun os started H enc _ => fixedDowns_lifted os started H enc)
/-- The given statement of FixedDowns. -/
theorem fixedDowns_holds : Rows.FixedDownsSaid := fixedDowns_over
end Go.Proofs.Ytdammgpflfoppaa
