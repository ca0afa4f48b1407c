/- For every list, FixedBounds answers true and leaves its argument as it was: nothing is ever beyond the bounds. No condition. -/
import Derived.Test.YtdammgpflfoppaaAsk
import Derived.Deep.QuietTactic
import Derived.BigQuiet
import Derived.Deep.RegionWith
import Derived.Deep.RegionHeld3
namespace Go.Proofs.Ytdammgpflfoppaa
open Go.ChangeShapes Go.WideShapes Go.ChangeAt Go.RowKit Go.Deep
set_option linter.unusedVariables false
set_option maxRecDepth 100000 in
set_option maxHeartbeats 800000 in
theorem fixedBounds_walk (a : Option Addr) (len cap : Nat) (w : World) (rows : Asks w a len cap) :
    Calls Try.prog 8 #[.slice a len cap] w fun e w' => e = .returned (.bool true) ∧ Below w.heap.size w w' := by
  obtain ⟨hl, hm, hall⟩ := rows
  have HALL := Fx.Hd.mk hall
  clear hall
  go_enter Try.func8, Try.ntmps8
  go_wp2
  go_loopw [3, 4, 5, 6, 7] (fun i _ _ _ _ wr => ∃ (k : Nat), i = .int .i64 k ∧ k ≤ len ∧ k ≤ 30 ∧ Fx.Hd (Below w.heap.size w wr)) (fun i _ _ _ _ _ => 30 - (intOf i).toNat)
  case atStart => exact ⟨0, rfl, by omega, by omega, ⟨Below.refl _ _⟩⟩
  case round =>
    obtain ⟨k, rfl, hk, hk2, HB⟩ := hrel
    by_cases hlt : k < len ∧ k < 30
    · obtain ⟨g1, g2⟩ := hlt
      obtain ⟨b, off, x, y, z, rfl, hbl, hx, hy, hz, c0, c1, c2⟩ := HALL.out k g1
      have d0 := (HB.out.cell (p := ⟨b, off + k * 3, none⟩) hbl).trans c0
      have d1 := (HB.out.cell (p := ⟨b, off + k * 3 + 1, none⟩) hbl).trans c1
      have d2 := (HB.out.cell (p := ⟨b, off + k * 3 + 2, none⟩) hbl).trans c2
      clear c0 c1 c2
      go_wp2
      go_quiet (fail)
      rename_i nq
      replace HB : Fx.Hd (Below w.heap.size w (wr.drewN nq)) := ⟨below_drewN HB.out nq⟩
      have i1 := (Fx.clamp_bd (Fx.cnt x + Fx.cnt y)).1
      have i2 := (Fx.clamp_bd (Fx.cnt x + Fx.cnt (Fx.negS y))).1
      have e1 : -9223372036854775807 ≤ Fx.addS x y := i1
      have e2 : -9223372036854775807 ≤ Fx.subS x y := i2
      have e3 : -9223372036854775807 ≤ Fx.negS x := by have := Fx.cnt_bd hx; unfold Fx.negS; omega
      have e4 : -9223372036854775807 ≤ Fx.mulS x y := by rw [Fx.mulS_floor hx hy]; exact (Fx.clamp_bd _).1
      have e5 : -9223372036854775807 ≤ Fx.divS x y := (Fx.div_bd hx hy).1
      have e6 : -9223372036854775807 ≤ Fx.sqrtS x := by have := Fx.sqrtS_bd hx; omega
      clear i1 i2
      go_wp2_with (first | (go_at_call 15; refine (add_any _ _ _ (by assumption) (by assumption)).mono ?_; rintro e w' ⟨rfl, rfl⟩) | (go_at_call 17; refine (sub_any _ _ _ (by assumption) (by assumption)).mono ?_; rintro e w' ⟨rfl, rfl⟩) | (go_at_call 19; refine (neg_any _ _ (by assumption)).mono ?_; rintro e w' ⟨rfl, rfl⟩) | (go_at_call 22; refine (up (mul_any _ _ _ (by assumption) (by assumption)) HB).mono ?_; clear HB; rintro e w' ⟨rfl, HB⟩) | (go_at_call 24; refine (up (div_any _ _ _ (by assumption) (by assumption)) HB).mono ?_; clear HB; rintro e w' ⟨rfl, HB⟩) | (go_at_call 26; refine (up (sqrt_any _ _ (by assumption)) HB).mono ?_; clear HB; rintro e w' ⟨rfl, HB⟩))
      refine wp_loop_rounds 7 ?_
      repeat any_goals (rw [rounds_succ]; go_wp2)
      refine ⟨⟨k + 1, by go_num, by omega, by omega, ⟨HB.out.alloc HB.out.size _⟩⟩, by simp [intOf]; omega⟩

    · go_wp2_with (first | (go_at_call 15; (with_reducible refine (k_add _).mono ?_); rintro e w' ⟨rfl, rfl⟩) | (go_at_call 17; (with_reducible refine (k_sub _).mono ?_); rintro e w' ⟨rfl, rfl⟩) | (go_at_call 19; (with_reducible refine (k_neg _).mono ?_); rintro e w' ⟨rfl, rfl⟩) | (go_at_call 22; (with_reducible refine (up (k_mul1 _) HB).mono ?_); clear HB; rintro e w' ⟨rfl, HB⟩) | (go_at_call 22; (with_reducible refine (up (k_mul2 _) HB).mono ?_); clear HB; rintro e w' ⟨rfl, HB⟩) | (go_at_call 24; (with_reducible refine (up (k_div1 _) HB).mono ?_); clear HB; rintro e w' ⟨rfl, HB⟩) | (go_at_call 24; (with_reducible refine (up (k_div2 _) HB).mono ?_); clear HB; rintro e w' ⟨rfl, HB⟩) | (go_at_call 24; (with_reducible refine (up (k_div3 _) HB).mono ?_); clear HB; rintro e w' ⟨rfl, HB⟩) | (go_at_call 24; (with_reducible refine (up (k_div4 _) HB).mono ?_); clear HB; rintro e w' ⟨rfl, HB⟩) | (go_at_call 28; (with_reducible refine (k_cmp _).mono ?_); rintro e w' ⟨rfl, rfl⟩) | (go_at_call 21; refine (up (wakes1_any _) HB).mono ?_; clear HB; rintro e w' ⟨rfl, HB⟩))
      all_goals
        go_ret
        exact ⟨rfl, HB.out⟩

theorem fixedBounds_own : ownKnob Try.prog.godebug = none := by kernel_rfl
theorem fixedBounds_laidOut : laidOutB Try.prog = true := by kernel_rfl
set_option maxRecDepth 100000 in
theorem fixedBounds_lifted (os : Os) (started : os.Started) (H : Type) (enc : TypeId × Value → H) :
    ReturnsInHanded {} Try.checked os 8 .any (Rows.fixedBoundsSpec.pre6 enc Try.prog Try.f8 Rows.fixedBoundsRow.domain false) (Rows.fixedBoundsSpec.post enc Try.prog Try.f8 false true false false) := by
  refine returnsInHanded_of_change (C := Try.checked) fixedBounds_own started (by kernel_rfl) Try.func8
    (ChangeSpec.witness6 (enc := enc) (C := Try.checked) false ⟨#[], #[.slice none 0 0], []⟩ 8 (by kernel_rfl) (by kernel_rfl) (by kernel_rfl) (by kernel_rfl)) ?_
  intro W base args ds gs before hval0 hW hcnd _
  have hval : ∀ (j : Nat) t v, Try.f8.params[j]? = some t → args[j]? = some v → Value.okWide Try.prog W .any base t v := hval0
  have hW' := hW
  obtain ⟨p, q, hA0, hV, rfl, hfz, hnd⟩ := hW
  have hA : DataW.TrodAll enc Try.prog W 0 (fun _ => true) true Try.f8.params.toList args.toList ds p := hA0
  rw [Try.params8] at hA hval
  obtain ⟨v0, vs0, d0, ds0, p0, q0, hargs, rfl, rfl, h0, r0⟩ := trodAll_cons hA
  obtain ⟨rfl, rfl, rfl⟩ := trodAll_nil r0
  obtain rfl : args = #[v0] := by cases args; simp_all
  obtain ⟨rfl, rfl⟩ := trodVars_none hV
  obtain ⟨a0, len0, cap0, rfl⟩ := okWide_slice Try.underlying22 (hval 0 22 v0 rfl rfl)
  have k0 := h0
  have lt0 : ∀ x ∈ p0, x.block < W.heap.size := by obtain ⟨m, hm⟩ := k0; exact DataW.trod_lt m _ _ _ hm
  have rows : Asks W a0 len0 cap0 := by obtain ⟨fuel, hf⟩ := h0; exact asks_of hf
  clear hA0 hval0
  refine (fixedBounds_walk a0 len0 cap0 W rows).mono fun e W' ⟨he, bel⟩ => ?_
  subst he
  exact ⟨_, rfl, _, _, _, [], _, [], hW', trodAll_mk1 (shut_bool Try.underlying4 _), (trodAll_cons_mk (Below.trod fixedBounds_laidOut (by kernel_rfl) (of_decide_eq_true (by kernel_rfl)) k0 bel lt0) trodAll_mk0), rfl, bel.frame _, fun h => by cases h⟩
theorem fixedBounds_over : Rows.fixedBoundsRow.holds Try.pinned (OpenSpec.ofChange Rows.fixedBoundsSpec) :=
  OpenClaim.holds_of_wide 8 Try.f8 rfl rfl rfl rfl rfl rfl rfl ⟨rfl, rfl, rfl, rfl, rfl⟩ rfl rfl rfl rfl rfl (by kernel_rfl) Try.func8 (by kernel_rfl)
    (of_decide_eq_true (by kernel_rfl)) (by unfold Func.isWrapper; first | (rw [if_pos (by decide +kernel)]; kernel_rfl) | (rw [if_neg (by decide +kernel)]; exact ⟨rfl, rfl⟩))
    (fun os started H enc _ => fixedBounds_lifted os started H enc)
/-- The given statement of FixedBounds. -/
theorem fixedBounds_holds : Rows.FixedBoundsSaid := fixedBounds_over
end Go.Proofs.Ytdammgpflfoppaa
