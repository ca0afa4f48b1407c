/- For every list, FixedRoots answers true and leaves its argument as it was: the root of any number is the page's, and the greatest one. No condition. -/
import Derived.Test.YtdammgpflfoppaaAsk
import Derived.Deep.QuietTactic
import Derived.BigQuiet
import Derived.Deep.RegionWith
import Derived.Deep.RegionHeld3
namespace Go.Proofs.Ytdammgpflfoppaa
open Go.ChangeShapes Go.WideShapes Go.ChangeAt Go.RowKit Go.Deep
set_option linter.unusedVariables false
set_option maxRecDepth 100000 in
set_option maxHeartbeats 800000 in
theorem fixedRoots_walk (a : Option Addr) (len cap : Nat) (w : World) (rows : Asks w a len cap) :
    Calls Try.prog 6 #[.slice a len cap] w fun e w' => e = .returned (.bool true) ∧ Below w.heap.size w w' := by
  obtain ⟨hl, hm, hall⟩ := rows
  have HALL := Fx.Hd.mk hall
  clear hall
  go_enter Try.func6, Try.ntmps6
  go_wp2
  go_loopw [3, 4, 5] (fun i _ _ wr => ∃ (k : Nat), i = .int .i64 k ∧ k ≤ len ∧ k ≤ 30 ∧ Fx.Hd (Below w.heap.size w wr)) (fun i _ _ _ => 30 - (intOf i).toNat)
  case atStart => exact ⟨0, rfl, by omega, by omega, ⟨Below.refl _ _⟩⟩
  case round =>
    obtain ⟨k, rfl, hk, hk2, HB⟩ := hrel
    by_cases hlt : k < len ∧ k < 30
    · obtain ⟨g1, g2⟩ := hlt
      obtain ⟨b, off, x, y, z, rfl, hbl, hx, hy, hz, c0, c1, c2⟩ := HALL.out k g1
      have d0 := (HB.out.cell (p := ⟨b, off + k * 3, none⟩) hbl).trans c0
      have d1 := (HB.out.cell (p := ⟨b, off + k * 3 + 1, none⟩) hbl).trans c1
      have d2 := (HB.out.cell (p := ⟨b, off + k * 3 + 2, none⟩) hbl).trans c2
      clear c0 c1 c2
      have hS := Fx.sqrtS_bd hx
      have hR := Fx.Hd.mk (Fx.sqrtS_root x)
      by_cases hx0 : x ≤ 0
      · have hz0 : (Fx.sqrtS x == 0) = true := by rw [Fx.sqrt_low hx0]; rfl
        have hz1 : (Fx.sqrtS x != 0) = false := by rw [Fx.sqrt_low hx0]; rfl
        go_wp2_with (first | (go_at_call 26; refine (up (sqrt_any _ _ (by assumption)) HB).mono ?_; clear HB; rintro e w' ⟨rfl, HB⟩) | (go_at_call 27; refine (up (rsqrt_any _ _ (by assumption)) HB).mono ?_; clear HB; rintro e w' ⟨rfl, HB⟩))
        refine ⟨⟨k + 1, by go_num, by omega, by omega, HB⟩, by simp [intOf]; omega⟩
      · by_cases hx1 : x < 70368744177664
        · have hu : Fx.under x = x * 65536 := by unfold Fx.under; rw [if_neg (by omega)]
          have r1 := hR.out.lo
          have r2 := hR.out.hi
          rw [hu] at r1 r2
          have r3 : 0 ≤ Fx.sqrtS x * Fx.sqrtS x := Int.mul_nonneg hS.1 hS.1
          have r4 : (Fx.sqrtS x + 1) * (Fx.sqrtS x + 1) = Fx.sqrtS x * Fx.sqrtS x + 2 * Fx.sqrtS x + 1 := by rw [Int.add_mul, Int.mul_add]; omega
          have r5 : 0 ≤ (Fx.sqrtS x + 1) * (Fx.sqrtS x + 1) ∧ (Fx.sqrtS x + 1) * (Fx.sqrtS x + 1) ≤ 9223372036854775807 := by omega
          clear hu r4
          go_wp2_with (first | (go_at_call 26; refine (up (sqrt_any _ _ (by assumption)) HB).mono ?_; clear HB; rintro e w' ⟨rfl, HB⟩) | (go_at_call 27; refine (up (rsqrt_any _ _ (by assumption)) HB).mono ?_; clear HB; rintro e w' ⟨rfl, HB⟩))
          refine ⟨⟨k + 1, by go_num, by omega, by omega, HB⟩, by simp [intOf]; omega⟩
        · go_wp2_with (first | (go_at_call 26; refine (up (sqrt_any _ _ (by assumption)) HB).mono ?_; clear HB; rintro e w' ⟨rfl, HB⟩) | (go_at_call 27; refine (up (rsqrt_any _ _ (by assumption)) HB).mono ?_; clear HB; rintro e w' ⟨rfl, HB⟩))
          refine ⟨⟨k + 1, by go_num, by omega, by omega, HB⟩, by simp [intOf]; omega⟩

    · go_wp2_with (go_at_call 21; refine (up (wakes1_any _) HB).mono ?_; clear HB; rintro e w' ⟨rfl, HB⟩)
      all_goals
        go_ret
        exact ⟨rfl, HB.out⟩

theorem fixedRoots_own : ownKnob Try.prog.godebug = none := by kernel_rfl
theorem fixedRoots_laidOut : laidOutB Try.prog = true := by kernel_rfl
set_option maxRecDepth 100000 in
theorem fixedRoots_lifted (os : Os) (started : os.Started) (H : Type) (enc : TypeId × Value → H) :
    ReturnsInHanded {} Try.checked os 6 .any (Rows.fixedRootsSpec.pre6 enc Try.prog Try.f6 Rows.fixedRootsRow.domain false) (Rows.fixedRootsSpec.post enc Try.prog Try.f6 false true false false) := by
  refine returnsInHanded_of_change (C := Try.checked) fixedRoots_own started (by kernel_rfl) Try.func6
    (ChangeSpec.witness6 (enc := enc) (C := Try.checked) false ⟨#[], #[.slice none 0 0], []⟩ 8 (by kernel_rfl) (by kernel_rfl) (by kernel_rfl) (by kernel_rfl)) ?_
  intro W base args ds gs before hval0 hW hcnd _
  have hval : ∀ (j : Nat) t v, Try.f6.params[j]? = some t → args[j]? = some v → Value.okWide Try.prog W .any base t v := hval0
  have hW' := hW
  obtain ⟨p, q, hA0, hV, rfl, hfz, hnd⟩ := hW
  have hA : DataW.TrodAll enc Try.prog W 0 (fun _ => true) true Try.f6.params.toList args.toList ds p := hA0
  rw [Try.params6] at hA hval
  obtain ⟨v0, vs0, d0, ds0, p0, q0, hargs, rfl, rfl, h0, r0⟩ := trodAll_cons hA
  obtain ⟨rfl, rfl, rfl⟩ := trodAll_nil r0
  obtain rfl : args = #[v0] := by cases args; simp_all
  obtain ⟨rfl, rfl⟩ := trodVars_none hV
  obtain ⟨a0, len0, cap0, rfl⟩ := okWide_slice Try.underlying22 (hval 0 22 v0 rfl rfl)
  have k0 := h0
  have lt0 : ∀ x ∈ p0, x.block < W.heap.size := by obtain ⟨m, hm⟩ := k0; exact DataW.trod_lt m _ _ _ hm
  have rows : Asks W a0 len0 cap0 := by obtain ⟨fuel, hf⟩ := h0; exact asks_of hf
  clear hA0 hval0
  refine (fixedRoots_walk a0 len0 cap0 W rows).mono fun e W' ⟨he, bel⟩ => ?_
  subst he
  exact ⟨_, rfl, _, _, _, [], _, [], hW', trodAll_mk1 (shut_bool Try.underlying4 _), (trodAll_cons_mk (Below.trod fixedRoots_laidOut (by kernel_rfl) (of_decide_eq_true (by kernel_rfl)) k0 bel lt0) trodAll_mk0), rfl, bel.frame _, fun h => by cases h⟩
theorem fixedRoots_over : Rows.fixedRootsRow.holds Try.pinned (OpenSpec.ofChange Rows.fixedRootsSpec) :=
  OpenClaim.holds_of_wide 6 Try.f6 rfl rfl rfl rfl rfl rfl rfl ⟨rfl, rfl, rfl, rfl, rfl⟩ rfl rfl rfl rfl rfl (by kernel_rfl) Try.func6 (by kernel_rfl)
    (of_decide_eq_true (by kernel_rfl)) (by unfold Func.isWrapper; first | (rw [if_pos (by decide +kernel)]; kernel_rfl) | (rw [if_neg (by decide +kernel)]; exact ⟨rfl, rfl⟩))
    (fun os started H enc _ => fixedRoots_lifted os started H enc)
/-- The given statement of FixedRoots. -/
theorem fixedRoots_holds : Rows.FixedRootsSaid := fixedRoots_over
end Go.Proofs.Ytdammgpflfoppaa
