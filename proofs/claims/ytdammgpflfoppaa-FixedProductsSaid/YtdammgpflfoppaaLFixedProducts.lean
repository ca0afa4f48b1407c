/- For every list, FixedProducts answers true and leaves its argument as it was: products of any numbers are the page's. No condition. -/
import Derived.Test.YtdammgpflfoppaaAsk
import Derived.Deep.QuietTactic
import Derived.BigQuiet
import Derived.Deep.RegionWith
import Derived.Deep.RegionHeld3
namespace Go.Proofs.Ytdammgpflfoppaa
open Go.ChangeShapes Go.WideShapes Go.ChangeAt Go.RowKit Go.Deep
set_option linter.unusedVariables false
set_option maxRecDepth 100000 in
set_option maxHeartbeats 800000 in
theorem fixedProducts_walk (a : Option Addr) (len cap : Nat) (w : World) (rows : Asks w a len cap) :
    Calls Try.prog 4 #[.slice a len cap] w fun e w' => e = .returned (.bool true) ∧ Below w.heap.size w w' := by
  obtain ⟨hl, hm, hall⟩ := rows
  have HALL := Fx.Hd.mk hall
  clear hall
  go_enter Try.func4, Try.ntmps4
  go_wp2
  go_loopw [3] (fun i  wr => ∃ (k : Nat), i = .int .i64 k ∧ k ≤ len ∧ k ≤ 30 ∧ Fx.Hd (Below w.heap.size w wr)) (fun i  _ => 30 - (intOf i).toNat)
  case atStart => exact ⟨0, rfl, by omega, by omega, ⟨Below.refl _ _⟩⟩
  case round =>
    obtain ⟨k, rfl, hk, hk2, HB⟩ := hrel
    by_cases hlt : k < len ∧ k < 30
    · obtain ⟨g1, g2⟩ := hlt
      obtain ⟨b, off, x, y, z, rfl, hbl, hx, hy, hz, c0, c1, c2⟩ := HALL.out k g1
      have d0 := (HB.out.cell (p := ⟨b, off + k * 3, none⟩) hbl).trans c0
      have d1 := (HB.out.cell (p := ⟨b, off + k * 3 + 1, none⟩) hbl).trans c1
      have d2 := (HB.out.cell (p := ⟨b, off + k * 3 + 2, none⟩) hbl).trans c2
      clear c0 c1 c2
      have eb : Below w.heap.size w wr := HB.out
      go_wp2
      go_region_held3 (fun w' => w'.cell? ⟨b, off + k * 3, none⟩ = some (.int .i64 x) ∧ w'.cell? ⟨b, off + k * 3 + 1, none⟩ = some (.int .i64 y) ∧ Below w.heap.size w w') (first | exact ⟨e0, e1, eb⟩ | exact ⟨d0, d1, Below.drew eb⟩ | go_keep)
        (first | (go_at_call 22; go_must (refine (held2 (x := .int .i64 x) (y := .int .i64 y) (b := b) (o1 := off + k * 3) (o2 := off + k * 3 + 1) (mul_any _ _ _ (by assumption) (by assumption)) ?_ hbl ?_ ?_).mono ?_); (first | assumption | exact eb.drew | (go_goals; fail)); (first | assumption | exact d0 | (go_goals; fail)); (first | assumption | exact d1 | (go_goals; fail)); rintro e w' ⟨rfl, e0, e1, eb⟩) | (go_at_call 23; go_must (refine (held2 (x := .int .i64 x) (y := .int .i64 y) (b := b) (o1 := off + k * 3) (o2 := off + k * 3 + 1) (rmul_any _ _ _ (by assumption) (by assumption)) ?_ hbl ?_ ?_).mono ?_); (first | assumption | exact eb.drew | (go_goals; fail)); (first | assumption | exact d0 | (go_goals; fail)); (first | assumption | exact d1 | (go_goals; fail)); rintro e w' ⟨rfl, e0, e1, eb⟩))
      go_wp2
      replace HB := Fx.Hd.mk eb
      refine ⟨⟨k + 1, by go_num, by omega, by omega, HB⟩, by simp [intOf]; omega⟩

    · go_wp2_with (go_at_call 21; refine (up (wakes1_any _) HB).mono ?_; clear HB; rintro e w' ⟨rfl, HB⟩)
      all_goals
        go_ret
        exact ⟨rfl, HB.out⟩

theorem fixedProducts_own : ownKnob Try.prog.godebug = none := by kernel_rfl
theorem fixedProducts_laidOut : laidOutB Try.prog = true := by kernel_rfl
set_option maxRecDepth 100000 in
theorem fixedProducts_lifted (os : Os) (started : os.Started) (H : Type) (enc : TypeId × Value → H) :
    ReturnsInHanded {} Try.checked os 4 .any (Rows.fixedProductsSpec.pre6 enc Try.prog Try.f4 Rows.fixedProductsRow.domain false) (Rows.fixedProductsSpec.post enc Try.prog Try.f4 false true false false) := by
  refine returnsInHanded_of_change (C := Try.checked) fixedProducts_own started (by kernel_rfl) Try.func4
    (ChangeSpec.witness6 (enc := enc) (C := Try.checked) false ⟨#[], #[.slice none 0 0], []⟩ 8 (by kernel_rfl) (by kernel_rfl) (by kernel_rfl) (by kernel_rfl)) ?_
  intro W base args ds gs before hval0 hW hcnd _
  have hval : ∀ (j : Nat) t v, Try.f4.params[j]? = some t → args[j]? = some v → Value.okWide Try.prog W .any base t v := hval0
  have hW' := hW
  obtain ⟨p, q, hA0, hV, rfl, hfz, hnd⟩ := hW
  have hA : DataW.TrodAll enc Try.prog W 0 (fun _ => true) true Try.f4.params.toList args.toList ds p := hA0
  rw [Try.params4] at hA hval
  obtain ⟨v0, vs0, d0, ds0, p0, q0, hargs, rfl, rfl, h0, r0⟩ := trodAll_cons hA
  obtain ⟨rfl, rfl, rfl⟩ := trodAll_nil r0
  obtain rfl : args = #[v0] := by cases args; simp_all
  obtain ⟨rfl, rfl⟩ := trodVars_none hV
  obtain ⟨a0, len0, cap0, rfl⟩ := okWide_slice Try.underlying22 (hval 0 22 v0 rfl rfl)
  have k0 := h0
  have lt0 : ∀ x ∈ p0, x.block < W.heap.size := by obtain ⟨m, hm⟩ := k0; exact DataW.trod_lt m _ _ _ hm
  have rows : Asks W a0 len0 cap0 := by obtain ⟨fuel, hf⟩ := h0; exact asks_of hf
  clear hA0 hval0
  refine (fixedProducts_walk a0 len0 cap0 W rows).mono fun e W' ⟨he, bel⟩ => ?_
  subst he
  exact ⟨_, rfl, _, _, _, [], _, [], hW', trodAll_mk1 (shut_bool Try.underlying4 _), (trodAll_cons_mk (Below.trod fixedProducts_laidOut (by kernel_rfl) (of_decide_eq_true (by kernel_rfl)) k0 bel lt0) trodAll_mk0), rfl, bel.frame _, fun h => by cases h⟩
theorem fixedProducts_over : Rows.fixedProductsRow.holds Try.pinned (OpenSpec.ofChange Rows.fixedProductsSpec) :=
  OpenClaim.holds_of_wide 4 Try.f4 rfl rfl rfl rfl rfl rfl rfl ⟨rfl, rfl, rfl, rfl, rfl⟩ rfl rfl rfl rfl rfl (by kernel_rfl) Try.func4 (by kernel_rfl)
    (of_decide_eq_true (by kernel_rfl)) (by unfold Func.isWrapper; first | (rw [if_pos (by decide +kernel)]; kernel_rfl) | (rw [if_neg (by decide +kernel)]; exact ⟨rfl, rfl⟩))
    (fun os started H enc _ => fixedProducts_lifted os started H enc)
/-- The given statement of FixedProducts. -/
theorem fixedProducts_holds : Rows.FixedProductsSaid := fixedProducts_over
end Go.Proofs.Ytdammgpflfoppaa
