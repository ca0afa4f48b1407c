/- For every list, FixedOrders answers true and leaves its argument as it was: orders are total and kept by sums; a product and a quotient by One are the number. No condition. -/
import Derived.Test.YtdammgpflfoppaaAsk
import Derived.Deep.QuietTactic
import Derived.BigQuiet
import Derived.Deep.RegionWith
import Derived.Deep.RegionHeld3
namespace Go.Proofs.Ytdammgpflfoppaa
open Go.ChangeShapes Go.WideShapes Go.ChangeAt Go.RowKit Go.Deep
set_option linter.unusedVariables false
set_option maxRecDepth 100000 in
set_option maxHeartbeats 1600000 in
theorem fixedOrders_walk (a : Option Addr) (len cap : Nat) (w : World) (rows : Asks w a len cap) :
    Calls Try.prog 7 #[.slice a len cap] w fun e w' => e = .returned (.bool true) ∧ Below w.heap.size w w' := by
  obtain ⟨hl, hm, hall⟩ := rows
  have HALL := Fx.Hd.mk hall
  clear hall
  go_enter Try.func7, Try.ntmps7
  go_wp2
  go_loopw [3, 4, 5, 6, 7] (fun i _ _ _ _ wr => ∃ (k : Nat), i = .int .i64 k ∧ k ≤ len ∧ k ≤ 30 ∧ Fx.Hd (Below w.heap.size w wr)) (fun i _ _ _ _ _ => 30 - (intOf i).toNat)
  case atStart => exact ⟨0, rfl, by omega, by omega, ⟨Below.refl _ _⟩⟩
  case round =>
    obtain ⟨k, rfl, hk, hk2, HB⟩ := hrel
    by_cases hlt : k < len ∧ k < 30
    · obtain ⟨g1, g2⟩ := hlt
      obtain ⟨b, off, x, y, z, rfl, hbl, hx, hy, hz, c0, c1, c2⟩ := HALL.out k g1
      have d0 := (HB.out.cell (p := ⟨b, off + k * 3, none⟩) hbl).trans c0
      have d1 := (HB.out.cell (p := ⟨b, off + k * 3 + 1, none⟩) hbl).trans c1
      have d2 := (HB.out.cell (p := ⟨b, off + k * 3 + 2, none⟩) hbl).trans c2
      clear c0 c1 c2
      go_wp2
      go_quiet (fail)
      rename_i nq
      replace HB : Fx.Hd (Below w.heap.size w (wr.drewN nq)) := ⟨below_drewN HB.out nq⟩
      have q1 := Fx.cmp_bd x y
      have q2 := Fx.cmp_bd y x
      have q3 := Fx.cmp_flip x y
      have q4 : Fx.cmpS x y ≤ -Fx.cmpS y x ∧ -Fx.cmpS y x ≤ Fx.cmpS x y := by omega
      have q5 : Fx.cmpS x x ≤ 0 ∧ 0 ≤ Fx.cmpS x x := by rw [Fx.cmp_self]; omega
      have q6 : Fx.cmpS (Fx.mulS x 65536) x ≤ 0 ∧ 0 ≤ Fx.cmpS (Fx.mulS x 65536) x := by rw [Fx.cmp_mul_one hx]; omega
      have q7 : Fx.cmpS (Fx.divS x 65536) x ≤ 0 ∧ 0 ≤ Fx.cmpS (Fx.divS x 65536) x := by rw [Fx.cmp_div_one hx]; omega
      have q8 : Fx.addS x y ≤ Fx.addS y x ∧ Fx.addS y x ≤ Fx.addS x y := by rw [Fx.add_comm x y]; omega
      have q9 : Fx.mulS x y ≤ Fx.mulS y x ∧ Fx.mulS y x ≤ Fx.mulS x y := by rw [Fx.mul_comm hx hy]; omega
      have i1 := Fx.add_i64 x z
      have i2 := Fx.add_i64 y z
      have i3 := Fx.neg_i64 hx
      have i4 := Fx.neg_i64 hy
      have i5 := Fx.mul_i64 hx Fx.one_i64
      have i6 := Fx.div_i64 hx Fx.one_i64
      have i7 := Fx.one_i64
      clear q3
      by_cases hn : Fx.cmpS x y ≤ 0
      · have n1 := Fx.add_le (c := z) (Fx.cmp_le.1 hn)
        have n2 := Fx.neg_ge hx hy (Fx.cmp_le.1 hn)
        go_wp2_with (first | (go_at_call 28; refine (cmp_any _ _ _ (by assumption) (by assumption)).mono ?_; rintro e w' ⟨rfl, rfl⟩) | (go_at_call 29; refine (rcmp_any _ _ _ (by assumption) (by assumption)).mono ?_; rintro e w' ⟨rfl, rfl⟩) | (go_at_call 15; refine (add_any _ _ _ (by assumption) (by assumption)).mono ?_; rintro e w' ⟨rfl, rfl⟩) | (go_at_call 19; refine (neg_any _ _ (by assumption)).mono ?_; rintro e w' ⟨rfl, rfl⟩) | (go_at_call 22; refine (up (mul_any _ _ _ (by assumption) (by assumption)) HB).mono ?_; clear HB; rintro e w' ⟨rfl, HB⟩) | (go_at_call 24; refine (up (div_any _ _ _ (by assumption) (by assumption)) HB).mono ?_; clear HB; rintro e w' ⟨rfl, HB⟩))
        refine ⟨⟨k + 1, by go_num, by omega, by omega, HB⟩, by simp [intOf]; omega⟩
      · go_wp2_with (first | (go_at_call 28; refine (cmp_any _ _ _ (by assumption) (by assumption)).mono ?_; rintro e w' ⟨rfl, rfl⟩) | (go_at_call 29; refine (rcmp_any _ _ _ (by assumption) (by assumption)).mono ?_; rintro e w' ⟨rfl, rfl⟩) | (go_at_call 15; refine (add_any _ _ _ (by assumption) (by assumption)).mono ?_; rintro e w' ⟨rfl, rfl⟩) | (go_at_call 19; refine (neg_any _ _ (by assumption)).mono ?_; rintro e w' ⟨rfl, rfl⟩) | (go_at_call 22; refine (up (mul_any _ _ _ (by assumption) (by assumption)) HB).mono ?_; clear HB; rintro e w' ⟨rfl, HB⟩) | (go_at_call 24; refine (up (div_any _ _ _ (by assumption) (by assumption)) HB).mono ?_; clear HB; rintro e w' ⟨rfl, HB⟩))
        refine ⟨⟨k + 1, by go_num, by omega, by omega, HB⟩, by simp [intOf]; omega⟩

    · go_wp2_with (go_at_call 21; refine (up (wakes1_any _) HB).mono ?_; clear HB; rintro e w' ⟨rfl, HB⟩)
      all_goals
        go_ret
        exact ⟨rfl, HB.out⟩

theorem fixedOrders_own : ownKnob Try.prog.godebug = none := by kernel_rfl
theorem fixedOrders_laidOut : laidOutB Try.prog = true := by kernel_rfl
set_option maxRecDepth 100000 in
theorem fixedOrders_lifted (os : Os) (started : os.Started) (H : Type) (enc : TypeId × Value → H) :
    ReturnsInHanded {} Try.checked os 7 .any (Rows.fixedOrdersSpec.pre6 enc Try.prog Try.f7 Rows.fixedOrdersRow.domain false) (Rows.fixedOrdersSpec.post enc Try.prog Try.f7 false true false false) := by
  refine returnsInHanded_of_change (C := Try.checked) fixedOrders_own started (by kernel_rfl) Try.func7
    (ChangeSpec.witness6 (enc := enc) (C := Try.checked) false ⟨#[], #[.slice none 0 0], []⟩ 8 (by kernel_rfl) (by kernel_rfl) (by kernel_rfl) (by kernel_rfl)) ?_
  intro W base args ds gs before hval0 hW hcnd _
  have hval : ∀ (j : Nat) t v, Try.f7.params[j]? = some t → args[j]? = some v → Value.okWide Try.prog W .any base t v := hval0
  have hW' := hW
  obtain ⟨p, q, hA0, hV, rfl, hfz, hnd⟩ := hW
  have hA : DataW.TrodAll enc Try.prog W 0 (fun _ => true) true Try.f7.params.toList args.toList ds p := hA0
  rw [Try.params7] at hA hval
  obtain ⟨v0, vs0, d0, ds0, p0, q0, hargs, rfl, rfl, h0, r0⟩ := trodAll_cons hA
  obtain ⟨rfl, rfl, rfl⟩ := trodAll_nil r0
  obtain rfl : args = #[v0] := by cases args; simp_all
  obtain ⟨rfl, rfl⟩ := trodVars_none hV
  obtain ⟨a0, len0, cap0, rfl⟩ := okWide_slice Try.underlying22 (hval 0 22 v0 rfl rfl)
  have k0 := h0
  have lt0 : ∀ x ∈ p0, x.block < W.heap.size := by obtain ⟨m, hm⟩ := k0; exact DataW.trod_lt m _ _ _ hm
  have rows : Asks W a0 len0 cap0 := by obtain ⟨fuel, hf⟩ := h0; exact asks_of hf
  clear hA0 hval0
  refine (fixedOrders_walk a0 len0 cap0 W rows).mono fun e W' ⟨he, bel⟩ => ?_
  subst he
  exact ⟨_, rfl, _, _, _, [], _, [], hW', trodAll_mk1 (shut_bool Try.underlying4 _), (trodAll_cons_mk (Below.trod fixedOrders_laidOut (by kernel_rfl) (of_decide_eq_true (by kernel_rfl)) k0 bel lt0) trodAll_mk0), rfl, bel.frame _, fun h => by cases h⟩
theorem fixedOrders_over : Rows.fixedOrdersRow.holds Try.pinned (OpenSpec.ofChange Rows.fixedOrdersSpec) :=
  OpenClaim.holds_of_wide 7 Try.f7 rfl rfl rfl rfl rfl rfl rfl ⟨rfl, rfl, rfl, rfl, rfl⟩ rfl rfl rfl rfl rfl (by kernel_rfl) Try.func7 (by kernel_rfl)
    (of_decide_eq_true (by kernel_rfl)) (by unfold Func.isWrapper; first | (rw [if_pos (by decide +kernel)]; kernel_rfl) | (rw [if_neg (by decide +kernel)]; exact ⟨rfl, rfl⟩))
    (fun os started H enc _ => fixedOrders_lifted os started H enc)
/-- The given statement of FixedOrders. -/
theorem fixedOrders_holds : Rows.FixedOrdersSaid := fixedOrders_over
end Go.Proofs.Ytdammgpflfoppaa
