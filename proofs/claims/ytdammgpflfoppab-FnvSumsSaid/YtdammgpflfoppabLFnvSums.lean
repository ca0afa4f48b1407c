/- For every list, FnvSums answers true and leaves its argument as it was: sums of any bytes, behind any sum, are the page's. No condition. -/
import Derived.Test.YtdammgpflfoppabAsk3
import Derived.Test.YtdammgpflfoppabFnva
import Derived.Deep.QuietTactic
import Derived.BigQuiet
import Derived.Deep.RegionWith
import Derived.Deep.RegionHeld3
namespace Go.Proofs.Ytdammgpflfoppab
open Go.ChangeShapes Go.WideShapes Go.ChangeAt Go.RowKit Go.Deep
set_option linter.unusedVariables false
set_option maxRecDepth 100000 in
set_option maxHeartbeats 800000 in
theorem fnvSums_walk (a : Option Addr) (len cap : Nat) (w : World) (rows : Asks3 w a len cap) :
    Calls Try.prog 9 #[.slice a len cap] w fun e w' => e = .returned (.bool true) ∧ Below w.heap.size w w' := by
  obtain ⟨hl, hm, hall⟩ := rows
  have HALL := Hk.mk hall
  clear hall
  go_enter Try.func9, Try.ntmps9
  go_wp2
  go_loopw [3] (fun i  wr => ∃ (k : Nat), i = .int .i64 k ∧ k ≤ len ∧ k ≤ 20 ∧ Hk (Below w.heap.size w wr)) (fun i  _ => 20 - (intOf i).toNat)
  case atStart => exact ⟨0, rfl, by omega, by omega, ⟨Below.refl _ _⟩⟩
  case round =>
    obtain ⟨k, rfl, hk, hk2, HB⟩ := hrel
    by_cases hlt : k < len ∧ k < 20
    · obtain ⟨g1, g2⟩ := hlt
      obtain ⟨b, off, s, ab, nb, cb, xs, z, rfl, hbl, hs, hnb, hcb, hby, hz, c0, c1, c2⟩ := HALL.out k g1
      have d0 := (HB.out.cell (p := ⟨b, off + k * 3, none⟩) hbl).trans c0
      have d1 := (HB.out.cell (p := ⟨b, off + k * 3 + 1, none⟩) hbl).trans c1
      have d2 := (HB.out.cell (p := ⟨b, off + k * 3 + 2, none⟩) hbl).trans c2
      have HY := Hk.mk (hby.below HB.out (Nat.le_refl _))
      have hsz := HB.out.size
      clear hby c0 c1 c2
      by_cases hgr : nb ≤ 5000
      · have i1 : (nb : Int) ≤ 5000 := by omega
        go_wp2_with (first | (go_at_call 28; (with_reducible refine (copy_any _ nb _ xs wr (HY.out.mono hsz) (by omega)).mono ?_); rintro e w1 ⟨v, rfl, hown, hb⟩))
        obtain ⟨a1, c1, rfl, hc1, hy1, hfr⟩ := hown.by_
        have HY1 := Hk.mk hy1
        have HX1 := Hk.mk ((HY.out.below hb hsz).mono (Nat.le_trans hsz hb.size))
        have e0 := (hb.cell (p := ⟨b, off + k * 3, none⟩) (Nat.lt_of_lt_of_le hbl hsz)).trans d0
        have e1 := (hb.cell (p := ⟨b, off + k * 3 + 1, none⟩) (Nat.lt_of_lt_of_le hbl hsz)).trans d1
        have HB1 := Hk.mk (HB.out.trans (hb.mono hsz))
        clear hown hy1 hfr hb HB HY d0 d1 d2
        go_wp2
        go_quiet ((first | (go_at_call 29; exact Calls.quiet_of (sum_q _ _ nb _ xs _ (HY1.out.drewN _) (by omega))) | (go_at_call 30; exact Calls.quiet_of (rsum_q _ _ nb _ xs _ (HX1.out.drewN _) (by omega))) | (go_at_call 31; exact Calls.quiet_of (eqb_yes _ _ nb _ _ xs _ (HY1.out.drewN _) (HX1.out.drewN _) (by omega)))))
        go_wp2
        go_roundw
        case rel => exact ⟨k + 1, by go_num, by omega, by omega, ⟨below_drewN HB1.out _⟩⟩
        case measure => simp [intOf]; omega
      · have i1 : (5000 : Int) < (nb : Int) := by omega
        go_wp2
        go_ret
        exact ⟨rfl, HB.out⟩
    · go_wp2_with (first | (go_at_call 32; (with_reducible refine (start_any _).mono ?_); rintro e w' ⟨rfl, rfl⟩) | (go_at_call 33; (with_reducible refine (wakes3_any _).mono ?_); rintro e w' ⟨rfl, hb⟩))
      all_goals
        go_ret
        exact ⟨rfl, HB.out.trans (hb.mono HB.out.size)⟩

theorem fnvSums_own : ownKnob Try.prog.godebug = none := by kernel_rfl
theorem fnvSums_laidOut : laidOutB Try.prog = true := by kernel_rfl
set_option maxRecDepth 100000 in
theorem fnvSums_lifted (os : Os) (started : os.Started) (H : Type) (enc : TypeId × Value → H) :
    ReturnsInHanded {} Try.checked os 9 .any (Rows.fnvSumsSpec.pre6 enc Try.prog Try.f9 Rows.fnvSumsRow.domain false) (Rows.fnvSumsSpec.post enc Try.prog Try.f9 false true false false) := by
  refine returnsInHanded_of_change (C := Try.checked) fnvSums_own started (by kernel_rfl) Try.func9
    (ChangeSpec.witness6 (enc := enc) (C := Try.checked) false ⟨#[], #[.slice none 0 0], []⟩ 8 (by kernel_rfl) (by kernel_rfl) (by kernel_rfl) (by kernel_rfl)) ?_
  intro W base args ds gs before hval0 hW hcnd _
  have hval : ∀ (j : Nat) t v, Try.f9.params[j]? = some t → args[j]? = some v → Value.okWide Try.prog W .any base t v := hval0
  have hW' := hW
  obtain ⟨p, q, hA0, hV, rfl, hfz, hnd⟩ := hW
  have hA : DataW.TrodAll enc Try.prog W 0 (fun _ => true) true Try.f9.params.toList args.toList ds p := hA0
  rw [Try.params9] at hA hval
  obtain ⟨v0, vs0, d0, ds0, p0, q0, hargs, rfl, rfl, h0, r0⟩ := trodAll_cons hA
  obtain ⟨rfl, rfl, rfl⟩ := trodAll_nil r0
  obtain rfl : args = #[v0] := by cases args; simp_all
  obtain ⟨rfl, rfl⟩ := trodVars_none hV
  obtain ⟨a0, len0, cap0, rfl⟩ := okWide_slice Try.underlying37 (hval 0 37 v0 rfl rfl)
  have k0 := h0
  have lt0 : ∀ x ∈ p0, x.block < W.heap.size := by obtain ⟨m, hm⟩ := k0; exact DataW.trod_lt m _ _ _ hm
  have rows : Asks3 W a0 len0 cap0 := by obtain ⟨fuel, hf⟩ := h0; exact asks3_of hf
  clear hA0 hval0
  refine (fnvSums_walk a0 len0 cap0 W rows).mono fun e W' ⟨he, bel⟩ => ?_
  subst he
  exact ⟨_, rfl, _, _, _, [], _, [], hW', trodAll_mk1 (shut_bool Try.underlying4 _), (trodAll_cons_mk (Below.trod fnvSums_laidOut (by kernel_rfl) (of_decide_eq_true (by kernel_rfl)) k0 bel lt0) trodAll_mk0), rfl, bel.frame _, fun h => by cases h⟩
theorem fnvSums_over : Rows.fnvSumsRow.holds Try.pinned (OpenSpec.ofChange Rows.fnvSumsSpec) :=
  OpenClaim.holds_of_wide 9 Try.f9 rfl rfl rfl rfl rfl rfl rfl ⟨rfl, rfl, rfl, rfl, rfl⟩ rfl rfl rfl rfl rfl (by kernel_rfl) Try.func9 (by kernel_rfl)
    (of_decide_eq_true (by kernel_rfl)) (by unfold Func.isWrapper; first | (rw [if_pos (by decide +kernel)]; kernel_rfl) | (rw [if_neg (by decide +kernel)]; exact ⟨rfl, rfl⟩))
    (fun os started H enc _ => fnvSums_lifted os started H enc)
/-- The given statement of FnvSums. -/
theorem fnvSums_holds : Rows.FnvSumsSaid := fnvSums_over
end Go.Proofs.Ytdammgpflfoppab
