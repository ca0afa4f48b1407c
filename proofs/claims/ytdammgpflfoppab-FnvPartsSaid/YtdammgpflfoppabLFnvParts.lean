/- For every list, FnvParts answers true and leaves its argument as it was: of two parts the second one's sum, behind the first one's, is that of both; one byte changed changes it. No condition. -/
import Derived.Test.YtdammgpflfoppabAsk3
import Derived.Test.YtdammgpflfoppabFnvb
import Derived.Deep.QuietTactic
import Derived.BigQuiet
import Derived.Deep.RegionWith
import Derived.Deep.RegionHeld3
namespace Go.Proofs.Ytdammgpflfoppab
open Go.ChangeShapes Go.WideShapes Go.ChangeAt Go.RowKit Go.Deep
set_option linter.unusedVariables false
set_option maxRecDepth 100000 in
set_option maxHeartbeats 1600000 in
theorem fnvParts_walk (a : Option Addr) (len cap : Nat) (w : World) (rows : Asks3 w a len cap) :
    Calls Try.prog 10 #[.slice a len cap] w fun e w' => e = .returned (.bool true) ∧ Below w.heap.size w w' := by
  obtain ⟨hl, hm, hall⟩ := rows
  have HALL := Hk.mk hall
  clear hall
  go_enter Try.func10, Try.ntmps10
  go_wp2
  go_loopw [3] (fun i  wr => ∃ (k : Nat), i = .int .i64 k ∧ k ≤ len ∧ k ≤ 20 ∧ Hk (Below w.heap.size w wr)) (fun i  _ => 20 - (intOf i).toNat)
  case atStart => exact ⟨0, rfl, by omega, by omega, ⟨Below.refl _ _⟩⟩
  case round =>
    obtain ⟨k, rfl, hk, hk2, HB⟩ := hrel
    by_cases hlt : k < len ∧ k < 20
    · obtain ⟨g1, g2⟩ := hlt
      obtain ⟨b, off, s, ab, nb, cb, xs, z, rfl, hbl, hs, hnb, hcb, hby, hz, c0, c1, c2⟩ := HALL.out k g1
      have d0 := (HB.out.cell (p := ⟨b, off + k * 3, none⟩) hbl).trans c0
      have d1 := (HB.out.cell (p := ⟨b, off + k * 3 + 1, none⟩) hbl).trans c1
      have d2 := (HB.out.cell (p := ⟨b, off + k * 3 + 2, none⟩) hbl).trans c2
      have HY := Hk.mk (hby.below HB.out (Nat.le_refl _))
      have hsz := HB.out.size
      clear hby c0 c1 c2
      by_cases hgr : 1 ≤ nb ∧ nb ≤ 5000
      · obtain ⟨hn1, hn5⟩ := hgr
        have i1 : (nb : Int) ≤ 5000 := by omega
        have i2 : ((nb : Int) == 0) = false := by simp; omega
        have i3 : decide ((5000 : Int) < (nb : Int)) = false := by simp; omega
        obtain ⟨bb, off2, rfl, hbb, -⟩ := HY.out.at_ hn1
        obtain ⟨K, hK⟩ : ∃ K : Nat, Fn.wiS z ((nb : Int) + 1) = (K : Int) := Int.eq_ofNat_of_zero_le (Fn.wi_bd z (by omega)).1
        have hKn : K ≤ nb := by have := (Fn.wi_bd z (n := (nb : Int) + 1) (by omega)).2; omega
        have W1 := Hk.mk hK
        clear hK
        go_wp2_with (first | (go_at_call 34; (with_reducible refine (within_as z ((nb : Int) + 1) K _ hz (by omega) (by omega) W1).mono ?_); rintro e w1 ⟨rfl, m1, rfl⟩; have HY1 := Hk.mk (HY.out.drewN m1)) | (go_at_call 29; (with_reducible refine (sum_q s _ nb _ xs _ (HY1.out.mono (by simpa using hsz)) (by omega)).mono ?_); rintro e w2 ⟨rfl, m2, rfl⟩))
        have d0' : (wr.drewN (m1 + m2)).cell? ⟨b, off + k * 3, none⟩ = some (.int .u64 s) := d0
        have d1' : (wr.drewN (m1 + m2)).cell? ⟨b, off + k * 3 + 1, none⟩ = some (.slice (some ⟨bb, off2, none⟩) nb cb) := d1
        have d2' : (wr.drewN (m1 + m2)).cell? ⟨b, off + k * 3 + 2, none⟩ = some (.int .i64 z) := d2
        have HY2 := Hk.mk ((HY.out.drewN (m1 + m2)).mono (B' := (wr.drewN (m1 + m2)).heap.size) hsz)
        have HB2 := Hk.mk (below_drewN HB.out (m1 + m2))
        clear d0 d1 d2 HY HY1 HB hsz
        generalize wr.drewN (m1 + m2) = w3 at *
        have hsz := HB2.out.size
        have HT1 := Hk.mk (HY2.out.head hKn)
        have HT2 := Hk.mk (HY2.out.cut hKn hnb)
        have hcat : Fn.sumS (Fn.sumS s (xs.take K)) (xs.drop K) = Fn.sumS s xs := by rw [← Fn.sum_append, List.take_append_drop]
        generalize hSA : Fn.sumS s xs = SA at *
        generalize hS1 : Fn.sumS s (xs.take K) = S1 at *
        have HS1 := Hk.mk hcat
        have HR1 := Hk.mk hS1
        have HSA := Hk.mk hSA
        clear hcat hS1 hSA
        have HS0 := Hk.mk (show Fn.sumS s [] = s from rfl)
        have j1 : (0 : Int) ≤ (K : Int) := by omega
        have j2 : (K : Int) ≤ (nb : Int) := by omega
        have j3 : (K : Int) ≤ (cb : Int) := by omega
        have j4 : (nb : Int) ≤ (cb : Int) := by omega
        go_quiet ((first | (go_at_call_of 29 (Value.slice (some ⟨bb, off2, none⟩) K cb); exact Calls.quiet_of (sum_as s _ K _ (xs.take K) S1 _ (HT1.out.drewN _) (by omega) HR1)) | (go_at_call_of 29 (Value.int IntKind.u64 S1); exact Calls.quiet_of (sum_as S1 _ (nb - K) _ (xs.drop K) SA _ (HT2.out.drewN _) (by omega) HS1)) | (go_at_call_of 29 (none : Option Addr); exact Calls.quiet_of (sum_as s _ 0 _ [] s _ (By.nil _ _ _) (by omega) HS0)) | (trace_state; fail)))
        clear HT1 HT2 HS1 HR1 HS0 j1 j2 j3 j4
        generalize (if cb = K then some (⟨bb, off2, none⟩ : Addr) else some ⟨bb, off2 + K, none⟩) = TA
        obtain ⟨K2, hK2⟩ : ∃ K2 : Nat, Fn.wiS z (nb : Int) = (K2 : Int) := Int.eq_ofNat_of_zero_le (Fn.wi_bd z (by omega)).1
        have hKn2 : K2 < nb := by have := (Fn.wi_bd z (n := (nb : Int)) (by omega)).2; omega
        obtain ⟨R, hR⟩ : ∃ R : Int, Fn.wiS z 255 = R := ⟨_, rfl⟩
        have hRb := Fn.wi_bd z (n := 255) (by omega)
        rw [hR] at hRb
        obtain ⟨hR0, hR1⟩ := hRb
        have W2 := Hk.mk hK2
        have W3 := Hk.mk hR
        clear hK2 hR
        go_wp2_with (go_at_call 28; refine (copy_any _ nb _ xs _ (HY2.out.drewN _) (by omega)).mono ?_; rintro e w4 ⟨v, rfl, hown, hb⟩; obtain ⟨a1, c1, rfl, hc1, hy1, hfr⟩ := hown.by_; obtain ⟨g, o, rfl, hg, hcg⟩ := hy1.at_ hn1; obtain ⟨hgb, rfl, hfz⟩ := hfr _ _ rfl; have HO := Hk.mk hown; have hx := hcg K2 hKn2; have hxb := hy1.bd hKn2; have HFZ := Hk.mk hfz; have HBW := Hk.mk hb; clear hcg hfr hown hfz hb)
        have f2 := (HBW.out.cell (p := ⟨b, off + k * 3 + 2, none⟩) (Nat.lt_of_lt_of_le hbl hsz)).trans d2'
        have f0 := (HBW.out.cell (p := ⟨b, off + k * 3, none⟩) (Nat.lt_of_lt_of_le hbl hsz)).trans d0'
        rw [Nat.zero_add] at hx
        obtain ⟨x, hxx⟩ : ∃ x, xs.getD K2 0 = x := ⟨_, rfl⟩
        rw [hxx] at hx hxb
        have HX := Hk.mk hxx
        obtain ⟨hx0, hx1⟩ := hxb
        have hfx : w4.frozen? ⟨g, K2, none⟩ = false := HO.out.2.2.frozenAt K2
        have j1 : (0 : Int) ≤ (K2 : Int) := by omega
        have j2 : (K2 : Int) < (nb : Int) := by omega
        have d0h := Hk.mk d0'
        clear hxx hy1 d0' d1' d2'
        have f2' : ({ w4 with drawn := w4.drawn + 1 } : World).cell? ⟨b, off + k * 3 + 2, none⟩ = some (.int .i64 z) := f2
        have hx' : ({ w4 with drawn := w4.drawn + 1 } : World).cell? ⟨g, K2, none⟩ = some (.int .u8 x) := hx
        go_still_tail 21, (by kernel_rfl)
        still_call (within_still z nb K2 _ hz (by omega) (by omega) W2)
        repeat still_step
        still_call (within_still z 255 R _ hz (by omega) (by omega) W3)
        repeat still_step
        refine wpStill_nil ?_
        change wpList _ _ _ _ _ w4.drew
        have f0' : w4.drew.cell? ⟨b, off + k * 3, none⟩ = some (.int .u64 s) := f0
        have hx2 : w4.drew.cell? ⟨g, K2, none⟩ = some (.int .u8 x) := hx
        have hf2 : w4.drew.frozen? ⟨g, K2, none⟩ = false := hfx
        have HO2 := Hk.mk HO.out.drew
        have HBW2 := Hk.mk HBW.out.drew
        clear f0 f2 f2' hx hx' hfx HO HBW
        generalize w4.drew = w5 at *
        obtain ⟨Y, hY⟩ : ∃ Y, bits BinOp.xor IntKind.u8 x (1 + R) = Y := ⟨_, rfl⟩
        have hxor := Fn.xor8 (x := x) (d := 1 + R) ⟨hx0, hx1⟩ (by omega)
        rw [hY] at hxor
        have HO3 := Hk.mk (HO2.out.set_ K2 hxor.1)
        have hsize4 : (w5.setCell ⟨g, K2, none⟩ (.int .u8 Y)).heap.size = w5.heap.size := by simp [World.setCell]
        have HB3 : Hk (Below w3.heap.size w3 (w5.setCell ⟨g, K2, none⟩ (.int .u8 Y))) := ⟨((below_drewN (Below.refl _ _) nq).trans HBW2.out).setCell hgb _⟩
        have f0s := (HB3.out.cell (p := ⟨b, off + k * 3, none⟩) (Nat.lt_of_lt_of_le hbl hsz)).trans d0h.out
        have HY3 : Hk (By (w5.setCell ⟨g, K2, none⟩ (.int .u8 Y)) (w5.setCell ⟨g, K2, none⟩ (.int .u8 Y)).heap.size (some ⟨g, 0, none⟩) nb (xs.set K2 Y)) := by
          obtain ⟨a5, c5, e5, _, hy5, _⟩ := HO3.out.by_
          injection e5 with e6 e7 e8
          subst e6
          exact ⟨hy5⟩
        have hne : Fn.sumS s (xs.set K2 Y) ≠ SA := by
          rw [← HSA.out]
          exact Fn.sum_changed hs HY2.out.byt (by rw [HY2.out.len]; exact hKn2) hxor.1 (by rw [HX.out]; exact hxor.2)
        obtain ⟨SC, hSC⟩ : ∃ SC, Fn.sumS s (xs.set K2 Y) = SC := ⟨_, rfl⟩
        rw [hSC] at hne
        have HSC := Hk.mk hSC
        have hne2 : (SC == SA) = false := by simpa using hne
        have HB4 : Hk (Below w.heap.size w (w5.setCell ⟨g, K2, none⟩ (.int .u8 Y))) := ⟨HB2.out.trans (HB3.out.mono hsz)⟩
        clear hSC hne hsize4
        go_wp2_with (go_at_call 29; refine (sum_as s _ nb _ (xs.set K2 Y) SC _ HY3.out (by omega) HSC).mono ?_; rintro e w6 ⟨rfl, m6, rfl⟩)
        go_roundw
        case rel => exact ⟨k + 1, by go_num, by omega, by omega, ⟨below_drewN HB4.out _⟩⟩
        case measure => simp [intOf]; omega
      · by_cases h5 : nb ≤ 5000
        · obtain rfl : nb = 0 := by omega
          go_wp2
          go_roundw
          case rel => exact ⟨k + 1, by go_num, by omega, by omega, HB⟩
          case measure => simp [intOf]; omega
        · have i3 : decide ((5000 : Int) < (nb : Int)) = true := by simp; omega
          go_wp2
          go_roundw
          case rel => exact ⟨k + 1, by go_num, by omega, by omega, HB⟩
          case measure => simp [intOf]; omega
    · go_wp2_with (go_at_call 33; (with_reducible refine (wakes3_any _).mono ?_); rintro e w' ⟨rfl, hb⟩)
      all_goals
        go_ret
        exact ⟨rfl, HB.out.trans (hb.mono HB.out.size)⟩

theorem fnvParts_own : ownKnob Try.prog.godebug = none := by kernel_rfl
theorem fnvParts_laidOut : laidOutB Try.prog = true := by kernel_rfl
set_option maxRecDepth 100000 in
theorem fnvParts_lifted (os : Os) (started : os.Started) (H : Type) (enc : TypeId × Value → H) :
    ReturnsInHanded {} Try.checked os 10 .any (Rows.fnvPartsSpec.pre6 enc Try.prog Try.f10 Rows.fnvPartsRow.domain false) (Rows.fnvPartsSpec.post enc Try.prog Try.f10 false true false false) := by
  refine returnsInHanded_of_change (C := Try.checked) fnvParts_own started (by kernel_rfl) Try.func10
    (ChangeSpec.witness6 (enc := enc) (C := Try.checked) false ⟨#[], #[.slice none 0 0], []⟩ 8 (by kernel_rfl) (by kernel_rfl) (by kernel_rfl) (by kernel_rfl)) ?_
  intro W base args ds gs before hval0 hW hcnd _
  have hval : ∀ (j : Nat) t v, Try.f10.params[j]? = some t → args[j]? = some v → Value.okWide Try.prog W .any base t v := hval0
  have hW' := hW
  obtain ⟨p, q, hA0, hV, rfl, hfz, hnd⟩ := hW
  have hA : DataW.TrodAll enc Try.prog W 0 (fun _ => true) true Try.f10.params.toList args.toList ds p := hA0
  rw [Try.params10] at hA hval
  obtain ⟨v0, vs0, d0, ds0, p0, q0, hargs, rfl, rfl, h0, r0⟩ := trodAll_cons hA
  obtain ⟨rfl, rfl, rfl⟩ := trodAll_nil r0
  obtain rfl : args = #[v0] := by cases args; simp_all
  obtain ⟨rfl, rfl⟩ := trodVars_none hV
  obtain ⟨a0, len0, cap0, rfl⟩ := okWide_slice Try.underlying37 (hval 0 37 v0 rfl rfl)
  have k0 := h0
  have lt0 : ∀ x ∈ p0, x.block < W.heap.size := by obtain ⟨m, hm⟩ := k0; exact DataW.trod_lt m _ _ _ hm
  have rows : Asks3 W a0 len0 cap0 := by obtain ⟨fuel, hf⟩ := h0; exact asks3_of hf
  clear hA0 hval0
  refine (fnvParts_walk a0 len0 cap0 W rows).mono fun e W' ⟨he, bel⟩ => ?_
  subst he
  exact ⟨_, rfl, _, _, _, [], _, [], hW', trodAll_mk1 (shut_bool Try.underlying4 _), (trodAll_cons_mk (Below.trod fnvParts_laidOut (by kernel_rfl) (of_decide_eq_true (by kernel_rfl)) k0 bel lt0) trodAll_mk0), rfl, bel.frame _, fun h => by cases h⟩
theorem fnvParts_over : Rows.fnvPartsRow.holds Try.pinned (OpenSpec.ofChange Rows.fnvPartsSpec) :=
  OpenClaim.holds_of_wide 10 Try.f10 rfl rfl rfl rfl rfl rfl rfl ⟨rfl, rfl, rfl, rfl, rfl⟩ rfl rfl rfl rfl rfl (by kernel_rfl) Try.func10 (by kernel_rfl)
    (of_decide_eq_true (by kernel_rfl)) (by unfold Func.isWrapper; first | (rw [if_pos (by decide +kernel)]; kernel_rfl) | (rw [if_neg (by decide +kernel)]; exact ⟨rfl, rfl⟩))
    (fun os started H enc _ => fnvParts_lifted os started H enc)
/-- The given statement of FnvParts. -/
theorem fnvParts_holds : Rows.FnvPartsSaid := fnvParts_over
end Go.Proofs.Ytdammgpflfoppab
