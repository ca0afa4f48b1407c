/- For every list, WireReads answers true and leaves its argument as it was: what any bytes begin with, as numbers, is the page's, or they end too early, or it is none. No condition. -/
import Derived.Test.YtdammgpflfoppabWire
import Derived.Deep.QuietTactic
import Derived.BigQuiet
import Derived.Deep.RegionWith
import Derived.Deep.RegionHeld3
namespace Go.Proofs.Ytdammgpflfoppab
open Go.ChangeShapes Go.WideShapes Go.ChangeAt Go.RowKit Go.Deep
set_option linter.unusedVariables false
set_option maxRecDepth 100000 in
set_option maxHeartbeats 1600000 in
theorem wireReads_walk (a : Option Addr) (len cap : Nat) (w : World) (rows : Asks4 w a len cap) :
    Calls Try.prog 13 #[.slice a len cap] w fun e w' => e = .returned (.bool true) ∧ Below w.heap.size w w' := by
  obtain ⟨hl, hm, hall⟩ := rows
  have HALL := Hk.mk hall
  clear hall
  go_enter Try.func13, Try.ntmps13
  go_wp2
  go_loopw [3] (fun i  wr => ∃ (k : Nat), i = .int .i64 k ∧ k ≤ len ∧ k ≤ 15 ∧ Hk (Below w.heap.size w wr)) (fun i  _ => 15 - (intOf i).toNat)
  case atStart => exact ⟨0, rfl, by omega, by omega, ⟨Below.refl _ _⟩⟩
  case round =>
    obtain ⟨k, rfl, hk, hk2, HB⟩ := hrel
    by_cases hlt : k < len ∧ k < 15
    · obtain ⟨g1, g2⟩ := hlt
      obtain ⟨b, off, s, ab, nb, cb, xs, ax, nx, cx, ys, rfl, hbl, hs, ⟨hnb, hcb, hnob, hby⟩, ⟨hnx, hcx, hnox, hbx⟩, c0, c1, c2⟩ := HALL.out k (by omega)
      have d0 := (HB.out.cell (p := ⟨b, off + k * 3, none⟩) hbl).trans c0
      have d1 := (HB.out.cell (p := ⟨b, off + k * 3 + 1, none⟩) hbl).trans c1
      have d2 := (HB.out.cell (p := ⟨b, off + k * 3 + 2, none⟩) hbl).trans c2
      have HYB := Hk.mk (hby.below HB.out (Nat.le_refl _))
      have HYX := Hk.mk (hbx.below HB.out (Nat.le_refl _))
      have HNOB := Hk.mk hnob
      have HNOX := Hk.mk hnox
      have hsz := HB.out.size
      clear hby hbx c0 c1 c2 hnob hnox
      by_cases hgr : nb ≤ 5000 ∧ nx ≤ 5000
      · obtain ⟨h5, h6⟩ := hgr
        go_wp2_with (first | (go_at_call 42; (with_reducible refine (heavy_no _ _ _ _ _ _ _ _ h5 h6).mono ?_); rintro e w1 ⟨rfl, hb1⟩; have HB1 := Hk.mk hb1; have HCX := Hk.mk ((HYX.out.below hb1 hsz).mono (Nat.le_trans hsz hb1.size)); have HCB := Hk.mk ((HYB.out.below hb1 hsz).mono (Nat.le_trans hsz hb1.size)); replace d1 := (hb1.cell (p := ⟨b, off + k * 3 + 1, none⟩) (Nat.lt_of_lt_of_le hbl hsz)).trans d1; replace d2 := (hb1.cell (p := ⟨b, off + k * 3 + 2, none⟩) (Nat.lt_of_lt_of_le hbl hsz)).trans d2; replace d0 := (hb1.cell (p := ⟨b, off + k * 3, none⟩) (Nat.lt_of_lt_of_le hbl hsz)).trans d0; have f1 := Hk.mk d1; have f2 := Hk.mk d2; have f0 := Hk.mk d0; clear hb1) | (go_at_call 28; (with_reducible refine (copy_any _ nx _ ys _ HCX.out (by omega)).mono ?_); rintro e w2 ⟨v2, rfl, ho2, hb2⟩; obtain ⟨a2, c2, rfl, hc2, hy2, -⟩ := ho2.by_; have HY2 := Hk.mk hy2; have HB2 := Hk.mk hb2; have HX2 := Hk.mk ((HCX.out.below hb2 (Nat.le_refl _)).mono hb2.size); have e1 := (hb2.cell (p := ⟨b, off + k * 3 + 1, none⟩) (Nat.lt_of_lt_of_le hbl (Nat.le_trans hsz HB1.out.size))).trans f1.out; have e2 := (hb2.cell (p := ⟨b, off + k * 3 + 2, none⟩) (Nat.lt_of_lt_of_le hbl (Nat.le_trans hsz HB1.out.size))).trans f2.out; clear ho2 hy2 hb2) | (go_at_call 43; (with_reducible refine (getnum_any _ nx _ ys _ HY2.out (by omega)).mono ?_); rintro e w' ⟨rfl, rfl⟩) | (go_at_call 44; (with_reducible refine (rgetnum_any _ nx _ ys _ HX2.out (by omega)).mono ?_); rintro e w' ⟨rfl, rfl⟩) | (go_at_call 45; (with_reducible refine (getint_any _ nx _ ys _ HY2.out (by omega)).mono ?_); rintro e w' ⟨rfl, rfl⟩) | (go_at_call 46; (with_reducible refine (rgetint_any _ nx _ ys _ HX2.out (by omega)).mono ?_); rintro e w' ⟨rfl, rfl⟩) | (go_at_call 36; (with_reducible refine (lawnum_any _ _).mono ?_); rintro e w' ⟨rfl, rfl⟩) | (go_at_call 31; refine (eqb_yes _ _ _ _ _ ys _ HY2.out HX2.out (by omega)).mono ?_; rintro e w3 ⟨rfl, m3, rfl⟩))
        go_roundw
        case rel => exact ⟨k + 1, by go_num, by omega, by omega, ⟨below_drewN (HB.out.trans ((HB1.out.trans (HB2.out.mono HB1.out.size)).mono hsz)) _⟩⟩
        case measure => simp [intOf]; omega
      · go_wp2_with (go_at_call 42; (with_reducible refine (heavy_yes _ _ _ _ _ _ _ _ hgr).mono ?_); rintro e w1 ⟨rfl, hb1⟩)
        go_ret
        exact ⟨rfl, HB.out.trans (hb1.mono hsz)⟩
    · go_wp2_with (go_at_call 41; (with_reducible refine (wakes4_any _).mono ?_); rintro e w' ⟨rfl, hb⟩)
      all_goals
        go_ret
        exact ⟨rfl, HB.out.trans (hb.mono HB.out.size)⟩

theorem wireReads_own : ownKnob Try.prog.godebug = none := by kernel_rfl
theorem wireReads_laidOut : laidOutB Try.prog = true := by kernel_rfl
set_option maxRecDepth 100000 in
theorem wireReads_lifted (os : Os) (started : os.Started) (H : Type) (enc : TypeId × Value → H) :
    ReturnsInHanded {} Try.checked os 13 .any (Rows.wireReadsSpec.pre6 enc Try.prog Try.f13 Rows.wireReadsRow.domain false) (Rows.wireReadsSpec.post enc Try.prog Try.f13 false true false false) := by
  refine returnsInHanded_of_change (C := Try.checked) wireReads_own started (by kernel_rfl) Try.func13
    (ChangeSpec.witness6 (enc := enc) (C := Try.checked) false ⟨#[], #[.slice none 0 0], []⟩ 8 (by kernel_rfl) (by kernel_rfl) (by kernel_rfl) (by kernel_rfl)) ?_
  intro W base args ds gs before hval0 hW hcnd _
  have hval : ∀ (j : Nat) t v, Try.f13.params[j]? = some t → args[j]? = some v → Value.okWide Try.prog W .any base t v := hval0
  have hW' := hW
  obtain ⟨p, q, hA0, hV, rfl, hfz, hnd⟩ := hW
  have hA : DataW.TrodAll enc Try.prog W 0 (fun _ => true) true Try.f13.params.toList args.toList ds p := hA0
  rw [Try.params13] at hA hval
  obtain ⟨v0, vs0, d0, ds0, p0, q0, hargs, rfl, rfl, h0, r0⟩ := trodAll_cons hA
  obtain ⟨rfl, rfl, rfl⟩ := trodAll_nil r0
  obtain rfl : args = #[v0] := by cases args; simp_all
  obtain ⟨rfl, rfl⟩ := trodVars_none hV
  obtain ⟨a0, len0, cap0, rfl⟩ := okWide_slice Try.underlying49 (hval 0 49 v0 rfl rfl)
  have k0 := h0
  have lt0 : ∀ x ∈ p0, x.block < W.heap.size := by obtain ⟨m, hm⟩ := k0; exact DataW.trod_lt m _ _ _ hm
  have rows : Asks4 W a0 len0 cap0 := by obtain ⟨fuel, hf⟩ := h0; exact asks4_of hf
  clear hA0 hval0
  refine (wireReads_walk a0 len0 cap0 W rows).mono fun e W' ⟨he, bel⟩ => ?_
  subst he
  exact ⟨_, rfl, _, _, _, [], _, [], hW', trodAll_mk1 (shut_bool Try.underlying4 _), (trodAll_cons_mk (Below.trod wireReads_laidOut (by kernel_rfl) (of_decide_eq_true (by kernel_rfl)) k0 bel lt0) trodAll_mk0), rfl, bel.frame _, fun h => by cases h⟩
theorem wireReads_over : Rows.wireReadsRow.holds Try.pinned (OpenSpec.ofChange Rows.wireReadsSpec) :=
  OpenClaim.holds_of_wide 13 Try.f13 rfl rfl rfl rfl rfl rfl rfl ⟨rfl, rfl, rfl, rfl, rfl⟩ rfl rfl rfl rfl rfl (by kernel_rfl) Try.func13 (by kernel_rfl)
    (of_decide_eq_true (by kernel_rfl)) (by unfold Func.isWrapper; first | (rw [if_pos (by decide +kernel)]; kernel_rfl) | (rw [if_neg (by decide +kernel)]; exact ⟨rfl, rfl⟩))
    (fun os started H enc _ => wireReads_lifted os started H enc)
/-- The given statement of WireReads. -/
theorem wireReads_holds : Rows.WireReadsSaid := wireReads_over
end Go.Proofs.Ytdammgpflfoppab
