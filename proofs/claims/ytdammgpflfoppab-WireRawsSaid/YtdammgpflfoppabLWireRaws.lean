/- For every list, WireRaws answers true and leaves its argument as it was: any bytes with their number ahead are the page's; what any bytes begin with, so, is the page's, or the error is. No condition. -/
import Derived.Test.YtdammgpflfoppabWire
import Derived.Test.YtdammgpflfoppabWirf
import Derived.Deep.QuietTactic
import Derived.BigQuiet
import Derived.Deep.RegionWith
import Derived.Deep.RegionHeld3
namespace Go.Proofs.Ytdammgpflfoppab
open Go.ChangeShapes Go.WideShapes Go.ChangeAt Go.RowKit Go.Deep
set_option linter.unusedVariables false
set_option maxRecDepth 100000 in
set_option maxHeartbeats 1600000 in
theorem wireRaws_walk (a : Option Addr) (len cap : Nat) (w : World) (rows : Asks4 w a len cap) :
    Calls Try.prog 14 #[.slice a len cap] w fun e w' => e = .returned (.bool true) ∧ Below w.heap.size w w' := by
  obtain ⟨hl, hm, hall⟩ := rows
  have HALL := Hk.mk hall
  clear hall
  go_enter Try.func14, Try.ntmps14
  go_wp2
  go_loopw [3] (fun i  wr => ∃ (k : Nat), i = .int .i64 k ∧ k ≤ len ∧ k ≤ 15 ∧ Hk (Below w.heap.size w wr)) (fun i  _ => 15 - (intOf i).toNat)
  case atStart => exact ⟨0, rfl, by omega, by omega, ⟨Below.refl _ _⟩⟩
  case round =>
    obtain ⟨k, rfl, hk, hk2, HB⟩ := hrel
    by_cases hlt : k < len ∧ k < 15
    · obtain ⟨g1, g2⟩ := hlt
      obtain ⟨b, off, s, ab, nb, cb, xs, ax, nx, cx, ys, rfl, hbl, hs, ⟨hnb, hcb, hnob, hby⟩, ⟨hnx, hcx, hnox, hbx⟩, c0, c1, c2⟩ := HALL.out k (by omega)
      have d0 := (HB.out.cell (p := ⟨b, off + k * 3, none⟩) hbl).trans c0
      have d1 := (HB.out.cell (p := ⟨b, off + k * 3 + 1, none⟩) hbl).trans c1
      have d2 := (HB.out.cell (p := ⟨b, off + k * 3 + 2, none⟩) hbl).trans c2
      have HYB := Hk.mk (hby.below HB.out (Nat.le_refl _))
      have HYX := Hk.mk (hbx.below HB.out (Nat.le_refl _))
      have HNOB := Hk.mk hnob
      have HNOX := Hk.mk hnox
      have hsz := HB.out.size
      have O0 := Hk.mk c0
      have O1 := Hk.mk c1
      have O2 := Hk.mk c2
      have HBYO := Hk.mk hby
      have HBXO := Hk.mk hbx
      clear hby hbx c0 c1 c2 hnob hnox
      by_cases hgr : nb ≤ 5000 ∧ nx ≤ 5000
      · obtain ⟨h5, h6⟩ := hgr
        have HLN := Hk.mk (show (Wr.numL nb).length ≤ 9 from Wr.numL_nine (by omega))
        go_wp2_with (first | (go_at_call 42; (with_reducible refine (heavy_no _ _ _ _ _ _ _ _ h5 h6).mono ?_); rintro e w1 ⟨rfl, hb1⟩; have HB1 := Hk.mk hb1; have HCX := Hk.mk ((HYX.out.below hb1 hsz).mono (Nat.le_trans hsz hb1.size)); have HCB := Hk.mk ((HYB.out.below hb1 hsz).mono (Nat.le_trans hsz hb1.size)); replace d1 := (hb1.cell (p := ⟨b, off + k * 3 + 1, none⟩) (Nat.lt_of_lt_of_le hbl hsz)).trans d1; replace d2 := (hb1.cell (p := ⟨b, off + k * 3 + 2, none⟩) (Nat.lt_of_lt_of_le hbl hsz)).trans d2; replace d0 := (hb1.cell (p := ⟨b, off + k * 3, none⟩) (Nat.lt_of_lt_of_le hbl hsz)).trans d0; have f1 := Hk.mk d1; have f2 := Hk.mk d2; have f0 := Hk.mk d0; clear hb1) | (go_at_call 47; (with_reducible refine (raw_any2 _ nb _ xs _ HCB.out HNOB.out (by omega)).mono ?_); rintro e w2 ⟨v2, rfl, ho2, hb2⟩; obtain ⟨a2, c2, rfl, -, hy2, -⟩ := ho2.by_; have HY2 := Hk.mk hy2; have HB2 := Hk.mk hb2; clear ho2 hy2 hb2))
        have hsz1 : w.heap.size ≤ w1.heap.size := Nat.le_trans hsz HB1.out.size
        have e1 := (HB2.out.cell (p := ⟨b, off + k * 3 + 1, none⟩) (Nat.lt_of_lt_of_le hbl hsz1)).trans f1.out
        have e2 := (HB2.out.cell (p := ⟨b, off + k * 3 + 2, none⟩) (Nat.lt_of_lt_of_le hbl hsz1)).trans f2.out
        have HDB := Hk.mk ((HCB.out.below HB2.out (Nat.le_refl _)).mono HB2.out.size)
        have HDX := Hk.mk ((HCX.out.below HB2.out (Nat.le_refl _)).mono HB2.out.size)
        have i1 : (0 : Int) ≤ (nb : Int) := by omega
        go_region_held3 (fun w' => w'.cell? ⟨b, off + k * 3 + 1, none⟩ = some (.slice ab nb cb)) (first | exact e1 | exact e4 | exact e5) (first | (go_at_call 36; (with_reducible refine (lawnum_any _ _).mono ?_); rintro e w' ⟨rfl, rfl⟩) | (go_at_call 37; refine (rnum_any nb _ (by omega)).mono ?_; rintro e w4 ⟨v4, rfl, ho4, hb4⟩; have e4 := (hb4.cell (p := ⟨b, off + k * 3 + 1, none⟩) (Nat.lt_of_lt_of_le hbl (Nat.le_trans hsz1 HB2.out.size))).trans e1; have HO4 := Hk.mk ho4; have HB4 := Hk.mk hb4; clear ho4 hb4) | (go_at_call 31; refine (eqb_yes _ _ ((Wr.numL nb).length + nb) _ _ (Wr.numL nb ++ xs) _ (((HY2.out.drew.below HB4.out (Nat.le_refl _)).grown HG5.out HB4.out.size (fun g hg => (HO4.out.lt g hg).1)).mono (Nat.le_trans HB4.out.size HG5.out.size)) HY5.out (by have := HLN.out; omega)).mono ?_; rintro e w6 ⟨rfl, m6, rfl⟩) | ((refine step_append_by _ (by rfl) (.tmp 48) (.tmp 53) (by rfl) w2.heap.size v4 (Wr.numL nb).length (Wr.numL nb) (by rfl) HO4.out w2.heap.size ab nb cb xs (by rfl) (HDB.out.drew.below HB4.out (Nat.le_refl _)) HNOB.out (by have := HLN.out; omega) HB4.out.size ?_; intro v5 w5 ho5 hg5; have e5 := hg5.cell e4 (fun h => by have := (HO4.out.lt _ h.symm).1; have := HB2.out.size; simp at *; omega); obtain ⟨a5, c5, rfl, -, hy5, -⟩ := ho5.by_; have HY5 := Hk.mk hy5; have HG5 := Hk.mk hg5; clear ho5 hy5 hg5)))
        have C1 : Below w.heap.size w w2 := HB.out.trans ((HB1.out.trans (HB2.out.mono HB1.out.size)).mono hsz)
        have C2 : Below w.heap.size w w4 := C1.drew.trans (HB4.out.mono C1.size)
        have C3 : Below w.heap.size w w5 := C2.grown HG5.out C2.size (fun g hg => Nat.le_trans C1.size (HO4.out.lt g hg).1)
        have HC4 := Hk.mk (below_drewN C3 m6)
        have x2 := (HC4.out.cell (p := ⟨b, off + k * 3 + 2, none⟩) hbl).trans O2.out
        have HDX2 := Hk.mk ((HBXO.out.below HC4.out (Nat.le_refl _)).mono HC4.out.size)
        clear C1 C2 C3 e1 e2 e4 e5 HY2 HY5 HG5 HO4 HB4 HDB HDX HCX HCB f0 f1 f2 hsz1 hsz
        generalize w5.drewN m6 = w7 at *
        by_cases hE : rawErr ys = 0
        · have HE := Hk.mk hE
          have HRN := Hk.mk (rawN_le HBXO.out.byt hE)
          clear hE
          go_wp2_with (first | (go_at_call 28; (with_reducible refine (copy_any _ nx _ ys _ HDX2.out (by omega)).mono ?_); rintro e w8 ⟨v8, rfl, ho8, hb8⟩; obtain ⟨a8, c8, rfl, hc8, hy8, -⟩ := ho8.by_; have hcm8 := Hk.mk ho8.cap; have HC8 := Hk.mk hc8; have HY8 := Hk.mk hy8; have HB8 := Hk.mk hb8; have HX8 := Hk.mk ((HDX2.out.below hb8 (Nat.le_refl _)).mono hb8.size); have y2 := (hb8.cell (p := ⟨b, off + k * 3 + 2, none⟩) (Nat.lt_of_lt_of_le hbl HC4.out.size)).trans x2; clear ho8 hy8 hb8 hc8) | (go_at_call 48; (with_reducible refine (getraw_ok _ nx _ ys _ HY8.out HC8.out hcm8.out (by omega) HE).mono ?_); rintro e w9 ⟨v9, rfl, ho9, hb9⟩; obtain ⟨a9, c9, rfl, -, hy9, -⟩ := ho9.by_; have HY9 := Hk.mk hy9; have HO9 := Hk.mk ho9; have HB9 := Hk.mk hb9; have HX9 := Hk.mk ((HX8.out.below hb9 (Nat.le_refl _)).mono hb9.size); have z2 := (hb9.cell (p := ⟨b, off + k * 3 + 2, none⟩) (Nat.lt_of_lt_of_le hbl (Nat.le_trans HC4.out.size HB8.out.size))).trans y2; clear hy9 ho9 hb9) | (go_at_call 49; (with_reducible refine (rgetraw_ok _ nx _ ys _ HX9.out hnx hcx (by omega) HE).mono ?_); rintro e w10 ⟨a10, c10, rfl, hy10, rfl⟩; have HY10 := Hk.mk hy10; clear hy10) | (go_at_call 36; (with_reducible refine (lawnum_any _ _).mono ?_); rintro e w' ⟨rfl, rfl⟩) | (go_at_call 31; refine (eqb_yes _ _ _ _ _ (rawX ys) _ HY9.out HY10.out (by have := HRN.out; omega)).mono ?_; rintro e w11 ⟨rfl, m11, rfl⟩) | (go_at_call 50; refine (lawbytes_any w8 _ _ _ _ (HO9.out.drewN _) HB9.out.size HRN.out).mono ?_; rintro e w12 ⟨rfl, hb12⟩))
          go_roundw
          case rel => exact ⟨k + 1, by go_num, by omega, by omega, ⟨(below_drewN (HC4.out.trans ((HB8.out.trans (HB9.out.mono HB8.out.size)).mono HC4.out.size)) m11).trans (hb12.mono (Nat.le_trans HC4.out.size HB8.out.size))⟩⟩
          case measure => simp [intOf]; omega
        · obtain ⟨E0, hE0⟩ : ∃ E0, rawErr ys = E0 := ⟨_, rfl⟩
          have HE := Hk.mk hE0
          rw [hE0] at hE
          replace hE0 : E0 ≠ 0 := hE
          clear hE
          go_wp2_with (first | (go_at_call 28; (with_reducible refine (copy_any _ nx _ ys _ HDX2.out (by omega)).mono ?_); rintro e w8 ⟨v8, rfl, ho8, hb8⟩; obtain ⟨a8, c8, rfl, hc8, hy8, -⟩ := ho8.by_; have hcm8 := Hk.mk ho8.cap; have HC8 := Hk.mk hc8; have HY8 := Hk.mk hy8; have HB8 := Hk.mk hb8; have HX8 := Hk.mk ((HDX2.out.below hb8 (Nat.le_refl _)).mono hb8.size); have y2 := (hb8.cell (p := ⟨b, off + k * 3 + 2, none⟩) (Nat.lt_of_lt_of_le hbl HC4.out.size)).trans x2; clear ho8 hy8 hb8 hc8) | (go_at_call 48; (with_reducible refine (getraw_bad _ nx _ ys E0 _ HY8.out (by omega) HE hE0).mono ?_); rintro e w9 ⟨rfl, rfl⟩) | (go_at_call 49; (with_reducible refine (rgetraw_bad _ nx _ ys E0 _ HX8.out (by omega) HE hE0).mono ?_); rintro e w10 ⟨rfl, rfl⟩) | (go_at_call 36; (with_reducible refine (lawnum_any _ _).mono ?_); rintro e w' ⟨rfl, rfl⟩) | (go_at_call 31; refine (eqb_yes _ _ 0 _ _ [] _ (By.nil _ _ _) (By.nil _ _ _) (by omega)).mono ?_; rintro e w11 ⟨rfl, m11, rfl⟩) | (go_at_call 50; refine (lawbytes_any w8 (w8.drewN m11) _ 0 [] (OwnB.nil _ _) (Nat.le_refl _) (by omega)).mono ?_; rintro e w12 ⟨rfl, hb12⟩))
          go_roundw
          case rel => exact ⟨k + 1, by go_num, by omega, by omega, ⟨(below_drewN (HC4.out.trans (HB8.out.mono HC4.out.size)) m11).trans (hb12.mono (Nat.le_trans HC4.out.size HB8.out.size))⟩⟩
          case measure => simp [intOf]; omega
      · go_wp2_with (go_at_call 42; (with_reducible refine (heavy_yes _ _ _ _ _ _ _ _ hgr).mono ?_); rintro e w1 ⟨rfl, hb1⟩)
        go_ret
        exact ⟨rfl, HB.out.trans (hb1.mono hsz)⟩
    · go_wp2_with (go_at_call 41; (with_reducible refine (wakes4_any _).mono ?_); rintro e w' ⟨rfl, hb⟩)
      all_goals
        go_ret
        exact ⟨rfl, HB.out.trans (hb.mono HB.out.size)⟩

theorem wireRaws_own : ownKnob Try.prog.godebug = none := by kernel_rfl
theorem wireRaws_laidOut : laidOutB Try.prog = true := by kernel_rfl
set_option maxRecDepth 100000 in
theorem wireRaws_lifted (os : Os) (started : os.Started) (H : Type) (enc : TypeId × Value → H) :
    ReturnsInHanded {} Try.checked os 14 .any (Rows.wireRawsSpec.pre6 enc Try.prog Try.f14 Rows.wireRawsRow.domain false) (Rows.wireRawsSpec.post enc Try.prog Try.f14 false true false false) := by
  refine returnsInHanded_of_change (C := Try.checked) wireRaws_own started (by kernel_rfl) Try.func14
    (ChangeSpec.witness6 (enc := enc) (C := Try.checked) false ⟨#[], #[.slice none 0 0], []⟩ 8 (by kernel_rfl) (by kernel_rfl) (by kernel_rfl) (by kernel_rfl)) ?_
  intro W base args ds gs before hval0 hW hcnd _
  have hval : ∀ (j : Nat) t v, Try.f14.params[j]? = some t → args[j]? = some v → Value.okWide Try.prog W .any base t v := hval0
  have hW' := hW
  obtain ⟨p, q, hA0, hV, rfl, hfz, hnd⟩ := hW
  have hA : DataW.TrodAll enc Try.prog W 0 (fun _ => true) true Try.f14.params.toList args.toList ds p := hA0
  rw [Try.params14] at hA hval
  obtain ⟨v0, vs0, d0, ds0, p0, q0, hargs, rfl, rfl, h0, r0⟩ := trodAll_cons hA
  obtain ⟨rfl, rfl, rfl⟩ := trodAll_nil r0
  obtain rfl : args = #[v0] := by cases args; simp_all
  obtain ⟨rfl, rfl⟩ := trodVars_none hV
  obtain ⟨a0, len0, cap0, rfl⟩ := okWide_slice Try.underlying49 (hval 0 49 v0 rfl rfl)
  have k0 := h0
  have lt0 : ∀ x ∈ p0, x.block < W.heap.size := by obtain ⟨m, hm⟩ := k0; exact DataW.trod_lt m _ _ _ hm
  have rows : Asks4 W a0 len0 cap0 := by obtain ⟨fuel, hf⟩ := h0; exact asks4_of hf
  clear hA0 hval0
  refine (wireRaws_walk a0 len0 cap0 W rows).mono fun e W' ⟨he, bel⟩ => ?_
  subst he
  exact ⟨_, rfl, _, _, _, [], _, [], hW', trodAll_mk1 (shut_bool Try.underlying4 _), (trodAll_cons_mk (Below.trod wireRaws_laidOut (by kernel_rfl) (of_decide_eq_true (by kernel_rfl)) k0 bel lt0) trodAll_mk0), rfl, bel.frame _, fun h => by cases h⟩
theorem wireRaws_over : Rows.wireRawsRow.holds Try.pinned (OpenSpec.ofChange Rows.wireRawsSpec) :=
  OpenClaim.holds_of_wide 14 Try.f14 rfl rfl rfl rfl rfl rfl rfl ⟨rfl, rfl, rfl, rfl, rfl⟩ rfl rfl rfl rfl rfl (by kernel_rfl) Try.func14 (by kernel_rfl)
    (of_decide_eq_true (by kernel_rfl)) (by unfold Func.isWrapper; first | (rw [if_pos (by decide +kernel)]; kernel_rfl) | (rw [if_neg (by decide +kernel)]; exact ⟨rfl, rfl⟩))
    (fun os started H enc _ => wireRaws_lifted os started H enc)
/-- The given statement of WireRaws. -/
theorem wireRaws_holds : Rows.WireRawsSaid := wireRaws_over
end Go.Proofs.Ytdammgpflfoppab
