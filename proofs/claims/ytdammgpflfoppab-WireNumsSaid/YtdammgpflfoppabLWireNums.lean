/- For every list, WireNums answers true and leaves its argument as it was: any number's bytes are the page's, or it is refused; so are those of one that may be below 0. No condition. -/
import Derived.Test.YtdammgpflfoppabWire
import Derived.Deep.QuietTactic
import Derived.BigQuiet
import Derived.Deep.RegionWith
import Derived.Deep.RegionHeld3
namespace Go.Proofs.Ytdammgpflfoppab
open Go.ChangeShapes Go.WideShapes Go.ChangeAt Go.RowKit Go.Deep
set_option linter.unusedVariables false
set_option maxRecDepth 100000 in
set_option maxHeartbeats 1600000 in
theorem wireNums_walk (a : Option Addr) (len cap : Nat) (w : World) (rows : Asks4 w a len cap) :
    Calls Try.prog 12 #[.slice a len cap] w fun e w' => e = .returned (.bool true) ∧ Below w.heap.size w w' := by
  obtain ⟨hl, hm, hall⟩ := rows
  have HALL := Hk.mk hall
  clear hall
  go_enter Try.func12, Try.ntmps12
  go_wp2
  go_loopw [3] (fun i  wr => ∃ (k : Nat), i = .int .i64 k ∧ k ≤ len ∧ k ≤ 15 ∧ Hk (Below w.heap.size w wr)) (fun i  _ => 15 - (intOf i).toNat)
  case atStart => exact ⟨0, rfl, by omega, by omega, ⟨Below.refl _ _⟩⟩
  case round =>
    obtain ⟨k, rfl, hk, hk2, HB⟩ := hrel
    by_cases hlt : k < len ∧ k < 15
    · obtain ⟨g1, g2⟩ := hlt
      obtain ⟨b, off, s, ab, nb, cb, xs, ax, nx, cx, ys, rfl, hbl, hs, ⟨hnb, hcb, hnob, hby⟩, ⟨hnx, hcx, hnox, hbx⟩, c0, c1, c2⟩ := HALL.out k (by omega)
      have d0 := (HB.out.cell (p := ⟨b, off + k * 3, none⟩) hbl).trans c0
      have d1 := (HB.out.cell (p := ⟨b, off + k * 3 + 1, none⟩) hbl).trans c1
      have d2 := (HB.out.cell (p := ⟨b, off + k * 3 + 2, none⟩) hbl).trans c2
      have HYB := Hk.mk (hby.below HB.out (Nat.le_refl _))
      have HYX := Hk.mk (hbx.below HB.out (Nat.le_refl _))
      have HNOB := Hk.mk hnob
      have HNOX := Hk.mk hnox
      have hsz := HB.out.size
      clear hby hbx c0 c1 c2 hnob hnox
      obtain ⟨hs1, hs2⟩ := hs
      have fin : ∀ W : World, Below w.heap.size w W → Below w.heap.size w W := fun W h => h
      have NINE : Hk (∀ z : Nat, z ≤ 9223372036854775807 → (Wr.numL z).length ≤ 1099511627776) := ⟨fun z hz => by have := Wr.numL_nine (n := z) (by omega); omega⟩
      rcases Int.lt_or_le s 0 with hp | hp
      · have q1 : decide (s < 0) = true := by simp; omega
        have q2 : decide (0 ≤ s) = false := by simp; omega
        by_cases h62 : I62 s
        · have H62 := Hk.mk h62
          have hz := Hk.mk (NINE.out (Wr.zig s) (zig_bd h62))
          clear hp h62
          go_wp2_with (first | (go_at_call 35; (with_reducible refine (num_neg s _ (by simpa using q1)).mono ?_); rintro e w' ⟨rfl, rfl⟩) | (go_at_call 36; (with_reducible refine (lawnum_any _ _).mono ?_); rintro e w' ⟨rfl, rfl⟩) | (go_at_call 38; (with_reducible refine (int_any s _ H62.out).mono ?_); rintro e w1 ⟨v1, rfl, ho1, hb1⟩; obtain ⟨a1, c1, rfl, -, hy1, -⟩ := ho1.by_; have HY1 := Hk.mk hy1; have HO1 := Hk.mk ho1; have HB1 := Hk.mk hb1; clear ho1 hy1 hb1) | (go_at_call 39; (with_reducible refine (mayint_yes s _ H62.out).mono ?_); rintro e w' ⟨rfl, rfl⟩) | (go_at_call 40; (with_reducible refine (rint_any s _ H62.out).mono ?_); rintro e w2 ⟨v2, rfl, ho2, hb2⟩; obtain ⟨a2, c2, rfl, -, hy2, -⟩ := ho2.by_; have HY2 := Hk.mk hy2; have HO2 := Hk.mk ho2; have HB2 := Hk.mk hb2; clear ho2 hy2 hb2) | (go_at_call 31; refine (eqb_yes _ _ _ _ _ (Wr.numL (Wr.zig s)) _ ((HY1.out.below HB2.out (Nat.le_refl _)).mono HB2.out.size) HY2.out hz.out).mono ?_; rintro e w3 ⟨rfl, m3, rfl⟩))
          go_roundw
          case rel => exact ⟨k + 1, by go_num, by omega, by omega, ⟨below_drewN (HB.out.trans ((HB1.out.trans (HB2.out.mono HB1.out.size)).mono hsz)) _⟩⟩
          case measure => simp [intOf]; omega
        · have H62 := Hk.mk h62
          clear hp h62
          go_wp2_with (first | (go_at_call 35; (with_reducible refine (num_neg s _ (by simpa using q1)).mono ?_); rintro e w' ⟨rfl, rfl⟩) | (go_at_call 36; (with_reducible refine (lawnum_any _ _).mono ?_); rintro e w' ⟨rfl, rfl⟩) | (go_at_call 38; (with_reducible refine (int_no s _ H62.out).mono ?_); rintro e w' ⟨rfl, rfl⟩) | (go_at_call 39; (with_reducible refine (mayint_no s _ H62.out).mono ?_); rintro e w' ⟨rfl, rfl⟩))
          go_roundw
          case rel => exact ⟨k + 1, by go_num, by omega, by omega, HB⟩
          case measure => simp [intOf]; omega
      · obtain ⟨n, rfl⟩ := Int.eq_ofNat_of_zero_le hp
        have q1 : decide ((n : Int) < 0) = false := by simp
        have HN := Hk.mk (show n ≤ 9223372036854775807 by omega)
        have hz0 := Hk.mk (NINE.out n (by omega))
        clear hs1 hs2
        by_cases h62 : I62 (n : Int)
        · have H62 := Hk.mk h62
          have hz := Hk.mk (NINE.out (Wr.zig n) (zig_bd h62))
          clear hp h62
          go_wp2_with (first | (go_at_call 35; (with_reducible refine (num_any n _ HN.out).mono ?_); rintro e w3 ⟨v3, rfl, ho3, hb3⟩; obtain ⟨a3, c3, rfl, -, hy3, -⟩ := ho3.by_; have HY3 := Hk.mk hy3; have HO3 := Hk.mk ho3; have HB3 := Hk.mk hb3; clear ho3 hy3 hb3) | (go_at_call 36; (with_reducible refine (lawnum_any _ _).mono ?_); rintro e w' ⟨rfl, rfl⟩) | (go_at_call 37; (with_reducible refine (rnum_any n _ HN.out).mono ?_); rintro e w4 ⟨v4, rfl, ho4, hb4⟩; obtain ⟨a4, c4, rfl, -, hy4, -⟩ := ho4.by_; have HY4 := Hk.mk hy4; have HO4 := Hk.mk ho4; have HB4 := Hk.mk hb4; clear ho4 hy4 hb4) | (go_at_call 31; refine (eqb_yes _ _ _ _ _ (Wr.numL n) _ ((HY3.out.below HB4.out (Nat.le_refl _)).mono HB4.out.size) HY4.out hz0.out).mono ?_; rintro e w5 ⟨rfl, m5, rfl⟩; clear HY3 HY4) | (go_at_call 38; (with_reducible refine (int_any n _ H62.out).mono ?_); rintro e w1 ⟨v1, rfl, ho1, hb1⟩; obtain ⟨a1, c1, rfl, -, hy1, -⟩ := ho1.by_; have HY1 := Hk.mk hy1; have HO1 := Hk.mk ho1; have HB1 := Hk.mk hb1; clear ho1 hy1 hb1) | (go_at_call 39; (with_reducible refine (mayint_yes n _ H62.out).mono ?_); rintro e w' ⟨rfl, rfl⟩) | (go_at_call 40; (with_reducible refine (rint_any n _ H62.out).mono ?_); rintro e w2 ⟨v2, rfl, ho2, hb2⟩; obtain ⟨a2, c2, rfl, -, hy2, -⟩ := ho2.by_; have HY2 := Hk.mk hy2; have HO2 := Hk.mk ho2; have HB2 := Hk.mk hb2; clear ho2 hy2 hb2) | (go_at_call 31; refine (eqb_yes _ _ _ _ _ (Wr.numL (Wr.zig n)) _ ((HY1.out.below HB2.out (Nat.le_refl _)).mono HB2.out.size) HY2.out hz.out).mono ?_; rintro e w6 ⟨rfl, m6, rfl⟩))
          have HBB := Hk.mk (below_drewN (HB.out.trans ((HB3.out.trans (HB4.out.mono HB3.out.size)).mono hsz)) m5)
          go_roundw
          case rel => exact ⟨k + 1, by go_num, by omega, by omega, ⟨below_drewN (HBB.out.trans ((HB1.out.trans (HB2.out.mono HB1.out.size)).mono HBB.out.size)) _⟩⟩
          case measure => simp [intOf]; omega
        · have H62 := Hk.mk h62
          clear hp h62
          go_wp2_with (first | (go_at_call 35; (with_reducible refine (num_any n _ HN.out).mono ?_); rintro e w3 ⟨v3, rfl, ho3, hb3⟩; obtain ⟨a3, c3, rfl, -, hy3, -⟩ := ho3.by_; have HY3 := Hk.mk hy3; have HO3 := Hk.mk ho3; have HB3 := Hk.mk hb3; clear ho3 hy3 hb3) | (go_at_call 36; (with_reducible refine (lawnum_any _ _).mono ?_); rintro e w' ⟨rfl, rfl⟩) | (go_at_call 37; (with_reducible refine (rnum_any n _ HN.out).mono ?_); rintro e w4 ⟨v4, rfl, ho4, hb4⟩; obtain ⟨a4, c4, rfl, -, hy4, -⟩ := ho4.by_; have HY4 := Hk.mk hy4; have HO4 := Hk.mk ho4; have HB4 := Hk.mk hb4; clear ho4 hy4 hb4) | (go_at_call 31; refine (eqb_yes _ _ _ _ _ (Wr.numL n) _ ((HY3.out.below HB4.out (Nat.le_refl _)).mono HB4.out.size) HY4.out hz0.out).mono ?_; rintro e w5 ⟨rfl, m5, rfl⟩; clear HY3 HY4) | (go_at_call 38; (with_reducible refine (int_no n _ H62.out).mono ?_); rintro e w' ⟨rfl, rfl⟩) | (go_at_call 39; (with_reducible refine (mayint_no n _ H62.out).mono ?_); rintro e w' ⟨rfl, rfl⟩))
          have HBB := Hk.mk (below_drewN (HB.out.trans ((HB3.out.trans (HB4.out.mono HB3.out.size)).mono hsz)) m5)
          go_roundw
          case rel => exact ⟨k + 1, by go_num, by omega, by omega, HBB⟩
          case measure => simp [intOf]; omega
    · go_wp2_with (go_at_call 41; (with_reducible refine (wakes4_any _).mono ?_); rintro e w' ⟨rfl, hb⟩)
      all_goals
        go_ret
        exact ⟨rfl, HB.out.trans (hb.mono HB.out.size)⟩

theorem wireNums_own : ownKnob Try.prog.godebug = none := by kernel_rfl
theorem wireNums_laidOut : laidOutB Try.prog = true := by kernel_rfl
set_option maxRecDepth 100000 in
theorem wireNums_lifted (os : Os) (started : os.Started) (H : Type) (enc : TypeId × Value → H) :
    ReturnsInHanded {} Try.checked os 12 .any (Rows.wireNumsSpec.pre6 enc Try.prog Try.f12 Rows.wireNumsRow.domain false) (Rows.wireNumsSpec.post enc Try.prog Try.f12 false true false false) := by
  refine returnsInHanded_of_change (C := Try.checked) wireNums_own started (by kernel_rfl) Try.func12
    (ChangeSpec.witness6 (enc := enc) (C := Try.checked) false ⟨#[], #[.slice none 0 0], []⟩ 8 (by kernel_rfl) (by kernel_rfl) (by kernel_rfl) (by kernel_rfl)) ?_
  intro W base args ds gs before hval0 hW hcnd _
  have hval : ∀ (j : Nat) t v, Try.f12.params[j]? = some t → args[j]? = some v → Value.okWide Try.prog W .any base t v := hval0
  have hW' := hW
  obtain ⟨p, q, hA0, hV, rfl, hfz, hnd⟩ := hW
  have hA : DataW.TrodAll enc Try.prog W 0 (fun _ => true) true Try.f12.params.toList args.toList ds p := hA0
  rw [Try.params12] at hA hval
  obtain ⟨v0, vs0, d0, ds0, p0, q0, hargs, rfl, rfl, h0, r0⟩ := trodAll_cons hA
  obtain ⟨rfl, rfl, rfl⟩ := trodAll_nil r0
  obtain rfl : args = #[v0] := by cases args; simp_all
  obtain ⟨rfl, rfl⟩ := trodVars_none hV
  obtain ⟨a0, len0, cap0, rfl⟩ := okWide_slice Try.underlying49 (hval 0 49 v0 rfl rfl)
  have k0 := h0
  have lt0 : ∀ x ∈ p0, x.block < W.heap.size := by obtain ⟨m, hm⟩ := k0; exact DataW.trod_lt m _ _ _ hm
  have rows : Asks4 W a0 len0 cap0 := by obtain ⟨fuel, hf⟩ := h0; exact asks4_of hf
  clear hA0 hval0
  refine (wireNums_walk a0 len0 cap0 W rows).mono fun e W' ⟨he, bel⟩ => ?_
  subst he
  exact ⟨_, rfl, _, _, _, [], _, [], hW', trodAll_mk1 (shut_bool Try.underlying4 _), (trodAll_cons_mk (Below.trod wireNums_laidOut (by kernel_rfl) (of_decide_eq_true (by kernel_rfl)) k0 bel lt0) trodAll_mk0), rfl, bel.frame _, fun h => by cases h⟩
theorem wireNums_over : Rows.wireNumsRow.holds Try.pinned (OpenSpec.ofChange Rows.wireNumsSpec) :=
  OpenClaim.holds_of_wide 12 Try.f12 rfl rfl rfl rfl rfl rfl rfl ⟨rfl, rfl, rfl, rfl, rfl⟩ rfl rfl rfl rfl rfl (by kernel_rfl) Try.func12 (by kernel_rfl)
    (of_decide_eq_true (by kernel_rfl)) (by unfold Func.isWrapper; first | (rw [if_pos (by decide +kernel)]; kernel_rfl) | (rw [if_neg (by decide +kernel)]; exact ⟨rfl, rfl⟩))
    (fun os started H enc _ => wireNums_lifted os started H enc)
/-- The given statement of WireNums. -/
theorem wireNums_holds : Rows.WireNumsSaid := wireNums_over
end Go.Proofs.Ytdammgpflfoppab
