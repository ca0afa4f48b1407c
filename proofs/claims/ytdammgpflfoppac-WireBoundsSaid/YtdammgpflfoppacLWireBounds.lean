/- For every list, WireBounds answers true and leaves its argument as it was: a number has as many bytes as its bits need; the least and the greatest ones there and back; what is longer than it needs, or too great, is none. No condition. -/
import Derived.Test.YtdammgpflfoppacWirh
import Derived.Deep.QuietTactic
import Derived.BigQuiet
import Derived.Deep.RegionWith
import Derived.Deep.RegionHeld3
namespace Go.Proofs.Ytdammgpflfoppac
open Go.ChangeShapes Go.WideShapes Go.ChangeAt Go.RowKit Go.Deep
set_option linter.unusedVariables false
set_option maxRecDepth 100000 in
set_option maxHeartbeats 1600000 in
theorem wireBounds_walk (a : Option Addr) (len cap : Nat) (w : World) (rows : Asks4 w a len cap) :
    Calls Try.prog 4 #[.slice a len cap] w fun e w' => e = .returned (.bool true) ∧ Below w.heap.size w w' := by
  clear rows
  go_enter Try.func4, Try.ntmps4
  go_wp2
  go_loopw [3] (fun i wr => ∃ (k : Nat), i = .int .i64 k ∧ k ≤ 63 ∧ Hk (Below w.heap.size w wr)) (fun i _ => 63 - (intOf i).toNat)
  case atStart => exact ⟨0, rfl, by omega, ⟨Below.refl _ _⟩⟩
  case round =>
    obtain ⟨k, rfl, hk, HB⟩ := hrel
    have hsz := HB.out.size
    by_cases hlt : k < 63
    · obtain ⟨L1, L2, HL1, HL2, hm1, hm2⟩ := two_lens hlt
      have hp : (2 : Int) ^ k ≤ 4611686018427387904 := by
        have h : 2 ^ k ≤ 2 ^ 62 := Nat.pow_le_pow_right (by omega) (by omega)
        have : ((2 ^ k : Nat) : Int) ≤ ((2 ^ 62 : Nat) : Int) := Int.ofNat_le.2 h
        rw [Int.natCast_pow] at this
        simpa using this
      have hp0 : (1 : Int) ≤ 2 ^ k := by
        have h : 0 < 2 ^ k := Nat.pow_pos (by omega)
        have : ((1 : Nat) : Int) ≤ ((2 ^ k : Nat) : Int) := Int.ofNat_le.2 h
        rw [Int.natCast_pow] at this
        simpa using this
      obtain ⟨P, hP⟩ : ∃ P : Nat, P = 2 ^ k := ⟨_, rfl⟩
      have hPi : (2 : Int) ^ k = (P : Int) := by rw [hP, Int.natCast_pow]; rfl
      rw [hPi] at hp hp0
      rw [← hP] at HL1 HL2
      have HZ1 : Hk (P - 1 ≤ 9223372036854775807) := ⟨by omega⟩
      have HZ2 : Hk (P ≤ 9223372036854775807) := ⟨by omega⟩
      have i1 : (k : Int) < 63 := by omega
      have i0 : (0 : Int) ≤ (k : Int) := by omega
      clear hP
      go_wp2_with (first | (go_at_call_of 7 (Value.int IntKind.i64 (P : Int)); (refine (num_len _ P L2 _ ⟨rfl⟩ HZ2 HL2).mono ?_); rintro e w2 ⟨v2, rfl, ho2, hb2⟩; obtain ⟨a2, c2, rfl, -, hy2, -⟩ := ho2.by_; have HY2 := Hk.mk hy2; have HB2 := Hk.mk hb2; clear ho2 hy2 hb2) | (go_at_call 7; (refine (num_len _ (P - 1) L1 _ ⟨by omega⟩ HZ1 HL1).mono ?_); rintro e w1 ⟨v1, rfl, ho1, hb1⟩; obtain ⟨a1, c1, rfl, -, hy1, -⟩ := ho1.by_; have HY1 := Hk.mk hy1; have HB1 := Hk.mk hb1; clear ho1 hy1 hb1) | (go_at_call 8; (with_reducible refine (lawnum_any _ _).mono ?_); rintro e w' ⟨rfl, rfl⟩))
      go_roundw
      case rel => exact ⟨k + 1, by go_num, by omega, ⟨HB.out.trans ((HB1.out.trans (HB2.out.mono HB1.out.size)).mono hsz)⟩⟩
      case measure => simp [intOf]; omega
    · have e63 : decide ((k : Int) < 63) = false := by simp; omega
      go_wp2
      have HL7 : Hk (∀ j, j < 7 → (wr.alloc (.cells #[.int .i64 (-4611686018427387904), .int .i64 4611686018427387903, .int .i64 (-1), .int .i64 0, .int .i64 1, .int .i64 1099511627776, .int .i64 (-1099511627776)] 3)).cell? ⟨wr.heap.size, j, none⟩ = some (.int .i64 (lowL.getD j 0))) := ⟨fun j hj => low_cell wr 3 hj⟩
      have HB2 : Hk (Below w.heap.size w (wr.alloc (.cells #[.int .i64 (-4611686018427387904), .int .i64 4611686018427387903, .int .i64 (-1), .int .i64 0, .int .i64 1, .int .i64 1099511627776, .int .i64 (-1099511627776)] 3))) := ⟨HB.out.alloc hsz _⟩
      have hG : wr.heap.size < (wr.alloc (.cells #[.int .i64 (-4611686018427387904), .int .i64 4611686018427387903, .int .i64 (-1), .int .i64 0, .int .i64 1, .int .i64 1099511627776, .int .i64 (-1099511627776)] 3)).heap.size := by simp
      generalize wr.alloc (.cells #[.int .i64 (-4611686018427387904), .int .i64 4611686018427387903, .int .i64 (-1), .int .i64 0, .int .i64 1, .int .i64 1099511627776, .int .i64 (-1099511627776)] 3) = wo at *
      generalize wr.heap.size = G at *
      go_loopw [9] (fun i wr => ∃ (j : Nat), i = .int .i64 j ∧ j ≤ 7 ∧ Hk (Below wo.heap.size wo wr)) (fun i _ => 7 - (intOf i).toNat)
      case atStart => exact ⟨0, rfl, by omega, ⟨Below.refl _ _⟩⟩
      case round =>
        obtain ⟨j, rfl, hj, HB3⟩ := hrel
        have hsz3 := HB3.out.size
        by_cases hj2 : j < 7
        · have d0 := (HB3.out.cell (p := ⟨G, j, none⟩) hG).trans (HL7.out j hj2)
          have hs62 := low62 hj2
          obtain ⟨s, hsd⟩ : ∃ s, lowL.getD j 0 = s := ⟨_, rfl⟩
          rw [hsd] at d0 hs62
          have D0 := Hk.mk ((HL7.out j hj2).trans (by rw [hsd]))
          have H62 := Hk.mk hs62
          have j0 : (0 : Int) ≤ (j : Int) := by omega
          have j7 : (j : Int) < 7 := by omega
          obtain ⟨L, hL⟩ : ∃ L, (Wr.numL (Wr.zig s)).length = L := ⟨_, rfl⟩
          have HL := Hk.mk hL
          have HL9 := Hk.mk (Wr.numL_nine (n := Wr.zig s) (by have := zig_bd hs62; omega))
          clear hsd hs62 hL
          go_wp2_with (first | (go_at_call 11; (with_reducible refine (int_any s _ H62.out).mono ?_); rw [HL.out]; rintro e w4 ⟨v4, rfl, ho4, hb4⟩; obtain ⟨a4, c4, rfl, -, hy4, -⟩ := ho4.by_; have HY4 := Hk.mk hy4; have HB4 := Hk.mk hb4; have e0 := (hb4.cell (p := ⟨G, j, none⟩) (Nat.lt_of_lt_of_le hG hsz3)).trans d0; clear ho4 hy4 hb4) | (go_at_call 12; refine (getint_back s _ L _ L [] _ H62.out (by rw [List.append_nil]; exact HY4.out) (by have := HL9.out; rw [HL.out] at this; omega) HL).mono ?_; rintro e w' ⟨rfl, rfl⟩) | (go_at_call 8; (with_reducible refine (lawnum_any _ _).mono ?_); rintro e w' ⟨rfl, rfl⟩))
          go_roundw
          case rel => exact ⟨j + 1, by go_num, by omega, ⟨HB3.out.trans (HB4.out.mono hsz3)⟩⟩
          case measure => simp [intOf]; omega
        · obtain rfl : j = 7 := by omega
          have n1 : Hk (¬ I62 4611686018427387904) := ⟨by unfold I62; omega⟩
          have n2 : Hk (¬ I62 (-4611686018427387905)) := ⟨by unfold I62; omega⟩
          have g1 : Hk (Wr.getS [128, 0] = (0, 0, 1)) := ⟨by decide⟩
          have g2 : Hk (Wr.getS [255, 255, 255, 255, 255, 255, 255, 255, 255] = (0, 0, 1)) := ⟨by decide⟩
          have g3 : Hk (Wr.getS [255, 255, 255, 255, 255, 255, 255, 255] = (0, 0, 11)) := ⟨by decide⟩
          have g4 : Hk (Wr.getS [] = (0, 0, 11)) := ⟨by decide⟩
          have b0 : Fn.Byt 0 := by unfold Fn.Byt; omega
          have b1 : Fn.Byt 128 := by unfold Fn.Byt; omega
          have b2 : Hk (∀ k : Nat, ∀ b ∈ List.replicate k (255 : Int), Fn.Byt b) := ⟨fun k b hb => by rw [List.eq_of_mem_replicate hb]; unfold Fn.Byt; omega⟩
          have RAW := Hk.mk big_raw
          obtain ⟨L, hL⟩ : ∃ L, (Wr.numL 1048577).length = L := ⟨_, rfl⟩
          have HL := Hk.mk hL
          have HL9 := Hk.mk (Wr.numL_nine (n := 1048577) (by omega))
          clear hL
          go_wp2_with (first | (go_at_call_of 11 (Value.int IntKind.i64 4611686018427387904); refine (int_no 4611686018427387904 _ n1.out).mono ?_; rintro e w' ⟨rfl, rfl⟩) | (go_at_call 11; refine (int_no (-4611686018427387905) _ n2.out).mono ?_; rintro e w' ⟨rfl, rfl⟩) | (go_at_call_of 9 (none : Option Addr); refine (getnum_as _ 0 _ [] _ 0 0 11 (By.nil _ _ _) (by omega) g4).mono ?_; rintro e w' ⟨rfl, rfl⟩) | (go_at_call 9; (with_reducible refine (getnum_as _ 2 _ [128, 0] _ 0 0 1 ?_ (by omega) g1).mono ?_); exact By.at2 _ 128 0 _ _ _ (by simp) b1 b0; rintro e w' ⟨rfl, rfl⟩) | (go_at_call 9; (with_reducible refine (getnum_as _ 9 _ [255, 255, 255, 255, 255, 255, 255, 255, 255] _ 0 0 1 ?_ (by omega) g2).mono ?_); exact By.litAt _ [255, 255, 255, 255, 255, 255, 255, 255, 255] _ _ _ 9 (by simp) rfl (b2.out 9); rintro e w' ⟨rfl, rfl⟩) | (go_at_call 9; (with_reducible refine (getnum_as _ 8 _ [255, 255, 255, 255, 255, 255, 255, 255] _ 0 0 11 ?_ (by omega) g3).mono ?_); exact By.litAt _ [255, 255, 255, 255, 255, 255, 255, 255] _ _ _ 8 (by simp) rfl (b2.out 8); rintro e w' ⟨rfl, rfl⟩) | (go_at_call 7; refine (num_len 1048577 1048577 L _ ⟨rfl⟩ ⟨by omega⟩ HL).mono ?_; rintro e w5 ⟨v5, rfl, ho5, hb5⟩; obtain ⟨a5, c5, rfl, -, hy5, -⟩ := ho5.by_; have HY5 := Hk.mk hy5; have HB5 := Hk.mk hb5; clear ho5 hy5 hb5) | (go_at_call 14; refine (getraw_bad _ L _ _ 1 _ HY5.out (by have := HL9.out; rw [HL.out] at this; omega) RAW (by omega)).mono ?_; rintro e w' ⟨rfl, rfl⟩) | (go_at_call 8; (with_reducible refine (lawnum_any _ _).mono ?_); rintro e w' ⟨rfl, rfl⟩) | (go_at_call 16; (with_reducible refine (wakes4_any _).mono ?_); rintro e w' ⟨rfl, hb⟩))
          have hs := (HB2.out.trans (HB3.out.mono HB2.out.size)).size
          go_ret
          refine ⟨rfl, Below.trans (HB2.out.trans (HB3.out.mono HB2.out.size)) ?_⟩
          refine Below.trans ?_ (Below.trans (HB5.out.mono ?_) (hb.mono ?_))
          · repeat (refine Below.alloc ?_ (by first | omega | (simp; omega)) _)
            exact Below.refl _ _
          · simp; omega
          · have := HB5.out.size; simp at this; omega

theorem wireBounds_own : ownKnob Try.prog.godebug = none := by kernel_rfl
theorem wireBounds_laidOut : laidOutB Try.prog = true := by kernel_rfl
set_option maxRecDepth 100000 in
theorem wireBounds_lifted (os : Os) (started : os.Started) (H : Type) (enc : TypeId × Value → H) :
    ReturnsInHanded {} Try.checked os 4 .any (Rows.wireBoundsSpec.pre6 enc Try.prog Try.f4 Rows.wireBoundsRow.domain false) (Rows.wireBoundsSpec.post enc Try.prog Try.f4 false true false false) := by
  refine returnsInHanded_of_change (C := Try.checked) wireBounds_own started (by kernel_rfl) Try.func4
    (ChangeSpec.witness6 (enc := enc) (C := Try.checked) false ⟨#[], #[.slice none 0 0], []⟩ 8 (by kernel_rfl) (by kernel_rfl) (by kernel_rfl) (by kernel_rfl)) ?_
  intro W base args ds gs before hval0 hW hcnd _
  have hval : ∀ (j : Nat) t v, Try.f4.params[j]? = some t → args[j]? = some v → Value.okWide Try.prog W .any base t v := hval0
  have hW' := hW
  obtain ⟨p, q, hA0, hV, rfl, hfz, hnd⟩ := hW
  have hA : DataW.TrodAll enc Try.prog W 0 (fun _ => true) true Try.f4.params.toList args.toList ds p := hA0
  rw [Try.params4] at hA hval
  obtain ⟨v0, vs0, d0, ds0, p0, q0, hargs, rfl, rfl, h0, r0⟩ := trodAll_cons hA
  obtain ⟨rfl, rfl, rfl⟩ := trodAll_nil r0
  obtain rfl : args = #[v0] := by cases args; simp_all
  obtain ⟨rfl, rfl⟩ := trodVars_none hV
  obtain ⟨a0, len0, cap0, rfl⟩ := okWide_slice Try.underlying22 (hval 0 22 v0 rfl rfl)
  have k0 := h0
  have lt0 : ∀ x ∈ p0, x.block < W.heap.size := by obtain ⟨m, hm⟩ := k0; exact DataW.trod_lt m _ _ _ hm
  have rows : Asks4 W a0 len0 cap0 := by obtain ⟨fuel, hf⟩ := h0; exact asks4_of hf
  clear hA0 hval0
  refine (wireBounds_walk a0 len0 cap0 W rows).mono fun e W' ⟨he, bel⟩ => ?_
  subst he
  exact ⟨_, rfl, _, _, _, [], _, [], hW', trodAll_mk1 (shut_bool Try.underlying4 _), (trodAll_cons_mk (Below.trod wireBounds_laidOut (by kernel_rfl) (of_decide_eq_true (by kernel_rfl)) k0 bel lt0) trodAll_mk0), rfl, bel.frame _, fun h => by cases h⟩
theorem wireBounds_over : Rows.wireBoundsRow.holds Try.pinned (OpenSpec.ofChange Rows.wireBoundsSpec) :=
  OpenClaim.holds_of_wide 4 Try.f4 rfl rfl rfl rfl rfl rfl rfl ⟨rfl, rfl, rfl, rfl, rfl⟩ rfl rfl rfl rfl rfl (by kernel_rfl) Try.func4 (by kernel_rfl)
    (of_decide_eq_true (by kernel_rfl)) (by unfold Func.isWrapper; first | (rw [if_pos (by decide +kernel)]; kernel_rfl) | (rw [if_neg (by decide +kernel)]; exact ⟨rfl, rfl⟩))
    (fun os started H enc _ => wireBounds_lifted os started H enc)
/-- The given statement of WireBounds. -/
theorem wireBounds_holds : Rows.WireBoundsSaid := wireBounds_over
end Go.Proofs.Ytdammgpflfoppac
