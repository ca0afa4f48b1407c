/- For every list, FnvOnes answers true and leaves its argument as it was: each byte has a sum of its own, behind any sum; noughts are not nothing. No condition. -/
import Derived.Test.YtdammgpflfoppabAsk3
import Derived.Test.YtdammgpflfoppabFnvc
import Derived.Deep.QuietTactic
import Derived.BigQuiet
import Derived.Deep.RegionWith
import Derived.Deep.RegionHeld3
namespace Go.Proofs.Ytdammgpflfoppab
open Go.ChangeShapes Go.WideShapes Go.ChangeAt Go.RowKit Go.Deep
set_option linter.unusedVariables false
set_option maxRecDepth 100000 in
set_option maxHeartbeats 1600000 in
theorem fnvOnes_walk (a : Option Addr) (len cap : Nat) (w : World) (rows : Asks3 w a len cap) :
    Calls Try.prog 11 #[.slice a len cap] w fun e w' => e = .returned (.bool true) ∧ Below w.heap.size w w' := by
  obtain ⟨hl, hm, hall⟩ := rows
  have HALL := Hk.mk hall
  clear hall
  go_enter Try.func11, Try.ntmps11
  go_wp2
  go_loopw [3] (fun i  wr => ∃ (k : Nat), i = .int .i64 k ∧ k ≤ len ∧ k ≤ 3 ∧ Hk (Below w.heap.size w wr)) (fun i  _ => 3 - (intOf i).toNat)
  case atStart => exact ⟨0, rfl, by omega, by omega, ⟨Below.refl _ _⟩⟩
  case round =>
    obtain ⟨k, rfl, hk, hk2, HB⟩ := hrel
    by_cases hlt : k < len ∧ k < 3
    · obtain ⟨g1, g2⟩ := hlt
      obtain ⟨b, off, s, ab, nb, cb, xs, z, rfl, hbl, hs, hnb, hcb, hby, hz, c0, c1, c2⟩ := HALL.out k g1
      have d0 := (HB.out.cell (p := ⟨b, off + k * 3, none⟩) hbl).trans c0
      have d1 := (HB.out.cell (p := ⟨b, off + k * 3 + 1, none⟩) hbl).trans c1
      have d2 := (HB.out.cell (p := ⟨b, off + k * 3 + 2, none⟩) hbl).trans c2
      have HY := Hk.mk (hby.below HB.out (Nat.le_refl _))
      have hsz := HB.out.size
      have D0 := Hk.mk c0
      clear hby c0 c1 c2
      have g3 : decide ((k : Int) < 3) = true := by simp; omega
      go_wp2
      obtain ⟨G, hG⟩ : ∃ G, G = wr.heap.size := ⟨_, rfl⟩
      have HA := Hk.mk (Arr.new wr Try.zeroCells48 48 256 .u64 (fun i => Fn.sumS s [(i : Int)]) zero48)
      have HB2 : Hk (Below w.heap.size w (wr.alloc (.cells Try.zeroCells48 48))) := ⟨HB.out.alloc hsz _⟩
      rw [← hG] at HA ⊢
      rw [← hG] at hsz
      clear hG d0 d1 d2 HY HB
      generalize wr.alloc (.cells Try.zeroCells48 48) = wo at *
      go_loopw [5] (fun i wr => ∃ (j : Nat), i = .int .i64 j ∧ j ≤ 256 ∧ Hk (Below w.heap.size w wr) ∧ Hk (Arr wr G 48 256 j .u64 (fun i => Fn.sumS s [(i : Int)]))) (fun i _ => 256 - (intOf i).toNat)
      case atStart => exact ⟨0, rfl, by omega, HB2, HA⟩
      case round =>
        obtain ⟨j, rfl, hj, HB3, HA3⟩ := hrel
        by_cases hj2 : j < 256
        · have d0 := (HB3.out.cell (p := ⟨b, off + k * 3, none⟩) hbl).trans D0.out
          have hGs := HA3.out.lt
          have hsz3 := HB3.out.size
          have j0 : (0 : Int) ≤ (j : Int) := by omega
          have j1 : (j : Int) < 256 := by omega
          have jb : Fn.Byt (j : Int) := by unfold Fn.Byt; omega
          have HL := Hk.mk (By.lit1 wr (j : Int) 5 (0, 0) jb)
          obtain ⟨x, hx⟩ : ∃ x, Fn.sumS s [(j : Int)] = x := ⟨_, rfl⟩
          have HX := Hk.mk hx
          have HA4 := Hk.mk (HA3.out.below ((Below.refl _ wr).alloc (Nat.le_refl _) (.cells #[.int .u8 (j : Int)] 5)) hGs)
          obtain ⟨v0, hv0⟩ := HA4.out.ex (i := j) hj2
          have hf0 := HA4.out.free j
          clear hx jb
          go_wp2_with (go_at_call 29; refine (sum_asE s _ 1 _ [(j : Int)] x _ HL.out (by omega) HX).mono ?_; rintro e w6 ⟨rfl, rfl⟩)
          have HA5 : Hk (Arr ((wr.setCell ⟨G, j, none⟩ (.int .u64 x)).alloc (.cells #[.int .u8 (j : Int)] 5)) G 48 256 (j + 1) .u64 (fun i => Fn.sumS s [(i : Int)])) := by
            have h5 := HA3.out.set_ hj2
            simp only [HX.out] at h5
            exact ⟨h5.below ((Below.refl _ _).alloc (Nat.le_refl _) _) h5.lt⟩
          have HB5 : Hk (Below w.heap.size w ((wr.setCell ⟨G, j, none⟩ (.int .u64 x)).alloc (.cells #[.int .u8 (j : Int)] 5))) := ⟨(HB3.out.setCell (p := ⟨G, j, none⟩) hsz _).alloc (by simp [World.setCell]; exact hsz3) _⟩
          clear d0 hGs hv0 hf0 HA4 HL HA3 HB3 hsz3
          generalize (wr.setCell ⟨G, j, none⟩ (.int .u64 x)).alloc (.cells #[.int .u8 (j : Int)] 5) = w7 at *
          go_loopw [6] (fun i wr => ∃ (q : Nat), i = .int .i64 q ∧ q ≤ j ∧ Hk (∃ m, wr = w7.drewN m)) (fun i _ => j - (intOf i).toNat)
          case atStart => exact ⟨0, rfl, by omega, ⟨0, rfl⟩⟩
          case round =>
            obtain ⟨q, rfl, hq, HW⟩ := hrel
            by_cases hq2 : q < j
            · have c1 : wr.cell? ⟨G, q, none⟩ = some (.int .u64 (Fn.sumS s [(q : Int)])) := by obtain ⟨m, rfl⟩ := HW.out; exact (HA5.out.drewN m).cell (i := q) (by omega)
              have c2 : wr.cell? ⟨G, j, none⟩ = some (.int .u64 (Fn.sumS s [(j : Int)])) := by obtain ⟨m, rfl⟩ := HW.out; exact (HA5.out.drewN m).cell (i := j) (by omega)
              rw [HX.out] at c2
              obtain ⟨y, hy⟩ : ∃ y, Fn.sumS s [(q : Int)] = y := ⟨_, rfl⟩
              have hyx : (y == x) = false := by
                rw [← hy, ← HX.out]
                refine beq_eq_false_iff_ne.2 fun h => ?_
                have := Fn.step_inj_b (s := s) (b := (q : Int)) (c := (j : Int)) hs (by unfold Fn.Byt; omega) (by unfold Fn.Byt; omega) h
                omega
              rw [hy] at c1
              have j3 : (0 : Int) ≤ (q : Int) := by omega
              have j4 : (q : Int) < (j : Int) := by omega
              have j5 : (q : Int) < 256 := by omega
              clear hy
              go_wp2
              go_quiet (fail)
              go_wp2
              go_roundw
              case rel => exact ⟨q + 1, by go_num, by omega, ⟨by obtain ⟨m, rfl⟩ := HW.out; exact ⟨_, by rw [World.drewN_drewN]⟩⟩⟩
              case measure => simp [intOf]; omega
            · have hqj : q = j := by omega
              subst hqj
              go_wp2
              go_roundw
              case rel =>
                obtain ⟨m, rfl⟩ := HW.out
                first | exact ⟨q + 1, by go_num, by omega, ⟨below_drewN HB5.out m⟩, ⟨HA5.out.drewN m⟩⟩
              case measure => simp [intOf]; omega
        · have hj3 : j = 256 := by omega
          subst hj3
          go_wp2
          go_roundw
          case rel => exact ⟨k + 1, by go_num, by omega, by omega, HB3⟩
          case measure => simp [intOf]; omega
    · obtain ⟨ST, A1, A2, A3, A4, HST, H1, H2, H3, H4, n1, n2, n3⟩ := ones_ex
      have n4 : (A1 != ST) = true := by rw [bne, n1]; rfl
      have n5 : (A2 != A1) = true := by rw [bne, n2]; rfl
      have n6 : (A3 != A4) = true := by rw [bne, n3]; rfl
      have b0 : Fn.Byt 0 := by unfold Fn.Byt; omega
      have b1 : Fn.Byt 1 := by unfold Fn.Byt; omega
      have b2 : Fn.Byt 2 := by unfold Fn.Byt; omega
      go_wp2_with (first | (go_at_call 32; (with_reducible refine (start_as ST _ HST).mono ?_); rintro e w' ⟨rfl, rfl⟩) | (go_at_call 29; (with_reducible refine (sum_asE ST _ 1 _ [0] A1 _ ?_ (by omega) H1).mono ?_); exact By.at1 _ 0 _ _ _ (by simp) b0; rintro e w' ⟨rfl, rfl⟩) | (go_at_call 29; (with_reducible refine (sum_asE ST _ 2 _ [0, 0] A2 _ ?_ (by omega) H2).mono ?_); exact By.at2 _ 0 0 _ _ _ (by simp) b0 b0; rintro e w' ⟨rfl, rfl⟩) | (go_at_call 29; (with_reducible refine (sum_asE ST _ 2 _ [1, 2] A3 _ ?_ (by omega) H3).mono ?_); exact By.at2 _ 1 2 _ _ _ (by simp) b1 b2; rintro e w' ⟨rfl, rfl⟩) | (go_at_call 29; (with_reducible refine (sum_asE ST _ 2 _ [2, 1] A4 _ ?_ (by omega) H4).mono ?_); exact By.at2 _ 2 1 _ _ _ (by simp) b2 b1; rintro e w' ⟨rfl, rfl⟩) | (go_at_call 33; (with_reducible refine (wakes3_any _).mono ?_); rintro e w' ⟨rfl, hb⟩))
      all_goals
        have hs := HB.out.size
        go_ret
        refine ⟨rfl, Below.trans ?_ (hb.mono ?_)⟩
        · repeat (refine Below.alloc ?_ (by first | omega | (simp; omega)) _)
          exact HB.out
        · simp; omega

theorem fnvOnes_own : ownKnob Try.prog.godebug = none := by kernel_rfl
theorem fnvOnes_laidOut : laidOutB Try.prog = true := by kernel_rfl
set_option maxRecDepth 100000 in
theorem fnvOnes_lifted (os : Os) (started : os.Started) (H : Type) (enc : TypeId × Value → H) :
    ReturnsInHanded {} Try.checked os 11 .any (Rows.fnvOnesSpec.pre6 enc Try.prog Try.f11 Rows.fnvOnesRow.domain false) (Rows.fnvOnesSpec.post enc Try.prog Try.f11 false true false false) := by
  refine returnsInHanded_of_change (C := Try.checked) fnvOnes_own started (by kernel_rfl) Try.func11
    (ChangeSpec.witness6 (enc := enc) (C := Try.checked) false ⟨#[], #[.slice none 0 0], []⟩ 8 (by kernel_rfl) (by kernel_rfl) (by kernel_rfl) (by kernel_rfl)) ?_
  intro W base args ds gs before hval0 hW hcnd _
  have hval : ∀ (j : Nat) t v, Try.f11.params[j]? = some t → args[j]? = some v → Value.okWide Try.prog W .any base t v := hval0
  have hW' := hW
  obtain ⟨p, q, hA0, hV, rfl, hfz, hnd⟩ := hW
  have hA : DataW.TrodAll enc Try.prog W 0 (fun _ => true) true Try.f11.params.toList args.toList ds p := hA0
  rw [Try.params11] at hA hval
  obtain ⟨v0, vs0, d0, ds0, p0, q0, hargs, rfl, rfl, h0, r0⟩ := trodAll_cons hA
  obtain ⟨rfl, rfl, rfl⟩ := trodAll_nil r0
  obtain rfl : args = #[v0] := by cases args; simp_all
  obtain ⟨rfl, rfl⟩ := trodVars_none hV
  obtain ⟨a0, len0, cap0, rfl⟩ := okWide_slice Try.underlying37 (hval 0 37 v0 rfl rfl)
  have k0 := h0
  have lt0 : ∀ x ∈ p0, x.block < W.heap.size := by obtain ⟨m, hm⟩ := k0; exact DataW.trod_lt m _ _ _ hm
  have rows : Asks3 W a0 len0 cap0 := by obtain ⟨fuel, hf⟩ := h0; exact asks3_of hf
  clear hA0 hval0
  refine (fnvOnes_walk a0 len0 cap0 W rows).mono fun e W' ⟨he, bel⟩ => ?_
  subst he
  exact ⟨_, rfl, _, _, _, [], _, [], hW', trodAll_mk1 (shut_bool Try.underlying4 _), (trodAll_cons_mk (Below.trod fnvOnes_laidOut (by kernel_rfl) (of_decide_eq_true (by kernel_rfl)) k0 bel lt0) trodAll_mk0), rfl, bel.frame _, fun h => by cases h⟩
theorem fnvOnes_over : Rows.fnvOnesRow.holds Try.pinned (OpenSpec.ofChange Rows.fnvOnesSpec) :=
  OpenClaim.holds_of_wide 11 Try.f11 rfl rfl rfl rfl rfl rfl rfl ⟨rfl, rfl, rfl, rfl, rfl⟩ rfl rfl rfl rfl rfl (by kernel_rfl) Try.func11 (by kernel_rfl)
    (of_decide_eq_true (by kernel_rfl)) (by unfold Func.isWrapper; first | (rw [if_pos (by decide +kernel)]; kernel_rfl) | (rw [if_neg (by decide +kernel)]; exact ⟨rfl, rfl⟩))
    (fun os started H enc _ => fnvOnes_lifted os started H enc)
/-- The given statement of FnvOnes. -/
theorem fnvOnes_holds : Rows.FnvOnesSaid := fnvOnes_over
end Go.Proofs.Ytdammgpflfoppab
