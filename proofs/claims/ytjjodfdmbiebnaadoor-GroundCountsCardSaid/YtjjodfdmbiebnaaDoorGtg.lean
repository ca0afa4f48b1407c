/- Layer 6: GroundCounts, walked. -/
import Derived.Test.YtjjodfdmbiebnaaDoorGtf
import Derived.Test.YtjjodfdmbiebnaaDoorGte
import Derived.Deep.QuietTactic
import Derived.BigQuiet
import Derived.Deep.RegionWith
import Derived.Deep.RegionHeld3
import Derived.Deep.DeepCutAuto
import Derived.Deep.DeepFit
import Derived.Outline
namespace Go.Proofs.YtjjodfdmbiebnaaDoor
open Go.ChangeShapes Go.WideShapes Go.ChangeAt Go.RowKit Go.Deep
set_option linter.unusedVariables false
set_option maxRecDepth 100000 in
set_option maxHeartbeats 3200000 in
theorem groundCounts_go (VW VH : Int) (a : Option Addr) (n0 c : Nat) (ta : Option Addr) (tn tc : Nat) (pa : Option Addr) (pn pc : Nat) (w : World) (hL : LT w) :
    Calls Tryd.prog 4 #[.agg #[.int .i64 VW, .int .i64 VH, .slice a n0 c, .slice ta tn tc, .slice pa pn pc]] w fun e w' => e = .returned (.bool true) ∧ Below w.heap.size w w' := by
  have info_b : (Tryd.prog.info? 5).map (fun i => (i.zero, i.size, i.bytes)) = some (some (.int .u8 0), 1, 1) := by kernel_rfl
  obtain ⟨i0, hi, hz0, hz1, hz2⟩ := info_parts info_b
  clear info_b
  have HWB : Hk (Below w.heap.size w (w.alloc (.cells #[.int .i64 VW, .int .i64 VH, .slice a n0 c, .slice ta tn tc, .slice pa pn pc] 28))) := ⟨(Below.refl _ _).alloc (Nat.le_refl _) _⟩
  have HTR : Hk (∀ X, Below (w.heap.size + 1) (w.alloc (.cells #[.int .i64 VW, .int .i64 VH, .slice a n0 c, .slice ta tn tc, .slice pa pn pc] 28)) X → Below w.heap.size w X) := ⟨fun X hX => HWB.out.trans (hX.mono (by omega))⟩
  have HLL := Hk.mk (fun (X : World) (hX : Below (w.heap.size + 1) (w.alloc (.cells #[.int .i64 VW, .int .i64 VH, .slice a n0 c, .slice ta tn tc, .slice pa pn pc] 28)) X) => hL.below (HTR.out X hX) (Nat.le_refl _))
  have HB : Hk (Below (w.heap.size + 1) (w.alloc (.cells #[.int .i64 VW, .int .i64 VH, .slice a n0 c, .slice ta tn tc, .slice pa pn pc] 28)) (w.alloc (.cells #[.int .i64 VW, .int .i64 VH, .slice a n0 c, .slice ta tn tc, .slice pa pn pc] 28))) := ⟨Below.refl _ _⟩
  have hNW : w.heap.size + 1 ≤ (w.alloc (.cells #[.int .i64 VW, .int .i64 VH, .slice a n0 c, .slice ta tn tc, .slice pa pn pc] 28)).heap.size := by simp
  clear hL
  go_enter Tryd.func4, Tryd.ntmps4
  go_wp2_with fail
  go_loopw [3] (fun i wr => ∃ W : Int, i = .int .i64 W ∧ 1 ≤ W ∧ W ≤ 5 ∧ Hk (Below (w.heap.size + 1) (w.alloc (.cells #[.int .i64 VW, .int .i64 VH, .slice a n0 c, .slice ta tn tc, .slice pa pn pc] 28)) wr)) (fun i _ => (5 - intOf i).toNat)
  case atStart => exact ⟨1, rfl, by omega, by omega, HB⟩
  case round =>
    clear HB
    obtain ⟨W, rfl, w1, w5, HB⟩ := hrel
    by_cases hw : W ≤ 4
    · have bw : decide (W ≤ 4) = true := by simpa using hw
      go_wp2_with fail
      obtain ⟨wo, rfl⟩ : ∃ wo : World, wo = wr := ⟨wr, rfl⟩
      go_loopw [4] (fun i wr => ∃ H : Int, i = .int .i64 H ∧ 1 ≤ H ∧ H ≤ 5 ∧ Hk (Below (w.heap.size + 1) (w.alloc (.cells #[.int .i64 VW, .int .i64 VH, .slice a n0 c, .slice ta tn tc, .slice pa pn pc] 28)) wr)) (fun i _ => (5 - intOf i).toNat)
      case atStart => exact ⟨1, rfl, by omega, by omega, HB⟩
      case round =>
        clear HB
        obtain ⟨H, rfl, h1, h5, HB⟩ := hrel
        by_cases hh : H ≤ 4
        · have bh : decide (H ≤ 4) = true := by simpa using hh
          obtain ⟨m1, m2⟩ := mul_bd w1 (by omega) h1 (by omega)
          obtain ⟨n, hn⟩ : ∃ n : Nat, W * H = n := ⟨(W * H).toNat, by omega⟩
          have n16 : n ≤ 16 := by
            have := Int.mul_le_mul hw hh (by omega) (by omega)
            omega
          have n1 : 1 ≤ n := by omega
          have HG : Hk (GOk W H n (List.replicate n 0)) := ⟨zeros_ok W H n w1 (by omega) h1 (by omega) hn⟩
          go_wp2_with (at_make; go_must (refine wpList_make_full _ rfl _ _ 22 rfl (w.heap.size + 1) 5 i0 (.int .u8 0) 1 Tryd.underlying22 hi hz0 hz1 .i64 .i64 _ _ n rfl rfl rfl rfl (by rw [hz2]; omega) (by unfold maxLen; omega) (kw_size HB.out hNW) ?_); intro z1 hown hgrow)
          have HA := Hk.mk ((Arr.made hown rfl).alloc (.cells #[.int .i64 W, .int .i64 H, .slice (some ⟨wr.heap.size, 0, none⟩) n n] 24))
          have HV := Hk.mk ((HB.out.trans ((below_grown hgrow).mono (kw_size HB.out hNW))).alloc (Nat.le_trans (kw_size HB.out hNW) hgrow.size) (.cells #[.int .i64 W, .int .i64 H, .slice (some ⟨wr.heap.size, 0, none⟩) n n] 24))
          clear hown hgrow
          go_wp2
          have D0 : (z1.alloc (.cells #[.int .i64 W, .int .i64 H, .slice (some ⟨wr.heap.size, 0, none⟩) n n] 24)).cell? ⟨z1.heap.size, 0, none⟩ = some (.int .i64 W) := by go_simp
          have D1 : (z1.alloc (.cells #[.int .i64 W, .int .i64 H, .slice (some ⟨wr.heap.size, 0, none⟩) n n] 24)).cell? ⟨z1.heap.size, 1, none⟩ = some (.int .i64 H) := by go_simp
          have D2 : (z1.alloc (.cells #[.int .i64 W, .int .i64 H, .slice (some ⟨wr.heap.size, 0, none⟩) n n] 24)).cell? ⟨z1.heap.size, 2, none⟩ = some (.slice (some ⟨wr.heap.size, 0, none⟩) n n) := by go_simp
          have D3 : z1.heap.size < (z1.alloc (.cells #[.int .i64 W, .int .i64 H, .slice (some ⟨wr.heap.size, 0, none⟩) n n] 24)).heap.size := by simp
          generalize z1.alloc (.cells #[.int .i64 W, .int .i64 H, .slice (some ⟨wr.heap.size, 0, none⟩) n n] 24) = V at *
          generalize z1.heap.size = P at *
          generalize wr.heap.size = G at *
          have HBY : Hk (∀ X, Below V.heap.size V X → By X V.heap.size (some ⟨G, 0, none⟩) n (List.replicate n 0)) := ⟨fun X hX => zeros_by (HA.out.later hX) HA.out.lt⟩
          have HLX : Hk (∀ X, Below V.heap.size V X → LT X) := ⟨fun X hX => HLL.out _ (HV.out.trans (hX.mono (kw_size HV.out hNW)))⟩
          go_loopw [6, 7] (fun s t wr => ∃ k : Nat, s = .int .i64 (nbT W H k : Nat) ∧ t = .int .i64 k ∧ k ≤ n ∧ Hk (Below V.heap.size V wr)) (fun _ i _ => n - (intOf i).toNat)
          case atStart => exact ⟨0, rfl, rfl, by omega, ⟨Below.refl _ _⟩⟩
          case round =>
            obtain ⟨k, rfl, rfl, hk, HC⟩ := hrel
            obtain ⟨kc, kf, kl, kn, km⟩ := kw_rules HC.out (Nat.le_refl _)
            have tl := nbT_le W H k
            obtain ⟨T, hT⟩ : ∃ T, nbT W H k = T := ⟨_, rfl⟩
            rw [hT] at tl
            rw [hT]
            have HT := Hk.mk hT
            clear hT
            by_cases hlt : k < n
            · have t0 : (0 : Int) ≤ (k : Int) := by omega
              have t1 : (k : Int) < W * H := by omega
              have t2 : (k : Int) < (n : Int) := by omega
              go_wp2_with (first | (go_at_call 14; (with_reducible refine (num6_any _ _).mono ?_); rintro e w' ⟨rfl, rfl⟩) | (go_at_call 20; (with_reducible refine (near_yes k W H (some ⟨G, 0, none⟩) n n V.heap.size (List.replicate n 0) _ ?_ ?_ ?_ ?_ HG.out t0 t1).mono ?_); (exact HBY.out _ HC.out); (exact HC.out.size); (omega); (exact HLX.out _ HC.out); rintro e z9 ⟨g, rfl, hg1, hg2, hlen, hcg, hfg, hb⟩; have HCG := Hk.mk hcg; have HGV := Hk.mk (Nat.le_trans HC.out.size hg1); clear hcg hfg hlen kc kf kl kn km; have HC9 := Hk.mk (kw_step HC.out (Nat.le_refl _) hb)))
              clear HC
              obtain ⟨wp, rfl⟩ : ∃ wp : World, wp = wr := ⟨wr, rfl⟩
              go_loopw [6, 10] (fun s i wr => ∃ j : Nat, s = .int .i64 ((T + nbN W H k j : Nat) : Int) ∧ i = .int .i64 j ∧ j ≤ 8 ∧ Hk (Below z9.heap.size z9 wr)) (fun _ i _ => 8 - (intOf i).toNat)
              case atStart => exact ⟨0, rfl, rfl, by omega, ⟨Below.refl _ _⟩⟩
              case round =>
                obtain ⟨j, rfl, rfl, hj, HD⟩ := hrel
                obtain ⟨kc, kf, kl, kn, km⟩ := kw_rules HD.out (Nat.le_refl _)
                have sl := nbN_le W H k j
                by_cases hj8 : j < 8
                · obtain ⟨u, hu⟩ : ∃ u, (nbL W H k).getD j 0 = u := ⟨_, rfl⟩
                  have p0 := HCG.out j hj8
                  rw [hu] at p0
                  have HU : nb W H k j = u := by rw [← hu, nb_getD W H k j hj8]
                  have HS : Hk (nbN W H k (j + 1) = nbN W H k j + if 0 ≤ u then 1 else 0) := ⟨by rw [← HU]; rfl⟩
                  clear hu
                  obtain ⟨S, hS⟩ : ∃ S, nbN W H k j = S := ⟨_, rfl⟩
                  rw [hS] at sl HS ⊢
                  clear hS
                  have j1 : (0 : Int) ≤ (j : Int) := by omega
                  have j2 : (j : Int) < 8 := by omega
                  by_cases hneg : u < 0
                  · have b1 : decide (u < 0) = true := by simpa using hneg
                    have HS2 : Hk (nbN W H k (j + 1) = S) := ⟨by rw [HS.out, if_neg (by omega)]; rfl⟩
                    clear HU
                    go_wp2
                    exact ⟨⟨j + 1, by rw [HS2.out], by go_num, by omega, HD⟩, by simp [intOf]; omega⟩
                  · have b1 : decide (u < 0) = false := by simpa using hneg
                    have u0 : 0 ≤ u := by omega
                    have HS2 : Hk (nbN W H k (j + 1) = S + 1) := ⟨by rw [HS.out, if_pos u0]⟩
                    have u1 : u < W * H := nb_lt (by omega) HU u0
                    obtain ⟨_, hmx, hmy, _⟩ := nbS_inv (by omega) HU u0
                    have ux0 := Int.emod_nonneg u (show W ≠ 0 by omega)
                    have ux1 := Int.emod_lt_of_pos u (show 0 < W by omega)
                    have uy0 : 0 ≤ u / W := Int.ediv_nonneg u0 (by omega)
                    have uy1 : u / W ≤ u := Int.ediv_le_self _ u0
                    have kx0 := Int.emod_nonneg (k : Int) (show W ≠ 0 by omega)
                    have kx1 := Int.emod_lt_of_pos (k : Int) (show 0 < W by omega)
                    have ky0 : 0 ≤ (k : Int) / W := Int.ediv_nonneg t0 (by omega)
                    have ky1 : (k : Int) / W ≤ k := Int.ediv_le_self _ t0
                    have tm1 : u.tmod W = u % W := Int.tmod_eq_emod_of_nonneg u0
                    have tm2 : (k : Int).tmod W = (k : Int) % W := Int.tmod_eq_emod_of_nonneg t0
                    have td1 : u.tdiv W = u / W := Int.tdiv_eq_ediv_of_nonneg u0
                    have td2 : (k : Int).tdiv W = (k : Int) / W := Int.tdiv_eq_ediv_of_nonneg t0
                    have hW0 : ¬ W = 0 := by omega
                    clear HU hneg
                    obtain ⟨UX, hUX⟩ : ∃ UX, u % W = UX := ⟨_, rfl⟩
                    obtain ⟨UY, hUY⟩ : ∃ UY, u / W = UY := ⟨_, rfl⟩
                    obtain ⟨KX, hKX⟩ : ∃ KX, (k : Int) % W = KX := ⟨_, rfl⟩
                    obtain ⟨KY, hKY⟩ : ∃ KY, (k : Int) / W = KY := ⟨_, rfl⟩
                    rw [hUX] at hmx tm1 ux0 ux1
                    rw [hUY] at hmy td1 uy0 uy1
                    rw [hKX] at hmx tm2 kx0 kx1
                    rw [hKY] at hmy td2 ky0 ky1
                    clear hUX hUY hKX hKY
                    have wx : UX - KX = dxL.getD j 0 := by omega
                    have wy : UY - KY = dyL.getD j 0 := by omega
                    clear hmx hmy
                    rcases ways_tab j hj8 with ⟨q, ⟨e1, e2⟩ | ⟨e1, e2⟩ | ⟨e1, e2⟩ | ⟨e1, e2⟩⟩ | ⟨q, ⟨e1, e2⟩ | ⟨e1, e2⟩ | ⟨e1, e2⟩ | ⟨e1, e2⟩⟩
                    all_goals
                      rw [e1] at wx
                      rw [e2] at wy
                      clear e1 e2
                      have wy1 : IntKind.i64.wrap UY = UY := by rw [IntKind.wrap_i64]; omega
                      have wy2 : IntKind.i64.wrap KY = KY := by rw [IntKind.wrap_i64]; omega
                      first | have q1 : decide ((j : Int) < 4) = true := (by simp; omega) | have q1 : decide ((j : Int) < 4) = false := (by simp; omega)
                      go_wp2_with fail
                      go_quiet (fail)
                      go_wp2_with fail
                      exact ⟨⟨j + 1, by rw [HS2.out]; go_num, by go_num, by omega, ⟨below_drewN HD.out _⟩⟩, by simp [intOf]; omega⟩
                · have hj8' : j = 8 := by omega
                  subst hj8'
                  go_wp2
                  exact ⟨⟨k + 1, by rw [nbT, HT.out], by go_num, by omega, ⟨HC9.out.trans (HD.out.mono HC9.out.size)⟩⟩, by simp [intOf]; omega⟩
            · have hkn : k = n := by omega
              subst hkn
              have hfull := nbT_full w1 hw h1 hh hn
              rw [HT.out] at hfull
              clear HLX HBY HG HA
              have cw : W = 1 ∨ W = 2 ∨ W = 3 ∨ W = 4 := by omega
              have ch : H = 1 ∨ H = 2 ∨ H = 3 ∨ H = 4 := by omega
              have HC' := Hk.mk (HV.out.trans (HC.out.mono (kw_size HV.out hNW)))
              rcases cw with rfl | rfl | rfl | rfl <;> rcases ch with rfl | rfl | rfl | rfl
              all_goals
                simp at hn hfull
                obtain ⟨rfl⟩ := hn
                obtain ⟨rfl⟩ := hfull
                go_wp2
                exact ⟨⟨_, rfl, by omega, by omega, HC'⟩, by simp [intOf]⟩
        · have hH : H = 5 := by omega
          subst hH
          go_wp2
          exact ⟨⟨W + 1, by go_num, by omega, by omega, HB⟩, by simp [intOf]; omega⟩
    · have hW : W = 5 := by omega
      subst hW
      obtain ⟨hc, hf, hl, hn, hm⟩ := kw_rules HB.out hNW
      go_wp2_with (go_at_call 22; (with_reducible refine (wakes6_any _ (HLL.out _ HB.out)).mono ?_); rintro e w4 ⟨rfl, hb4⟩; have HB4 := Hk.mk hb4; clear hb4)
      go_ret
      exact ⟨rfl, (HTR.out _ HB.out).trans (HB4.out.mono (HTR.out _ HB.out).size)⟩
end Go.Proofs.YtjjodfdmbiebnaaDoor
