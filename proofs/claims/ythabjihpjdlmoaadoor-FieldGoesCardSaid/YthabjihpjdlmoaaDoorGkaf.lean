import Derived.Deep.QuietTactic
import Derived.BigQuiet
import Derived.Deep.RegionWith
import Derived.Deep.RegionHeld3
import Derived.Deep.DeepCutAuto
import Derived.Deep.DeepFit
import Derived.Outline
import Derived.Test.YthabjihpjdlmoaaDoorGkae
/- Layer 13: whoever follows the ways, where tiles are asked for. -/
namespace Go.Proofs.YthabjihpjdlmoaaDoor
open Go.ChangeShapes Go.WideShapes Go.ChangeAt Go.RowKit Go.Deep
set_option linter.unusedVariables false
set_option linter.unusedSimpArgs false
theorem xy_bd13 {W H : Int} {n t : Nat} (hW : 1 ≤ W) (hn : (n : Int) = W * H) (ht : t < n) : 0 ≤ (t : Int) % W ∧ (t : Int) % W < W ∧ 0 ≤ (t : Int) / W ∧ (t : Int) / W < H :=
  ⟨Int.emod_nonneg _ (by omega), Int.emod_lt_of_pos _ (by omega), Int.ediv_nonneg (by omega) (by omega), Int.ediv_lt_of_lt_mul (by omega) (by rw [Int.mul_comm]; omega)⟩
set_option maxRecDepth 1000000 in
set_option maxHeartbeats 20000000 in
theorem fieldGoes_in (W H : Int) (a : Option Addr) (n c : Nat) (xs : List Int) (la : Option Addr) (ln lc : Nat) (bs : List Bd) (cl s : Nat) (tb toff : Nat) (tn tc : Nat) (ts : List Int) (w : World) (hL : LF w) (h : By w w.heap.size a n xs) (hb0 : Bq w w.heap.size la ln bs) (hq : Nq w w.heap.size ((some ⟨tb, toff, none⟩)) tn ts) (hn : n ≤ 700) (hln : ln ≤ 30) (htn : tn ≤ 30) (hlc : ln ≤ lc) (HV : Hk (hv13 n ln tn = false)) (hc3 : cl < 3) (hs : s ≤ 3) (MM : Hk (MOk W H n xs bs)) :
    Calls Tryd.prog 6 #[.agg #[.int .i64 W, .int .i64 H, .slice a n c, .slice la ln lc, .int .i64 cl, .int .i64 s, .slice (some ⟨tb, toff, none⟩) tn tc]] w fun e w' => e = .returned (.bool true) ∧ Below w.heap.size w w' := by
  have HWB : Hk (Below w.heap.size w (w.alloc (.cells #[.int .i64 W, .int .i64 H, .slice a n c, .slice la ln lc, .int .i64 cl, .int .i64 s, .slice (some ⟨tb, toff, none⟩) tn tc] 28))) := ⟨(Below.refl _ _).alloc (Nat.le_refl _) _⟩
  have hNW : w.heap.size + 1 ≤ (w.alloc (.cells #[.int .i64 W, .int .i64 H, .slice a n c, .slice la ln lc, .int .i64 cl, .int .i64 s, .slice (some ⟨tb, toff, none⟩) tn tc] 28)).heap.size := by simp
  have HB : Hk (Below (w.heap.size + 1) (w.alloc (.cells #[.int .i64 W, .int .i64 H, .slice a n c, .slice la ln lc, .int .i64 cl, .int .i64 s, .slice (some ⟨tb, toff, none⟩) tn tc] 28)) (w.alloc (.cells #[.int .i64 W, .int .i64 H, .slice a n c, .slice la ln lc, .int .i64 cl, .int .i64 s, .slice (some ⟨tb, toff, none⟩) tn tc] 28))) := ⟨Below.refl _ _⟩
  have HTR : Hk (∀ X, Below (w.heap.size + 1) (w.alloc (.cells #[.int .i64 W, .int .i64 H, .slice a n c, .slice la ln lc, .int .i64 cl, .int .i64 s, .slice (some ⟨tb, toff, none⟩) tn tc] 28)) X → Below w.heap.size w X) := ⟨fun X hX => HWB.out.trans (hX.mono (by omega))⟩
  have HBY := Hk.mk (fun (X : World) (hX : Below (w.heap.size + 1) (w.alloc (.cells #[.int .i64 W, .int .i64 H, .slice a n c, .slice la ln lc, .int .i64 cl, .int .i64 s, .slice (some ⟨tb, toff, none⟩) tn tc] 28)) X) => h.below (HTR.out X hX) (Nat.le_refl _))
  have HBQ := Hk.mk (fun (X : World) (hX : Below (w.heap.size + 1) (w.alloc (.cells #[.int .i64 W, .int .i64 H, .slice a n c, .slice la ln lc, .int .i64 cl, .int .i64 s, .slice (some ⟨tb, toff, none⟩) tn tc] 28)) X) => hb0.below (HTR.out X hX) (Nat.le_refl _))
  have HNQT := Hk.mk (fun (X : World) (hX : Below (w.heap.size + 1) (w.alloc (.cells #[.int .i64 W, .int .i64 H, .slice a n c, .slice la ln lc, .int .i64 cl, .int .i64 s, .slice (some ⟨tb, toff, none⟩) tn tc] 28)) X) => hq.below (HTR.out X hX) (Nat.le_refl _))
  have HLF := Hk.mk (fun (X : World) (hX : Below (w.heap.size + 1) (w.alloc (.cells #[.int .i64 W, .int .i64 H, .slice a n c, .slice la ln lc, .int .i64 cl, .int .i64 s, .slice (some ⟨tb, toff, none⟩) tn tc] 28)) X) => hL.below (HTR.out X hX) (Nat.le_refl _))
  clear h hb0 hL
  obtain ⟨hc, hf, hl, hn', hm⟩ := kw_rules HB.out hNW
  have GG : Hk (GOk W H n xs) := ⟨MM.out.g⟩
  have SS : Hk (Stp n (tT W H (gdF W H xs bs cl s)) (tC W H (kcF cl xs))) := ⟨fd_stp GG.out bs cl s⟩
  have hn1 : n ≤ 140737488355328 := by omega
  have hln1 : ln ≤ 1099511627776 := by omega
  go_enter Tryd.func6, Tryd.ntmps6
  go_wp2_with (first
    | (go_at_call 17; (with_reducible refine (heavy13_as false W H cl s a la (some ⟨tb, toff, none⟩) n c ln lc tn tc _ (by omega) (by omega) (by omega) HV).mono ?_); rintro e z ⟨rfl, hb⟩; replace HB := Hk.mk (kw_step HB.out hNW hb); clear hb; clear hc hf hl hn' hm; obtain ⟨hc, hf, hl, hn', hm⟩ := kw_rules HB.out hNW)
    | (go_at_call 18; (with_reducible refine (form13_yes W H a n c xs la ln lc bs cl s (some ⟨tb, toff, none⟩) tn tc _ ?_ ?_ (by omega) (by omega) hc3 hs MM).mono ?_); (exact (HBY.out _ HB.out).mono (hsz1 HB.out)); (exact (HBQ.out _ HB.out).mono (hsz1 HB.out)); rintro e z ⟨rfl, hb⟩; replace HB := Hk.mk (kw_step HB.out hNW hb); clear hb; clear hc hf hl hn' hm; obtain ⟨hc, hf, hl, hn', hm⟩ := kw_rules HB.out hNW)
    | (go_at_call 20; (with_reducible refine (good_yes W H a n c xs la ln lc bs cl s _ ?_ ?_ ?_ hn1 hln1 hc3 hs MM).mono ?_); (exact (HLF.out _ HB.out).lc); (exact (HBY.out _ HB.out).mono (hsz1 HB.out)); (exact (HBQ.out _ HB.out).mono (hsz1 HB.out)); rintro e z ⟨I, rfl, hI, hA, hb⟩; have HAI := Hk.mk (show Arr z I n 4 (fun k => .bool ((gdF W H xs bs cl s) k)) from hA); clear hI hA; replace HB := Hk.mk (kw_step HB.out hNW hb); clear hb; clear hc hf hl hn' hm; obtain ⟨hc, hf, hl, hn', hm⟩ := kw_rules HB.out hNW)
    | (go_at_call 21; (with_reducible refine (num13_any _ _).mono ?_); rintro e z ⟨rfl, rfl⟩))
  have HB := HB
  have HAI := HAI
  clear hc hf hl hn' hm
  have HNT := Hk.mk hq
  go_loopw [5] (fun i wr => ∃ k : Nat, i = .int .i64 k ∧ k ≤ 4 ∧ k ≤ tn ∧ Hk (Arr wr I n 4 (fun k => .bool ((gdF W H xs bs cl s) k))) ∧ Hk (Below (w.heap.size + 1) (w.alloc (.cells #[.int .i64 W, .int .i64 H, .slice a n c, .slice la ln lc, .int .i64 cl, .int .i64 s, .slice (some ⟨tb, toff, none⟩) tn tc] 28)) wr)) (fun i _ => 4 - (intOf i).toNat)
  case atStart => exact ⟨0, rfl, by omega, by omega, HAI, HB⟩
  case round =>
    clear HB HAI
    obtain ⟨k, rfl, hk4, hkt, HAI, HB⟩ := hrel
    obtain ⟨hc, hf, hl, hn', hm⟩ := kw_rules HB.out hNW
    by_cases hlt : k < tn ∧ k < 4
    · obtain ⟨hlt, hl3⟩ := hlt
      have k0 : (0 : Int) ≤ (k : Int) := by omega
      have k1 : (k : Int) < (tn : Int) := by omega
      have k2 : (k : Int) < 4 := by omega
      have dk : decide ((k : Int) < (tn : Int)) = true := by simpa using hlt
      have dk3 : decide ((k : Int) < 4) = true := by simp; omega
      obtain ⟨tb', toff', hta, htb, hcell⟩ := HNT.out.rd (by omega)
      injection hta with hta
      injection hta with hta1 hta2
      subst hta1 hta2
      have tc0 := hcell k hlt
      have htb1 : tb < w.heap.size + 1 := by omega
      clear hcell
      obtain ⟨q, hqe⟩ : ∃ q, ts.getD k 0 = q := ⟨_, rfl⟩
      rw [hqe] at tc0
      clear hqe
      by_cases htl : 0 ≤ q ∧ q < W * H
      · have HTL : Hk (decide (0 ≤ q ∧ q < W * H) = true) := ⟨decide_eq_true htl⟩
        obtain ⟨goal, rfl⟩ : ∃ goal : Nat, q = goal := ⟨q.toNat, by omega⟩
        have hg : goal < n := by have := GG.out.nn; omega
        clear htl
        go_wp2_with (first
          | (go_at_call 25; (with_reducible refine (rtile_as true goal W H _ _ GG.out.w1 GG.out.w2 GG.out.h1 GG.out.h2 HTL).mono ?_); rintro e z ⟨rfl, hb⟩; replace HAI := Hk.mk (HAI.out.later hb); replace HB := Hk.mk (kw_step HB.out hNW hb); clear hb; clear hc hf hl hn' hm; obtain ⟨hc, hf, hl, hn', hm⟩ := kw_rules HB.out hNW)
          | (go_at_call 28; (with_reducible refine (make_yes W H a n c xs la ln lc bs cl s goal _ ?_ ?_ ?_ hn1 hln1 hc3 hs MM hg).mono ?_); (exact HLF.out _ HB.out); (exact (HBY.out _ HB.out).mono (hsz1 HB.out)); (exact (HBQ.out _ HB.out).mono (hsz1 HB.out)); rintro e z ⟨J, D, rfl, hJ, hA, hT, hb⟩; have HAJ := Hk.mk hA; have HTD := Hk.mk hT; replace HAI := Hk.mk (HAI.out.later hb); clear hJ hA hT; replace HB := Hk.mk (kw_step HB.out hNW hb); clear hb; clear hc hf hl hn' hm; obtain ⟨hc, hf, hl, hn', hm⟩ := kw_rules HB.out hNW)
          | (go_at_call 33; (with_reducible refine (dirs_yes W H a n c xs la ln lc bs cl s goal _ ?_ ?_ ?_ hn1 hln1 hc3 hs MM hg).mono ?_); (exact HLF.out _ HB.out); (exact (HBY.out _ HB.out).mono (hsz1 HB.out)); (exact (HBQ.out _ HB.out).mono (hsz1 HB.out)); rintro e z ⟨K, V, D', rfl, hK, hA, hT, hV, hb⟩; have HAV := Hk.mk hA; have HTE := Hk.mk hT; have HVD := Hk.mk hV; replace HAI := Hk.mk (HAI.out.later hb); replace HAJ := Hk.mk (HAJ.out.later hb); clear hK hA hT hV; replace HB := Hk.mk (kw_step HB.out hNW hb); clear hb; clear hc hf hl hn' hm; obtain ⟨hc, hf, hl, hn', hm⟩ := kw_rules HB.out hNW)
          | (go_at_call 21; (with_reducible refine (num13_any _ _).mono ?_); rintro e z ⟨rfl, rfl⟩))
        have HAI := HAI
        have HAJ := HAJ
        have HAV := HAV
        have HB := HB
        clear hc hf hl hn' hm
        obtain ⟨V0, rfl⟩ : ∃ V0 : World, V0 = z := ⟨z, rfl⟩
        have hVs : w.heap.size + 1 ≤ V0.heap.size := kw_size HB.out hNW
        have bX : w.heap.size < V0.heap.size := by omega
        obtain ⟨x0, x1, x2, x4⟩ : V0.cell? ⟨w.heap.size, 0, none⟩ = some (.int .i64 W) ∧ V0.cell? ⟨w.heap.size, 1, none⟩ = some (.int .i64 H) ∧ V0.cell? ⟨w.heap.size, 2, none⟩ = some (.slice a n c) ∧ V0.cell? ⟨w.heap.size, 4, none⟩ = some (.int .i64 cl) := by
          refine ⟨?_, ?_, ?_, ?_⟩ <;> (rw [HB.out.cell (by show w.heap.size < _; omega)]; go_simp)
        have hIV := HAI.out.lt
        have hJV := HAJ.out.lt
        have hKV := HAV.out.lt
        have HBV : Hk (∀ X, Below V0.heap.size V0 X → Below (w.heap.size + 1) (w.alloc (.cells #[.int .i64 W, .int .i64 H, .slice a n c, .slice la ln lc, .int .i64 cl, .int .i64 s, .slice (some ⟨tb, toff, none⟩) tn tc] 28)) X) := ⟨fun X hX => HB.out.trans (hX.mono hVs)⟩
        have HYV : Hk (∀ X, Below V0.heap.size V0 X → By X X.heap.size a n xs) := ⟨fun X hX => (HBY.out X (HBV.out X hX)).mono (hsz1 (HBV.out X hX))⟩
        have HGA : Hk (∀ t, t < n → GoAt W H n goal (gdF W H xs bs cl s) (kcF cl xs) D V t) := ⟨fun t ht => goAt_of GG.out.w1 GG.out.nn SS.out hg HTD.out HTE.out ht (HVD.out t ht)⟩
        have HGO : Hk (∀ t, t < n → 0 < D t → ∃ i u, GoOn W H n (gdF W H xs bs cl s) (kcF cl xs) D V t i u) := ⟨fun t ht hp => goOn_of GG.out.w1 GG.out.nn SS.out hg HTD.out HTE.out ht (HVD.out t ht) hp⟩
        have HGN : Hk (∀ (t u k : Nat), t < n → k < 4 → nb W H t k = (u : Int) → (gdF W H xs bs cl s) t = true → (gdF W H xs bs cl s) u = true → u < n ∧ (D t < 0 ↔ D u < 0) ∧ (0 ≤ D t → D t ≤ D u + 5 * ((kcF cl xs) t + (kcF cl xs) u)) ∧ ((t : Int) % W = (u : Int) % W ∨ (t : Int) / W = (u : Int) / W)) := ⟨fun t u k ht hk hu g1 g2 => goNear GG.out.w1 GG.out.nn SS.out HTD.out ht hk hu g1 g2⟩
        have HBD : Hk (∀ t, t < n → -1 ≤ D t ∧ D t ≤ 1400000) := ⟨tabG_bd HTD.out SS.out hg (by omega)⟩
        have HKB : Hk (∀ t, 0 ≤ (kcF cl xs) t ∧ (kcF cl xs) t ≤ 6) := ⟨fun t => ct_abs _ _⟩
        clear HB HTD HTE HVD tc0
        go_loopw [11] (fun i wr => ∃ t : Nat, i = .int .i64 t ∧ t ≤ n ∧ Hk (Below V0.heap.size V0 wr)) (fun i _ => n - (intOf i).toNat)
        case atStart => exact ⟨0, rfl, by omega, ⟨Below.refl _ _⟩⟩
        case round =>
          obtain ⟨t, rfl, htn, HC⟩ := hrel
          obtain ⟨hc, hf, hl, hn', hm⟩ := kw_rules HC.out (Nat.le_refl _)
          by_cases hlt : t < n
          · have t0 : (0 : Int) ≤ (t : Int) := by omega
            have t1 : (t : Int) < (n : Int) := by omega
            have GA := Hk.mk (HGA.out t hlt)
            have bdt := HBD.out t hlt
            as_aux_lemma =>
              go_upto_region 18 with fail
              go_cut [168] (fun c wx => c = .bool false ∧ Hk (Below V0.heap.size V0 wx))
              case first =>
                have c1 := HAJ.out.cell hlt
                have c2 := HAV.out.cell hlt
                have c3 := HAI.out.cell hlt
                have a1 := GA.out.low
                have a2 := GA.out.gd
                have a3 := GA.out.z
                have a4 := GA.out.v
                generalize D t = x at *
                generalize V t = v at *
                generalize (gdF W H xs bs cl s) t = g at *
                have d1 : decide (x < -1) = false := by simp; omega
                rcases (show x = -1 ∨ x = 0 ∨ 0 < x by omega) with e | e | e
                · subst e
                  have d2 : decide (0 ≤ v) = false := by simp; omega
                  clear a1 a2 a3 a4
                  go_quiet (fail)
                  go_wp2_with fail
                  go_meet
                  case rel => exact ⟨rfl, ⟨below_drewN HC.out _⟩⟩
                · subst e
                  have e2 := a2 (by omega)
                  subst e2
                  have d2 : decide (0 ≤ v) = false := by simp; omega
                  obtain rfl : goal = t := (a3 rfl).symm
                  clear a1 a2 a3 a4
                  go_quiet (fail)
                  go_wp2_with fail
                  go_meet
                  case rel => exact ⟨rfl, ⟨below_drewN HC.out _⟩⟩
                · have e2 := a2 (by omega)
                  subst e2
                  have d2 : decide (0 ≤ v) = true := by simp; omega
                  have d3 : decide (0 ≤ x) = true := by simp; omega
                  have d4 : decide (0 < x) = true := by simpa using e
                  have d5 : (x == 0) = false := by simp; omega
                  clear a1 a2 a3 a4
                  go_quiet (fail)
                  go_wp2_with fail
                  go_meet
                  case rel => exact ⟨rfl, ⟨below_drewN HC.out _⟩⟩
              case rest =>
                obtain ⟨rfl, HC⟩ := hcut
                clear hc hf hl hn' hm
                obtain ⟨hc, hf, hl, hn', hm⟩ := kw_rules HC.out (Nat.le_refl _)
                go_wp2_with fail
                clear hc hf hl hn' hm
                obtain ⟨wo, rfl⟩ : ∃ wo : World, wo = wc := ⟨wc, rfl⟩
                go_loopw [12, 13, 14] (fun at_ pd m wr => ∃ (u : Nat) (p : Int) (j : Nat), at_ = .int .i64 u ∧ pd = .int .i64 p ∧ m = .int .i64 j ∧ u < n ∧ p + D u = D t ∧ (0 ≤ D t → 0 ≤ D u) ∧ j + cntL D (D u) n ≤ n ∧ Hk (Below V0.heap.size V0 wr)) (fun _ _ m _ => n + 1 - (intOf m).toNat)
                case atStart => exact ⟨t, 0, 0, rfl, rfl, rfl, hlt, by omega, fun h => h, by have := cntL_le D (D t) n; omega, HC⟩
                case round =>
                  clear HC
                  obtain ⟨u, p, j, rfl, rfl, rfl, hun, hpd, hpos, hcn, HC⟩ := hrel
                  obtain ⟨hc, hf, hl, hn', hm⟩ := kw_rules HC.out (Nat.le_refl _)
                  have u0 : (0 : Int) ≤ (u : Int) := by omega
                  have u1 : (u : Int) < (n : Int) := by omega
                  have bdu := HBD.out u hun
                  have c1 := HAJ.out.cell hun
                  have j1 : decide ((j : Int) ≤ (n : Int)) = true := by simp; omega
                  have j1n : decide (j ≤ n) = true := by simp; omega
                  have j1p : j ≤ n := by omega
                  by_cases hy : 0 < D u
                  · obtain ⟨i, u', GO⟩ := HGO.out u hun hy
                    have hi8 := GO.i8
                    have hnu := GO.nu
                    have c2 := HAV.out.cell hun
                    rw [GO.v] at c2
                    have dy : decide (0 < D u) = true := by simpa using hy
                    have i1 : decide ((i : Int) < 0) = false := by simp
                    have i2 : decide (7 < (i : Int)) = false := by simp; omega
                    have i3 : (0 : Int) ≤ (i : Int) := by omega
                    have i4 : (i : Int) < 8 := by omega
                    have c3 := HAI.out.cell GO.un
                    rw [GO.gu] at c3
                    have v0 : (0 : Int) ≤ (u' : Int) := by omega
                    have v1 : (u' : Int) < (n : Int) := by have := GO.un; omega
                    have v2 : decide ((u' : Int) < 0) = false := by simp
                    have HGT := Hk.mk GO
                    have HPS := Hk.mk (And.intro hpos (And.intro hpd hcn))
                    have HYY := Hk.mk hy
                    clear GO hpos hcn hpd hy
                    obtain ⟨y, hyy⟩ : ∃ y, D u = y := ⟨_, rfl⟩
                    have HY2 := Hk.mk hyy
                    rw [hyy] at c1 dy bdu
                    clear hyy
                    as_aux_lemma =>
                      go_upto_region 26 with fail
                      refine wp_region_held_drew (S := (fun X => (∀ b o, b < V0.heap.size → X.cell? ⟨b, o, none⟩ = V0.cell? ⟨b, o, none⟩) ∧ Below V0.heap.size V0 X)) (by kernel_rfl) ?_ (fun hHeld => ?_)
                      · exact kw_S (kw_drew HC.out)
                      refine wpAnyH_take (i := 0) (v := ?_) rfl (by kernel_rfl) (by kernel_rfl) (by kernel_rfl) (fun _ _ _ h => h) (Or.inl ⟨by rfl, fun wX hSw => ?_⟩) (by assumption) ?_
                      rotate_left
                      · (try dsimp only at hSw); go_simp; try with_reducible rfl
                      (try simp only [Act.put, List.getElem_toArray, List.getElem_cons_succ, List.getElem_cons_zero, List.setIfInBounds_toArray, List.set_cons_zero, List.set_cons_succ])
                      refine wpAnyH_take (i := 1) (v := ?_) rfl (by kernel_rfl) (by kernel_rfl) (by kernel_rfl) (fun _ _ _ h => h) (Or.inl ⟨by rfl, fun wX hSw => ?_⟩) (by assumption) ?_
                      rotate_left
                      · (try dsimp only at hSw); go_simp; try with_reducible rfl
                      (try simp only [Act.put, List.getElem_toArray, List.getElem_cons_succ, List.getElem_cons_zero, List.setIfInBounds_toArray, List.set_cons_zero, List.set_cons_succ])
                      refine wpAnyH_take (i := 2) (v := ?_) rfl (by kernel_rfl) (by kernel_rfl) (by kernel_rfl) (fun _ _ _ h => h) (Or.inl ⟨by rfl, fun wX hSw => ?_⟩) (by assumption) ?_
                      rotate_left
                      · (try dsimp only at hSw); go_simp; try with_reducible rfl
                      (try simp only [Act.put, List.getElem_toArray, List.getElem_cons_succ, List.getElem_cons_zero, List.setIfInBounds_toArray, List.set_cons_zero, List.set_cons_succ])
                      refine wpAnyH_take (i := 4) (v := ?_) rfl (by kernel_rfl) (by kernel_rfl) (by kernel_rfl) (fun _ _ _ h => h) (Or.inl ⟨by rfl, fun wX hSw => ?_⟩) (by assumption) ?_
                      rotate_left
                      · (try dsimp only at hSw); go_simp; try with_reducible rfl
                      (try simp only [Act.put, List.getElem_toArray, List.getElem_cons_succ, List.getElem_cons_zero, List.setIfInBounds_toArray, List.set_cons_zero, List.set_cons_succ])
                      refine wpAnyH_take (i := 5) (v := ?_) rfl (by kernel_rfl) (by kernel_rfl) (by kernel_rfl) (fun _ _ _ h => h) (Or.inl ⟨by rfl, fun wX hSw => ?_⟩) (by assumption) ?_
                      rotate_left
                      · (try dsimp only at hSw); go_simp; try with_reducible rfl
                      (try simp only [Act.put, List.getElem_toArray, List.getElem_cons_succ, List.getElem_cons_zero, List.setIfInBounds_toArray, List.set_cons_zero, List.set_cons_succ])
                      refine wpAnyH_take (i := 6) (v := ?_) rfl (by kernel_rfl) (by kernel_rfl) (by kernel_rfl) (fun _ _ _ h => h) (Or.inl ⟨by rfl, fun wX hSw => ?_⟩) (by assumption) ?_
                      rotate_left
                      · (try dsimp only at hSw); go_simp; try with_reducible rfl
                      (try simp only [Act.put, List.getElem_toArray, List.getElem_cons_succ, List.getElem_cons_zero, List.setIfInBounds_toArray, List.set_cons_zero, List.set_cons_succ])
                      refine wpAnyH_take (i := 7) (v := ?_) rfl (by kernel_rfl) (by kernel_rfl) (by kernel_rfl) (fun _ _ _ h => h) (Or.inl ⟨by rfl, fun wX hSw => ?_⟩) (by assumption) ?_
                      rotate_left
                      · (try dsimp only at hSw); go_simp; try with_reducible rfl
                      (try simp only [Act.put, List.getElem_toArray, List.getElem_cons_succ, List.getElem_cons_zero, List.setIfInBounds_toArray, List.set_cons_zero, List.set_cons_succ])
                      refine wpAnyH_ready (rs := [3]) (by kernel_rfl) (by simp) ?_
                      refine AllReadyH.cons rfl (fun K hK => ?_) (AllReadyH.nil)
                      go_simp
                      ((go_at_call 34; (with_reducible refine (rnear_any W H u _ _ GG.out.w1 GG.out.w2 GG.out.h1 GG.out.h2 u0 (by omega)).mono ?_); rintro e z ⟨nv, rfl, hrow, hb⟩; obtain ⟨NB, nc, rfl, hNB, hNBl, hnc, hcells⟩ := row_near hrow; have cN := hcells i hi8; rw [hnu] at cN; clear hrow hcells; have hC2 : Hk (Below V0.heap.size V0 z) := ⟨by first | exact kw_step HC.out (Nat.le_refl _) hb | exact kw_step HC.out.drew (Nat.le_refl _) hb⟩; clear hb; replace HC := hC2; clear hC2; clear hc hf hl hn' hm; obtain ⟨hc, hf, hl, hn', hm⟩ := kw_rules HC.out (Nat.le_refl _)))
                      refine hK.out _ _ ?_ (fun hHeld => ?_)
                      · exact kw_S HC.out
                      clear hK K
                      (try simp only [Act.put, List.getElem_toArray, List.getElem_cons_succ, List.getElem_cons_zero, List.setIfInBounds_toArray, List.set_cons_zero, List.set_cons_succ])
                      refine wpAnyH_take (i := 8) (v := ?_) rfl (by kernel_rfl) (by kernel_rfl) (by kernel_rfl) (fun _ _ _ h => h) (Or.inl ⟨by rfl, fun wX hSw => ?_⟩) (by assumption) ?_
                      rotate_left
                      · (try dsimp only at hSw); go_simp; try with_reducible rfl
                      (try simp only [Act.put, List.getElem_toArray, List.getElem_cons_succ, List.getElem_cons_zero, List.setIfInBounds_toArray, List.set_cons_zero, List.set_cons_succ])
                      refine wpAnyH_ready (rs := [9]) (by kernel_rfl) (by simp) ?_
                      refine AllReadyH.cons rfl (fun K hK => ?_) (AllReadyH.nil)
                      go_simp
                      refine hK.out _ _ ?_ (fun hHeld => ?_)
                      · exact kw_S HC.out
                      clear hK K
                      (try simp only [Act.put, List.getElem_toArray, List.getElem_cons_succ, List.getElem_cons_zero, List.setIfInBounds_toArray, List.set_cons_zero, List.set_cons_succ])
                      refine wpAnyH_take (i := 10) (v := ?_) rfl (by kernel_rfl) (by kernel_rfl) (by kernel_rfl) (fun _ _ _ h => h) (Or.inl ⟨by rfl, fun wX hSw => ?_⟩) (by assumption) ?_
                      rotate_left
                      · (try dsimp only at hSw); go_simp; try with_reducible rfl
                      (try simp only [Act.put, List.getElem_toArray, List.getElem_cons_succ, List.getElem_cons_zero, List.setIfInBounds_toArray, List.set_cons_zero, List.set_cons_succ])
                      refine wpAnyH_done (by kernel_rfl) ?_ _
                      have HC := HC
                      go_upto_region 29 with fail
                      go_cut [260] (fun c wx => c = .bool false ∧ Hk (Below V0.heap.size V0 wx))
                      case first =>
                        by_cases h4 : 4 ≤ i
                        · have d4 : decide (3 < (i : Int)) = true := by simp; omega
                          obtain ⟨⟨b1, b2⟩, b3, b4⟩ := HGT.out.b h4
                          obtain ⟨s1, s2⟩ := HGT.out.s h4
                          rw [Int.mul_comm W] at b1 b2 s1
                          rw [Int.mul_comm W] at b3 b4 s2
                          obtain ⟨ux0, ux1, uy0, uy1⟩ := xy_bd13 GG.out.w1 GG.out.nn hun
                          obtain ⟨vx0, vx1, vy0, vy1⟩ := xy_bd13 GG.out.w1 GG.out.nn HGT.out.un
                          have hW0 : ¬ W = 0 := by have := GG.out.w1; omega
                          have hW2 := GG.out.w2
                          have hH2 := GG.out.h2
                          have tm : (u : Int).tmod W = (u : Int) % W := Int.tmod_eq_emod_of_nonneg (by omega)
                          have td : (u : Int).tdiv W = (u : Int) / W := Int.tdiv_eq_ediv_of_nonneg (by omega)
                          have vm : (u' : Int).tmod W = (u' : Int) % W := Int.tmod_eq_emod_of_nonneg (by omega)
                          have vd : (u' : Int).tdiv W = (u' : Int) / W := Int.tdiv_eq_ediv_of_nonneg (by omega)
                          generalize (u : Int) % W = ux at *
                          generalize (u : Int) / W = uy at *
                          generalize (u' : Int) % W = vx at *
                          generalize (u' : Int) / W = vy at *
                          obtain ⟨P1, hP1⟩ : ∃ q, vy * W = q := ⟨_, rfl⟩
                          obtain ⟨P2, hP2⟩ : ∃ q, uy * W = q := ⟨_, rfl⟩
                          rw [hP1] at b1 b2 s1
                          rw [hP2] at b3 b4 s2
                          obtain ⟨k1, hk1⟩ : ∃ q : Nat, ux + P1 = (q : Int) := ⟨(ux + P1).toNat, by omega⟩
                          obtain ⟨k2, hk2⟩ : ∃ q : Nat, vx + P2 = (q : Int) := ⟨(vx + P2).toNat, by omega⟩
                          rw [hk1] at b1 b2 s1
                          rw [hk2] at b3 b4 s2
                          simp only [Int.toNat_natCast] at s1 s2
                          have g1 := HAI.out.cell (show k1 < n by omega)
                          have g2 := HAI.out.cell (show k2 < n by omega)
                          rw [s1] at g1
                          rw [s2] at g2
                          have w1 : IntKind.i64.wrap P1 = P1 := by rw [IntKind.wrap_i64]; omega
                          have w2 : IntKind.i64.wrap P2 = P2 := by rw [IntKind.wrap_i64]; omega
                          have w3 : IntKind.i64.wrap (k1 : Int) = (k1 : Int) := by rw [IntKind.wrap_i64]; omega
                          have w4 : IntKind.i64.wrap (k2 : Int) = (k2 : Int) := by rw [IntKind.wrap_i64]; omega
                          clear s1 s2
                          go_quiet (fail)
                          go_wp2_with fail
                          go_meet
                          case rel => exact ⟨rfl, ⟨below_drewN HC.out _⟩⟩
                        · have d4 : decide (3 < (i : Int)) = false := by simp; omega
                          go_quiet (fail)
                          go_wp2_with fail
                          go_meet
                          case rel => exact ⟨rfl, ⟨below_drewN HC.out _⟩⟩
                      case rest =>
                        obtain ⟨rfl, HC⟩ := hcut
                        clear hc hf hl hn' hm
                        obtain ⟨hc, hf, hl, hn', hm⟩ := kw_rules HC.out (Nat.le_refl _)
                        obtain ⟨cv, hcv⟩ : ∃ cv, (if i < 4 then (5 : Int) else 7) * ((kcF cl xs) u + (kcF cl xs) u') = cv := ⟨_, rfl⟩
                        have HCV : Hk ((if (u : Int) % W = (u' : Int) % W ∨ (u : Int) / W = (u' : Int) / W then (5 : Int) else 7) * ((kcF cl xs) u + (kcF cl xs) u') = cv) := ⟨by
                          rw [← hcv]
                          by_cases q : i < 4
                          · rw [if_pos q, if_pos (HGT.out.l.1 q)]
                          · rw [if_neg q, if_neg (fun z => q (HGT.out.l.2 z))]⟩
                        have hD := HGT.out.c
                        rw [hcv] at hD
                        have hd0 := HGT.out.d0
                        have hd1 := HGT.out.d1
                        have hyy := HY2.out
                        have hun' := HGT.out.un
                        have hp1 := HPS.out.2.1
                        have hcb : 0 < cv ∧ cv ≤ 1400000 := by omega
                        have hpb : -1400001 ≤ p ∧ p ≤ 1400001 := by omega
                        have HD := Hk.mk (And.intro hD (And.intro hd0 hd1))
                        clear hcv hD hd0 hd1 hp1 hyy
                        go_wp2_with (go_at_call 35; (with_reducible refine (cost13_a W H a n c xs cl u u' cv _ (by first | exact HYV.out _ HC.out | exact HYV.out _ HC.out.drew) GG hc3 (by omega) (by omega) HCV).mono ?_); rintro e z ⟨rfl, hb⟩; have hC2 : Hk (Below V0.heap.size V0 z) := ⟨by first | exact kw_step HC.out (Nat.le_refl _) hb | exact kw_step HC.out.drew (Nat.le_refl _) hb⟩; clear hb; replace HC := hC2; clear hC2; clear hc hf hl hn' hm; obtain ⟨hc, hf, hl, hn', hm⟩ := kw_rules HC.out (Nat.le_refl _))
                        exact ⟨⟨u', p + cv, j + 1, rfl, by go_num, by go_num, hun', by have := HD.out.1; have := HPS.out.2.1; omega, fun _ => HD.out.2.1, by have := cntL_lt HD.out.2.1 HD.out.2.2 (Int.le_refl _) hun'; have := HPS.out.2.2; omega, HC⟩, by have := HPS.out.2.2; simp [intOf]; omega⟩
                  · have dy : decide (0 < D u) = false := by simp; omega
                    have HPS := Hk.mk (And.intro hpos (And.intro hpd (show ¬ 0 < D u from hy)))
                    clear hpos hpd hcn hy
                    obtain ⟨y, hyy⟩ : ∃ y, D u = y := ⟨_, rfl⟩
                    have HY2 := Hk.mk hyy
                    rw [hyy] at c1 dy bdu
                    clear hyy
                    as_aux_lemma =>
                      go_upto_region 33 with fail
                      go_cut [288] (fun c wx => c = .bool false ∧ Hk (Below V0.heap.size V0 wx))
                      case first =>
                        have ct := HAJ.out.cell hlt
                        obtain ⟨hpos, hpd, hyn⟩ := HPS.out
                        by_cases ht0 : 0 ≤ D t
                        · have hu0 : D u = 0 := by have := hpos ht0; omega
                          have hug : goal = u := ((HGA.out u hun).z hu0).symm
                          have hpe : p = D t := by omega
                          have d1 : decide (0 ≤ D t) = true := by simpa using ht0
                          have ht2 := ht0
                          clear hpos hpd hyn hu0 HPS HY2 ht0
                          subst hug
                          generalize D t = x at *
                          subst hpe
                          go_wp2_with fail
                          go_meet
                          case rel => exact ⟨rfl, HC⟩
                        · have d1 : decide (0 ≤ D t) = false := by simpa using ht0
                          clear hpos hpd hyn HPS HY2 ht0
                          generalize D t = x at *
                          go_wp2_with fail
                          go_meet
                          case rel => exact ⟨rfl, HC⟩
                      case rest =>
                        obtain ⟨rfl, HC⟩ := hcut
                        clear hc hf hl hn' hm
                        obtain ⟨hc, hf, hl, hn', hm⟩ := kw_rules HC.out (Nat.le_refl _)
                        clear HPS HY2 c1 dy bdu
                        go_wp2_with (go_at_call 34; (with_reducible refine (rnear_any W H t _ _ GG.out.w1 GG.out.w2 GG.out.h1 GG.out.h2 t0 (by omega)).mono ?_); rintro e z ⟨nv, rfl, hrow, hb⟩; obtain ⟨NB, nc, rfl, hNB, hNBl, hnc, hcells⟩ := row_near hrow; have HNC := Hk.mk hcells; have HNL := Hk.mk hNBl; clear hrow hcells; have hC2 : Hk (Below V0.heap.size V0 z) := ⟨by first | exact kw_step HC.out (Nat.le_refl _) hb | exact kw_step HC.out.drew (Nat.le_refl _) hb⟩; clear hb; replace HC := hC2; clear hC2; clear hc hf hl hn' hm; obtain ⟨hc, hf, hl, hn', hm⟩ := kw_rules HC.out (Nat.le_refl _))
                        have HC := HC
                        have HNC := HNC
                        have HNL := HNL
                        clear hc hf hl hn' hm
                        obtain ⟨V1, rfl⟩ : ∃ V1 : World, V1 = z := ⟨z, rfl⟩
                        have HC01 := HC
                        have HAI1 := Hk.mk (HAI.out.below HC.out hIV)
                        have HAJ1 := Hk.mk (HAJ.out.below HC.out hJV)
                        have hIV1 := HAI1.out.lt
                        have hJV1 := HAJ1.out.lt
                        have hNL := HNL.out
                        have bX1 : w.heap.size < V1.heap.size := Nat.lt_of_lt_of_le bX HC.out.size
                        have y0 := (HC.out.cell (p := ⟨w.heap.size, 0, none⟩) bX).trans x0
                        have y1 := (HC.out.cell (p := ⟨w.heap.size, 1, none⟩) bX).trans x1
                        have y2 := (HC.out.cell (p := ⟨w.heap.size, 2, none⟩) bX).trans x2
                        have y4 := (HC.out.cell (p := ⟨w.heap.size, 4, none⟩) bX).trans x4
                        have HYV1 : Hk (∀ X, Below V1.heap.size V1 X → By X X.heap.size a n xs) := ⟨fun X hX => HYV.out X (HC01.out.trans (hX.mono HC01.out.size))⟩
                        clear HC
                        go_loopw [17] (fun i wr => ∃ q : Nat, i = .int .i64 q ∧ q ≤ 4 ∧ Hk (Below V1.heap.size V1 wr)) (fun i _ => 4 - (intOf i).toNat)
                        case atStart => exact ⟨0, rfl, by omega, ⟨Below.refl _ _⟩⟩
                        case round =>
                          obtain ⟨q, rfl, hq4, HC⟩ := hrel
                          obtain ⟨hc, hf, hl, hn', hm⟩ := kw_rules HC.out (Nat.le_refl _)
                          by_cases hq : q < 4
                          · have q0 : (0 : Int) ≤ (q : Int) := by omega
                            have q1 : (q : Int) < 8 := by omega
                            have q2 : (q : Int) < 4 := by omega
                            have cn := HNC.out q (by omega)
                            obtain ⟨m, hm⟩ : ∃ m, nb W H t q = m := ⟨_, rfl⟩
                            rw [hm] at cn
                            have HM := Hk.mk hm
                            clear hm
                            as_aux_lemma =>
                              go_upto_region 40 with fail
                              go_cut [353] (fun c wx => c = .bool false ∧ Hk (Below V1.heap.size V1 wx))
                              case first =>
                                have ct1 := HAI1.out.cell hlt
                                have dt1 := HAJ1.out.cell hlt
                                by_cases hu : m < 0
                                · have d1 : decide (0 ≤ m) = false := by simp; omega
                                  go_quiet (fail)
                                  go_wp2_with fail
                                  go_meet
                                  case rel => exact ⟨rfl, ⟨below_drewN HC.out _⟩⟩
                                obtain ⟨u, rfl⟩ : ∃ u : Nat, m = (u : Int) := ⟨m.toNat, by omega⟩
                                have d1 : decide (0 ≤ (u : Int)) = true := by simp
                                by_cases g1 : (gdF W H xs bs cl s) t = true
                                case neg =>
                                  have g1' : (gdF W H xs bs cl s) t = false := by simpa using g1
                                  rw [g1'] at ct1
                                  go_quiet (fail)
                                  go_wp2_with fail
                                  go_meet
                                  case rel => exact ⟨rfl, ⟨below_drewN HC.out _⟩⟩
                                have hub : u < n := by
                                  have := nb_lt (W := W) (H := H) (t := (t : Int)) (k := q) GG.out.w1 HM.out (by omega)
                                  have := GG.out.nn
                                  omega
                                have u0' : (0 : Int) ≤ (u : Int) := by omega
                                have u1' : (u : Int) < (n : Int) := by omega
                                have cu1 := HAI1.out.cell hub
                                have du1 := HAJ1.out.cell hub
                                by_cases g2 : (gdF W H xs bs cl s) u = true
                                case neg =>
                                  have g2' : (gdF W H xs bs cl s) u = false := by simpa using g2
                                  rw [g1] at ct1
                                  rw [g2'] at cu1
                                  go_quiet (fail)
                                  go_wp2_with fail
                                  go_meet
                                  case rel => exact ⟨rfl, ⟨below_drewN HC.out _⟩⟩
                                obtain ⟨_, hiff, hle, hl⟩ := HGN.out t u q hlt hq HM.out g1 g2
                                rw [g1] at ct1
                                rw [g2] at cu1
                                have bdu := HBD.out u hub
                                have k1 := HKB.out t
                                have k2 := HKB.out u
                                obtain ⟨cv, hcv⟩ : ∃ cv, (5 : Int) * ((kcF cl xs) t + (kcF cl xs) u) = cv := ⟨_, rfl⟩
                                have HCV : Hk ((if (t : Int) % W = (u : Int) % W ∨ (t : Int) / W = (u : Int) / W then (5 : Int) else 7) * ((kcF cl xs) t + (kcF cl xs) u) = cv) := ⟨by rw [← hcv, if_pos hl]⟩
                                rw [hcv] at hle
                                have hcb : 0 ≤ cv ∧ cv ≤ 60 := by omega
                                clear hcv k1 k2 hl g1 g2
                                generalize D t = x at *
                                generalize D u = y at *
                                by_cases hx : x < 0
                                · have e1 : decide (x < 0) = true := by simpa using hx
                                  have e2 : decide (y < 0) = true := by simpa using hiff.1 hx
                                  have e3 : decide (0 ≤ x) = false := by simp; omega
                                  clear hiff hle
                                  go_quiet (fail)
                                  go_wp2_with fail
                                  go_meet
                                  case rel => exact ⟨rfl, ⟨below_drewN HC.out _⟩⟩
                                · have e1 : decide (x < 0) = false := by simpa using hx
                                  have e2 : decide (y < 0) = false := by
                                    have : ¬ y < 0 := fun z => hx (hiff.2 z)
                                    simpa using this
                                  have e3 : decide (0 ≤ x) = true := by simp; omega
                                  have e4 : decide (y + cv < x) = false := by have := hle (by omega); simp; omega
                                  have wq : IntKind.i64.wrap (y + cv) = y + cv := by rw [IntKind.wrap_i64]; omega
                                  clear hiff hle
                                  refine wp_region_held_drew (S := (fun X => (∀ b o, b < V1.heap.size → X.cell? ⟨b, o, none⟩ = V1.cell? ⟨b, o, none⟩) ∧ Below V1.heap.size V1 X)) (by kernel_rfl) ?_ (fun hHeld => ?_)
                                  · exact kw_S (kw_drew HC.out)
                                  refine wpAnyH_take (i := 0) (v := ?_) rfl (by kernel_rfl) (by kernel_rfl) (by kernel_rfl) (fun _ _ _ h => h) (Or.inl ⟨by rfl, fun wX hSw => ?_⟩) (by assumption) ?_
                                  rotate_left
                                  · (try dsimp only at hSw); go_simp; try with_reducible rfl
                                  (try simp only [Act.put, List.getElem_toArray, List.getElem_cons_succ, List.getElem_cons_zero, List.setIfInBounds_toArray, List.set_cons_zero, List.set_cons_succ])
                                  refine wpAnyH_take (i := 1) (v := ?_) rfl (by kernel_rfl) (by kernel_rfl) (by kernel_rfl) (fun _ _ _ h => h) (Or.inl ⟨by rfl, fun wX hSw => ?_⟩) (by assumption) ?_
                                  rotate_left
                                  · (try dsimp only at hSw); go_simp; try with_reducible rfl
                                  (try simp only [Act.put, List.getElem_toArray, List.getElem_cons_succ, List.getElem_cons_zero, List.setIfInBounds_toArray, List.set_cons_zero, List.set_cons_succ])
                                  refine wpAnyH_take (i := 2) (v := ?_) rfl (by kernel_rfl) (by kernel_rfl) (by kernel_rfl) (fun _ _ _ h => h) (Or.inl ⟨by rfl, fun wX hSw => ?_⟩) (by assumption) ?_
                                  rotate_left
                                  · (try dsimp only at hSw); go_simp; try with_reducible rfl
                                  (try simp only [Act.put, List.getElem_toArray, List.getElem_cons_succ, List.getElem_cons_zero, List.setIfInBounds_toArray, List.set_cons_zero, List.set_cons_succ])
                                  refine wpAnyH_take (i := 3) (v := ?_) rfl (by kernel_rfl) (by kernel_rfl) (by kernel_rfl) (fun _ _ _ h => h) (Or.inl ⟨by rfl, fun wX hSw => ?_⟩) (by assumption) ?_
                                  rotate_left
                                  · (try dsimp only at hSw); go_simp; try with_reducible rfl
                                  (try simp only [Act.put, List.getElem_toArray, List.getElem_cons_succ, List.getElem_cons_zero, List.setIfInBounds_toArray, List.set_cons_zero, List.set_cons_succ])
                                  refine wpAnyH_take (i := 4) (v := ?_) rfl (by kernel_rfl) (by kernel_rfl) (by kernel_rfl) (fun _ _ _ h => h) (Or.inl ⟨by rfl, fun wX hSw => ?_⟩) (by assumption) ?_
                                  rotate_left
                                  · (try dsimp only at hSw); go_simp; try with_reducible rfl
                                  (try simp only [Act.put, List.getElem_toArray, List.getElem_cons_succ, List.getElem_cons_zero, List.setIfInBounds_toArray, List.set_cons_zero, List.set_cons_succ])
                                  refine wpAnyH_take (i := 5) (v := ?_) rfl (by kernel_rfl) (by kernel_rfl) (by kernel_rfl) (fun _ _ _ h => h) (Or.inl ⟨by rfl, fun wX hSw => ?_⟩) (by assumption) ?_
                                  rotate_left
                                  · (try dsimp only at hSw); go_simp; try with_reducible rfl
                                  (try simp only [Act.put, List.getElem_toArray, List.getElem_cons_succ, List.getElem_cons_zero, List.setIfInBounds_toArray, List.set_cons_zero, List.set_cons_succ])
                                  refine wpAnyH_take (i := 6) (v := ?_) rfl (by kernel_rfl) (by kernel_rfl) (by kernel_rfl) (fun _ _ _ h => h) (Or.inl ⟨by rfl, fun wX hSw => ?_⟩) (by assumption) ?_
                                  rotate_left
                                  · (try dsimp only at hSw); go_simp; try with_reducible rfl
                                  (try simp only [Act.put, List.getElem_toArray, List.getElem_cons_succ, List.getElem_cons_zero, List.setIfInBounds_toArray, List.set_cons_zero, List.set_cons_succ])
                                  refine wpAnyH_take (i := 7) (v := ?_) rfl (by kernel_rfl) (by kernel_rfl) (by kernel_rfl) (fun _ _ _ h => h) (Or.inl ⟨by rfl, fun wX hSw => ?_⟩) (by assumption) ?_
                                  rotate_left
                                  · (try dsimp only at hSw); go_simp; try with_reducible rfl
                                  (try simp only [Act.put, List.getElem_toArray, List.getElem_cons_succ, List.getElem_cons_zero, List.setIfInBounds_toArray, List.set_cons_zero, List.set_cons_succ])
                                  refine wpAnyH_take (i := 8) (v := ?_) rfl (by kernel_rfl) (by kernel_rfl) (by kernel_rfl) (fun _ _ _ h => h) (Or.inl ⟨by rfl, fun wX hSw => ?_⟩) (by assumption) ?_
                                  rotate_left
                                  · (try dsimp only at hSw); go_simp; try with_reducible rfl
                                  (try simp only [Act.put, List.getElem_toArray, List.getElem_cons_succ, List.getElem_cons_zero, List.setIfInBounds_toArray, List.set_cons_zero, List.set_cons_succ])
                                  refine wpAnyH_take (i := 9) (v := ?_) rfl (by kernel_rfl) (by kernel_rfl) (by kernel_rfl) (fun _ _ _ h => h) (Or.inl ⟨by rfl, fun wX hSw => ?_⟩) (by assumption) ?_
                                  rotate_left
                                  · (try dsimp only at hSw); go_simp; try with_reducible rfl
                                  (try simp only [Act.put, List.getElem_toArray, List.getElem_cons_succ, List.getElem_cons_zero, List.setIfInBounds_toArray, List.set_cons_zero, List.set_cons_succ])
                                  refine wpAnyH_take (i := 10) (v := ?_) rfl (by kernel_rfl) (by kernel_rfl) (by kernel_rfl) (fun _ _ _ h => h) (Or.inl ⟨by rfl, fun wX hSw => ?_⟩) (by assumption) ?_
                                  rotate_left
                                  · (try dsimp only at hSw); go_simp; try with_reducible rfl
                                  (try simp only [Act.put, List.getElem_toArray, List.getElem_cons_succ, List.getElem_cons_zero, List.setIfInBounds_toArray, List.set_cons_zero, List.set_cons_succ])
                                  refine wpAnyH_take (i := 11) (v := ?_) rfl (by kernel_rfl) (by kernel_rfl) (by kernel_rfl) (fun _ _ _ h => h) (Or.inl ⟨by rfl, fun wX hSw => ?_⟩) (by assumption) ?_
                                  rotate_left
                                  · (try dsimp only at hSw); go_simp; try with_reducible rfl
                                  (try simp only [Act.put, List.getElem_toArray, List.getElem_cons_succ, List.getElem_cons_zero, List.setIfInBounds_toArray, List.set_cons_zero, List.set_cons_succ])
                                  refine wpAnyH_take (i := 12) (v := ?_) rfl (by kernel_rfl) (by kernel_rfl) (by kernel_rfl) (fun _ _ _ h => h) (Or.inl ⟨by rfl, fun wX hSw => ?_⟩) (by assumption) ?_
                                  rotate_left
                                  · (try dsimp only at hSw); go_simp; try with_reducible rfl
                                  (try simp only [Act.put, List.getElem_toArray, List.getElem_cons_succ, List.getElem_cons_zero, List.setIfInBounds_toArray, List.set_cons_zero, List.set_cons_succ])
                                  refine wpAnyH_take (i := 13) (v := ?_) rfl (by kernel_rfl) (by kernel_rfl) (by kernel_rfl) (fun _ _ _ h => h) (Or.inl ⟨by rfl, fun wX hSw => ?_⟩) (by assumption) ?_
                                  rotate_left
                                  · (try dsimp only at hSw); go_simp; try with_reducible rfl
                                  (try simp only [Act.put, List.getElem_toArray, List.getElem_cons_succ, List.getElem_cons_zero, List.setIfInBounds_toArray, List.set_cons_zero, List.set_cons_succ])
                                  refine wpAnyH_take (i := 14) (v := ?_) rfl (by kernel_rfl) (by kernel_rfl) (by kernel_rfl) (fun _ _ _ h => h) (Or.inl ⟨by rfl, fun wX hSw => ?_⟩) (by assumption) ?_
                                  rotate_left
                                  · (try dsimp only at hSw); go_simp; try with_reducible rfl
                                  (try simp only [Act.put, List.getElem_toArray, List.getElem_cons_succ, List.getElem_cons_zero, List.setIfInBounds_toArray, List.set_cons_zero, List.set_cons_succ])
                                  refine wpAnyH_take (i := 15) (v := ?_) rfl (by kernel_rfl) (by kernel_rfl) (by kernel_rfl) (fun _ _ _ h => h) (Or.inl ⟨by rfl, fun wX hSw => ?_⟩) (by assumption) ?_
                                  rotate_left
                                  · (try dsimp only at hSw); go_simp; try with_reducible rfl
                                  (try simp only [Act.put, List.getElem_toArray, List.getElem_cons_succ, List.getElem_cons_zero, List.setIfInBounds_toArray, List.set_cons_zero, List.set_cons_succ])
                                  refine wpAnyH_take (i := 16) (v := ?_) rfl (by kernel_rfl) (by kernel_rfl) (by kernel_rfl) (fun _ _ _ h => h) (Or.inl ⟨by rfl, fun wX hSw => ?_⟩) (by assumption) ?_
                                  rotate_left
                                  · (try dsimp only at hSw); go_simp; try with_reducible rfl
                                  (try simp only [Act.put, List.getElem_toArray, List.getElem_cons_succ, List.getElem_cons_zero, List.setIfInBounds_toArray, List.set_cons_zero, List.set_cons_succ])
                                  refine wpAnyH_take (i := 17) (v := ?_) rfl (by kernel_rfl) (by kernel_rfl) (by kernel_rfl) (fun _ _ _ h => h) (Or.inl ⟨by rfl, fun wX hSw => ?_⟩) (by assumption) ?_
                                  rotate_left
                                  · (try dsimp only at hSw); go_simp; try with_reducible rfl
                                  (try simp only [Act.put, List.getElem_toArray, List.getElem_cons_succ, List.getElem_cons_zero, List.setIfInBounds_toArray, List.set_cons_zero, List.set_cons_succ])
                                  refine wpAnyH_take (i := 18) (v := ?_) rfl (by kernel_rfl) (by kernel_rfl) (by kernel_rfl) (fun _ _ _ h => h) (Or.inl ⟨by rfl, fun wX hSw => ?_⟩) (by assumption) ?_
                                  rotate_left
                                  · (try dsimp only at hSw); go_simp; try with_reducible rfl
                                  (try simp only [Act.put, List.getElem_toArray, List.getElem_cons_succ, List.getElem_cons_zero, List.setIfInBounds_toArray, List.set_cons_zero, List.set_cons_succ])
                                  refine wpAnyH_take (i := 19) (v := ?_) rfl (by kernel_rfl) (by kernel_rfl) (by kernel_rfl) (fun _ _ _ h => h) (Or.inl ⟨by rfl, fun wX hSw => ?_⟩) (by assumption) ?_
                                  rotate_left
                                  · (try dsimp only at hSw); go_simp; try with_reducible rfl
                                  (try simp only [Act.put, List.getElem_toArray, List.getElem_cons_succ, List.getElem_cons_zero, List.setIfInBounds_toArray, List.set_cons_zero, List.set_cons_succ])
                                  refine wpAnyH_take (i := 20) (v := ?_) rfl (by kernel_rfl) (by kernel_rfl) (by kernel_rfl) (fun _ _ _ h => h) (Or.inl ⟨by rfl, fun wX hSw => ?_⟩) (by assumption) ?_
                                  rotate_left
                                  · (try dsimp only at hSw); go_simp; try with_reducible rfl
                                  (try simp only [Act.put, List.getElem_toArray, List.getElem_cons_succ, List.getElem_cons_zero, List.setIfInBounds_toArray, List.set_cons_zero, List.set_cons_succ])
                                  refine wpAnyH_take (i := 21) (v := ?_) rfl (by kernel_rfl) (by kernel_rfl) (by kernel_rfl) (fun _ _ _ h => h) (Or.inl ⟨by rfl, fun wX hSw => ?_⟩) (by assumption) ?_
                                  rotate_left
                                  · (try dsimp only at hSw); go_simp; try with_reducible rfl
                                  (try simp only [Act.put, List.getElem_toArray, List.getElem_cons_succ, List.getElem_cons_zero, List.setIfInBounds_toArray, List.set_cons_zero, List.set_cons_succ])
                                  refine wpAnyH_take (i := 22) (v := ?_) rfl (by kernel_rfl) (by kernel_rfl) (by kernel_rfl) (fun _ _ _ h => h) (Or.inl ⟨by rfl, fun wX hSw => ?_⟩) (by assumption) ?_
                                  rotate_left
                                  · (try dsimp only at hSw); go_simp; try with_reducible rfl
                                  (try simp only [Act.put, List.getElem_toArray, List.getElem_cons_succ, List.getElem_cons_zero, List.setIfInBounds_toArray, List.set_cons_zero, List.set_cons_succ])
                                  refine wpAnyH_take (i := 23) (v := ?_) rfl (by kernel_rfl) (by kernel_rfl) (by kernel_rfl) (fun _ _ _ h => h) (Or.inl ⟨by rfl, fun wX hSw => ?_⟩) (by assumption) ?_
                                  rotate_left
                                  · (try dsimp only at hSw); go_simp; try with_reducible rfl
                                  (try simp only [Act.put, List.getElem_toArray, List.getElem_cons_succ, List.getElem_cons_zero, List.setIfInBounds_toArray, List.set_cons_zero, List.set_cons_succ])
                                  refine wpAnyH_take (i := 24) (v := ?_) rfl (by kernel_rfl) (by kernel_rfl) (by kernel_rfl) (fun _ _ _ h => h) (Or.inl ⟨by rfl, fun wX hSw => ?_⟩) (by assumption) ?_
                                  rotate_left
                                  · (try dsimp only at hSw); go_simp; try with_reducible rfl
                                  (try simp only [Act.put, List.getElem_toArray, List.getElem_cons_succ, List.getElem_cons_zero, List.setIfInBounds_toArray, List.set_cons_zero, List.set_cons_succ])
                                  refine wpAnyH_take (i := 25) (v := ?_) rfl (by kernel_rfl) (by kernel_rfl) (by kernel_rfl) (fun _ _ _ h => h) (Or.inl ⟨by rfl, fun wX hSw => ?_⟩) (by assumption) ?_
                                  rotate_left
                                  · (try dsimp only at hSw); go_simp; try with_reducible rfl
                                  (try simp only [Act.put, List.getElem_toArray, List.getElem_cons_succ, List.getElem_cons_zero, List.setIfInBounds_toArray, List.set_cons_zero, List.set_cons_succ])
                                  refine wpAnyH_take (i := 26) (v := ?_) rfl (by kernel_rfl) (by kernel_rfl) (by kernel_rfl) (fun _ _ _ h => h) (Or.inl ⟨by rfl, fun wX hSw => ?_⟩) (by assumption) ?_
                                  rotate_left
                                  · (try dsimp only at hSw); go_simp; try with_reducible rfl
                                  (try simp only [Act.put, List.getElem_toArray, List.getElem_cons_succ, List.getElem_cons_zero, List.setIfInBounds_toArray, List.set_cons_zero, List.set_cons_succ])
                                  refine wpAnyH_take (i := 27) (v := ?_) rfl (by kernel_rfl) (by kernel_rfl) (by kernel_rfl) (fun _ _ _ h => h) (Or.inl ⟨by rfl, fun wX hSw => ?_⟩) (by assumption) ?_
                                  rotate_left
                                  · (try dsimp only at hSw); go_simp; try with_reducible rfl
                                  (try simp only [Act.put, List.getElem_toArray, List.getElem_cons_succ, List.getElem_cons_zero, List.setIfInBounds_toArray, List.set_cons_zero, List.set_cons_succ])
                                  refine wpAnyH_take (i := 28) (v := ?_) rfl (by kernel_rfl) (by kernel_rfl) (by kernel_rfl) (fun _ _ _ h => h) (Or.inl ⟨by rfl, fun wX hSw => ?_⟩) (by assumption) ?_
                                  rotate_left
                                  · (try dsimp only at hSw); go_simp; try with_reducible rfl
                                  (try simp only [Act.put, List.getElem_toArray, List.getElem_cons_succ, List.getElem_cons_zero, List.setIfInBounds_toArray, List.set_cons_zero, List.set_cons_succ])
                                  refine wpAnyH_take (i := 29) (v := ?_) rfl (by kernel_rfl) (by kernel_rfl) (by kernel_rfl) (fun _ _ _ h => h) (Or.inl ⟨by rfl, fun wX hSw => ?_⟩) (by assumption) ?_
                                  rotate_left
                                  · (try dsimp only at hSw); go_simp; try with_reducible rfl
                                  (try simp only [Act.put, List.getElem_toArray, List.getElem_cons_succ, List.getElem_cons_zero, List.setIfInBounds_toArray, List.set_cons_zero, List.set_cons_succ])
                                  refine wpAnyH_take (i := 30) (v := ?_) rfl (by kernel_rfl) (by kernel_rfl) (by kernel_rfl) (fun _ _ _ h => h) (Or.inl ⟨by rfl, fun wX hSw => ?_⟩) (by assumption) ?_
                                  rotate_left
                                  · (try dsimp only at hSw); go_simp; try with_reducible rfl
                                  (try simp only [Act.put, List.getElem_toArray, List.getElem_cons_succ, List.getElem_cons_zero, List.setIfInBounds_toArray, List.set_cons_zero, List.set_cons_succ])
                                  refine wpAnyH_take (i := 31) (v := ?_) rfl (by kernel_rfl) (by kernel_rfl) (by kernel_rfl) (fun _ _ _ h => h) (Or.inl ⟨by rfl, fun wX hSw => ?_⟩) (by assumption) ?_
                                  rotate_left
                                  · (try dsimp only at hSw); go_simp; try with_reducible rfl
                                  (try simp only [Act.put, List.getElem_toArray, List.getElem_cons_succ, List.getElem_cons_zero, List.setIfInBounds_toArray, List.set_cons_zero, List.set_cons_succ])
                                  refine wpAnyH_take (i := 32) (v := ?_) rfl (by kernel_rfl) (by kernel_rfl) (by kernel_rfl) (fun _ _ _ h => h) (Or.inl ⟨by rfl, fun wX hSw => ?_⟩) (by assumption) ?_
                                  rotate_left
                                  · (try dsimp only at hSw); go_simp; try with_reducible rfl
                                  (try simp only [Act.put, List.getElem_toArray, List.getElem_cons_succ, List.getElem_cons_zero, List.setIfInBounds_toArray, List.set_cons_zero, List.set_cons_succ])
                                  refine wpAnyH_take (i := 33) (v := ?_) rfl (by kernel_rfl) (by kernel_rfl) (by kernel_rfl) (fun _ _ _ h => h) (Or.inl ⟨by rfl, fun wX hSw => ?_⟩) (by assumption) ?_
                                  rotate_left
                                  · (try dsimp only at hSw); go_simp; try with_reducible rfl
                                  (try simp only [Act.put, List.getElem_toArray, List.getElem_cons_succ, List.getElem_cons_zero, List.setIfInBounds_toArray, List.set_cons_zero, List.set_cons_succ])
                                  refine wpAnyH_take (i := 34) (v := ?_) rfl (by kernel_rfl) (by kernel_rfl) (by kernel_rfl) (fun _ _ _ h => h) (Or.inl ⟨by rfl, fun wX hSw => ?_⟩) (by assumption) ?_
                                  rotate_left
                                  · (try dsimp only at hSw); go_simp; try with_reducible rfl
                                  (try simp only [Act.put, List.getElem_toArray, List.getElem_cons_succ, List.getElem_cons_zero, List.setIfInBounds_toArray, List.set_cons_zero, List.set_cons_succ])
                                  refine wpAnyH_take (i := 35) (v := ?_) rfl (by kernel_rfl) (by kernel_rfl) (by kernel_rfl) (fun _ _ _ h => h) (Or.inl ⟨by rfl, fun wX hSw => ?_⟩) (by assumption) ?_
                                  rotate_left
                                  · (try dsimp only at hSw); go_simp; try with_reducible rfl
                                  (try simp only [Act.put, List.getElem_toArray, List.getElem_cons_succ, List.getElem_cons_zero, List.setIfInBounds_toArray, List.set_cons_zero, List.set_cons_succ])
                                  refine wpAnyH_take (i := 36) (v := ?_) rfl (by kernel_rfl) (by kernel_rfl) (by kernel_rfl) (fun _ _ _ h => h) (Or.inl ⟨by rfl, fun wX hSw => ?_⟩) (by assumption) ?_
                                  rotate_left
                                  · (try dsimp only at hSw); go_simp; try with_reducible rfl
                                  (try simp only [Act.put, List.getElem_toArray, List.getElem_cons_succ, List.getElem_cons_zero, List.setIfInBounds_toArray, List.set_cons_zero, List.set_cons_succ])
                                  refine wpAnyH_take (i := 37) (v := ?_) rfl (by kernel_rfl) (by kernel_rfl) (by kernel_rfl) (fun _ _ _ h => h) (Or.inl ⟨by rfl, fun wX hSw => ?_⟩) (by assumption) ?_
                                  rotate_left
                                  · (try dsimp only at hSw); go_simp; try with_reducible rfl
                                  (try simp only [Act.put, List.getElem_toArray, List.getElem_cons_succ, List.getElem_cons_zero, List.setIfInBounds_toArray, List.set_cons_zero, List.set_cons_succ])
                                  refine wpAnyH_take (i := 38) (v := ?_) rfl (by kernel_rfl) (by kernel_rfl) (by kernel_rfl) (fun _ _ _ h => h) (Or.inl ⟨by rfl, fun wX hSw => ?_⟩) (by assumption) ?_
                                  rotate_left
                                  · (try dsimp only at hSw); go_simp; try with_reducible rfl
                                  (try simp only [Act.put, List.getElem_toArray, List.getElem_cons_succ, List.getElem_cons_zero, List.setIfInBounds_toArray, List.set_cons_zero, List.set_cons_succ])
                                  refine wpAnyH_take (i := 39) (v := ?_) rfl (by kernel_rfl) (by kernel_rfl) (by kernel_rfl) (fun _ _ _ h => h) (Or.inl ⟨by rfl, fun wX hSw => ?_⟩) (by assumption) ?_
                                  rotate_left
                                  · (try dsimp only at hSw); go_simp; try with_reducible rfl
                                  (try simp only [Act.put, List.getElem_toArray, List.getElem_cons_succ, List.getElem_cons_zero, List.setIfInBounds_toArray, List.set_cons_zero, List.set_cons_succ])
                                  refine wpAnyH_take (i := 40) (v := ?_) rfl (by kernel_rfl) (by kernel_rfl) (by kernel_rfl) (fun _ _ _ h => h) (Or.inl ⟨by rfl, fun wX hSw => ?_⟩) (by assumption) ?_
                                  rotate_left
                                  · (try dsimp only at hSw); go_simp; try with_reducible rfl
                                  (try simp only [Act.put, List.getElem_toArray, List.getElem_cons_succ, List.getElem_cons_zero, List.setIfInBounds_toArray, List.set_cons_zero, List.set_cons_succ])
                                  refine wpAnyH_take (i := 41) (v := ?_) rfl (by kernel_rfl) (by kernel_rfl) (by kernel_rfl) (fun _ _ _ h => h) (Or.inl ⟨by rfl, fun wX hSw => ?_⟩) (by assumption) ?_
                                  rotate_left
                                  · (try dsimp only at hSw); go_simp; try with_reducible rfl
                                  (try simp only [Act.put, List.getElem_toArray, List.getElem_cons_succ, List.getElem_cons_zero, List.setIfInBounds_toArray, List.set_cons_zero, List.set_cons_succ])
                                  refine wpAnyH_take (i := 42) (v := ?_) rfl (by kernel_rfl) (by kernel_rfl) (by kernel_rfl) (fun _ _ _ h => h) (Or.inl ⟨by rfl, fun wX hSw => ?_⟩) (by assumption) ?_
                                  rotate_left
                                  · (try dsimp only at hSw); go_simp; try with_reducible rfl
                                  (try simp only [Act.put, List.getElem_toArray, List.getElem_cons_succ, List.getElem_cons_zero, List.setIfInBounds_toArray, List.set_cons_zero, List.set_cons_succ])
                                  refine wpAnyH_take (i := 43) (v := ?_) rfl (by kernel_rfl) (by kernel_rfl) (by kernel_rfl) (fun _ _ _ h => h) (Or.inl ⟨by rfl, fun wX hSw => ?_⟩) (by assumption) ?_
                                  rotate_left
                                  · (try dsimp only at hSw); go_simp; try with_reducible rfl
                                  (try simp only [Act.put, List.getElem_toArray, List.getElem_cons_succ, List.getElem_cons_zero, List.setIfInBounds_toArray, List.set_cons_zero, List.set_cons_succ])
                                  refine wpAnyH_take (i := 44) (v := ?_) rfl (by kernel_rfl) (by kernel_rfl) (by kernel_rfl) (fun _ _ _ h => h) (Or.inl ⟨by rfl, fun wX hSw => ?_⟩) (by assumption) ?_
                                  rotate_left
                                  · (try dsimp only at hSw); go_simp; try with_reducible rfl
                                  (try simp only [Act.put, List.getElem_toArray, List.getElem_cons_succ, List.getElem_cons_zero, List.setIfInBounds_toArray, List.set_cons_zero, List.set_cons_succ])
                                  refine wpAnyH_take (i := 45) (v := ?_) rfl (by kernel_rfl) (by kernel_rfl) (by kernel_rfl) (fun _ _ _ h => h) (Or.inl ⟨by rfl, fun wX hSw => ?_⟩) (by assumption) ?_
                                  rotate_left
                                  · (try dsimp only at hSw); go_simp; try with_reducible rfl
                                  (try simp only [Act.put, List.getElem_toArray, List.getElem_cons_succ, List.getElem_cons_zero, List.setIfInBounds_toArray, List.set_cons_zero, List.set_cons_succ])
                                  refine wpAnyH_take (i := 46) (v := ?_) rfl (by kernel_rfl) (by kernel_rfl) (by kernel_rfl) (fun _ _ _ h => h) (Or.inl ⟨by rfl, fun wX hSw => ?_⟩) (by assumption) ?_
                                  rotate_left
                                  · (try dsimp only at hSw); go_simp; try with_reducible rfl
                                  (try simp only [Act.put, List.getElem_toArray, List.getElem_cons_succ, List.getElem_cons_zero, List.setIfInBounds_toArray, List.set_cons_zero, List.set_cons_succ])
                                  refine wpAnyH_ready (rs := [47]) (by kernel_rfl) (by simp) ?_
                                  refine AllReadyH.cons rfl (fun K hK => ?_) (AllReadyH.nil)
                                  go_simp
                                  ((go_at_call 35; (with_reducible refine (cost13_a W H a n c xs cl t u cv _ (by first | exact HYV1.out _ HC.out | exact HYV1.out _ HC.out.drew) GG hc3 (by omega) (by omega) HCV).mono ?_); rintro e z ⟨rfl, hb⟩; have hC2 : Hk (Below V1.heap.size V1 z) := ⟨by first | exact kw_step HC.out (Nat.le_refl _) hb | exact kw_step HC.out.drew (Nat.le_refl _) hb⟩; clear hb; replace HC := hC2; clear hC2; clear hc hf hl hn' hm; obtain ⟨hc, hf, hl, hn', hm⟩ := kw_rules HC.out (Nat.le_refl _)))
                                  refine hK.out _ _ ?_ (fun hHeld => ?_)
                                  · exact kw_S HC.out
                                  clear hK K
                                  (try simp only [Act.put, List.getElem_toArray, List.getElem_cons_succ, List.getElem_cons_zero, List.setIfInBounds_toArray, List.set_cons_zero, List.set_cons_succ])
                                  refine wpAnyH_take (i := 48) (v := ?_) rfl (by kernel_rfl) (by kernel_rfl) (by kernel_rfl) (fun _ _ _ h => h) (Or.inl ⟨by rfl, fun wX hSw => ?_⟩) (by assumption) ?_
                                  rotate_left
                                  · (try dsimp only at hSw); go_simp; try with_reducible rfl
                                  (try simp only [Act.put, List.getElem_toArray, List.getElem_cons_succ, List.getElem_cons_zero, List.setIfInBounds_toArray, List.set_cons_zero, List.set_cons_succ])
                                  refine wpAnyH_take (i := 49) (v := ?_) rfl (by kernel_rfl) (by kernel_rfl) (by kernel_rfl) (fun _ _ _ h => h) (Or.inl ⟨by rfl, fun wX hSw => ?_⟩) (by assumption) ?_
                                  rotate_left
                                  · (try dsimp only at hSw); go_simp; try with_reducible rfl
                                  (try simp only [Act.put, List.getElem_toArray, List.getElem_cons_succ, List.getElem_cons_zero, List.setIfInBounds_toArray, List.set_cons_zero, List.set_cons_succ])
                                  refine wpAnyH_take (i := 50) (v := ?_) rfl (by kernel_rfl) (by kernel_rfl) (by kernel_rfl) (fun _ _ _ h => h) (Or.inl ⟨by rfl, fun wX hSw => ?_⟩) (by assumption) ?_
                                  rotate_left
                                  · (try dsimp only at hSw); go_simp; try with_reducible rfl
                                  (try simp only [Act.put, List.getElem_toArray, List.getElem_cons_succ, List.getElem_cons_zero, List.setIfInBounds_toArray, List.set_cons_zero, List.set_cons_succ])
                                  refine wpAnyH_take (i := 51) (v := ?_) rfl (by kernel_rfl) (by kernel_rfl) (by kernel_rfl) (fun _ _ _ h => h) (Or.inl ⟨by rfl, fun wX hSw => ?_⟩) (by assumption) ?_
                                  rotate_left
                                  · (try dsimp only at hSw); go_simp; try with_reducible rfl
                                  (try simp only [Act.put, List.getElem_toArray, List.getElem_cons_succ, List.getElem_cons_zero, List.setIfInBounds_toArray, List.set_cons_zero, List.set_cons_succ])
                                  refine wpAnyH_take (i := 52) (v := ?_) rfl (by kernel_rfl) (by kernel_rfl) (by kernel_rfl) (fun _ _ _ h => h) (Or.inl ⟨by rfl, fun wX hSw => ?_⟩) (by assumption) ?_
                                  rotate_left
                                  · (try dsimp only at hSw); go_simp; try with_reducible rfl
                                  (try simp only [Act.put, List.getElem_toArray, List.getElem_cons_succ, List.getElem_cons_zero, List.setIfInBounds_toArray, List.set_cons_zero, List.set_cons_succ])
                                  refine wpAnyH_done (by kernel_rfl) ?_ _
                                  go_wp2_with fail
                                  go_meet
                                  case rel => exact ⟨rfl, HC⟩
                              case rest =>
                                obtain ⟨rfl, HC⟩ := hcut
                                go_wp2_with fail
                                exact ⟨⟨q + 1, by go_num, by omega, HC⟩, by simp [intOf]; omega⟩
                          · obtain rfl : q = 4 := by omega
                            as_aux_lemma =>
                              go_wp2_with fail
                              exact ⟨⟨t + 1, by go_num, by omega, ⟨HC01.out.trans (HC.out.mono HC01.out.size)⟩⟩, by simp [intOf]; omega⟩
          · obtain rfl : t = n := by omega
            as_aux_lemma =>
              go_wp2_with fail
              exact ⟨⟨k + 1, by go_num, by omega, by omega, ⟨HAI.out.below HC.out hIV⟩, ⟨HBV.out _ HC.out⟩⟩, by simp [intOf]; omega⟩
      · have HTL : Hk (decide (0 ≤ q ∧ q < W * H) = false) := ⟨decide_eq_false htl⟩
        clear htl
        as_aux_lemma =>
          go_wp2_with (go_at_call 25; (with_reducible refine (rtile_as false q W H _ _ GG.out.w1 GG.out.w2 GG.out.h1 GG.out.h2 HTL).mono ?_); rintro e z ⟨rfl, hb⟩; replace HAI := Hk.mk (HAI.out.later hb); replace HB := Hk.mk (kw_step HB.out hNW hb); clear hb; clear hc hf hl hn' hm; obtain ⟨hc, hf, hl, hn', hm⟩ := kw_rules HB.out hNW)
          exact ⟨⟨k + 1, by go_num, by omega, by omega, HAI, HB⟩, by simp [intOf]; omega⟩
    · have hor : (¬ k < tn) ∨ (k < tn ∧ ¬ k < 4) := by omega
      rcases hor with h1 | ⟨h1, h3⟩
      · have dk : decide ((k : Int) < (tn : Int)) = false := by simp; omega
        as_aux_lemma =>
          go_wp2_with (go_at_call 24; (with_reducible refine (wakes13_any _ (HLF.out _ HB.out)).mono ?_); rintro e z ⟨rfl, hb⟩; replace HB := Hk.mk (kw_step HB.out hNW hb); clear hb; clear hc hf hl hn' hm; obtain ⟨hc, hf, hl, hn', hm⟩ := kw_rules HB.out hNW)
          go_ret
          exact ⟨rfl, HTR.out _ HB.out⟩
      · have dk : decide ((k : Int) < (tn : Int)) = true := by simpa using h1
        have dk3 : decide ((k : Int) < 4) = false := by simp; omega
        as_aux_lemma =>
          go_wp2_with (go_at_call 24; (with_reducible refine (wakes13_any _ (HLF.out _ HB.out)).mono ?_); rintro e z ⟨rfl, hb⟩; replace HB := Hk.mk (kw_step HB.out hNW hb); clear hb; clear hc hf hl hn' hm; obtain ⟨hc, hf, hl, hn', hm⟩ := kw_rules HB.out hNW)
          go_ret
          exact ⟨rfl, HTR.out _ HB.out⟩
end Go.Proofs.YthabjihpjdlmoaaDoor
