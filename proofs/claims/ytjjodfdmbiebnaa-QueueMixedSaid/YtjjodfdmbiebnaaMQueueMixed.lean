import Derived.Deep.QuietTactic
import Derived.BigQuiet
import Derived.Deep.RegionWith
import Derived.Deep.RegionHeld3
import Derived.Deep.DeepCutAuto
import Derived.Deep.DeepFit
import Derived.Outline
import Derived.Test.YtjjodfdmbiebnaaQxj
/- For every list of acts, QueueMixed answers true and leaves its argument as it was: what is put in later, and is less, comes out first; as many come out as went in. No condition. -/
namespace Go.Proofs.Ytjjodfdmbiebnaa
open Go.ChangeShapes Go.WideShapes Go.ChangeAt Go.RowKit Go.Deep
set_option linter.unusedVariables false
set_option linter.unusedSimpArgs false
set_option maxRecDepth 1000000 in
set_option maxHeartbeats 3200000 in
theorem queueMixed_walk (a : Option Addr) (len cap : Nat) (w : World) (rows : Asks12 w a len cap) :
    Calls Try.prog 13 #[.slice a len cap] w fun e w' => e = .returned (.bool true) ∧ Below w.heap.size w w' := by
  obtain ⟨hl, hm, D, L, hall⟩ := rows
  have HAQ := Hk.mk hall
  clear hall
  have L0 : w.heap.size ≤ w.heap.size := Nat.le_refl _
  go_enter Try.func13, Try.ntmps13
  go_wp2_with (go_at_call 46; (with_reducible refine (qnew _ w.heap.size (Nat.le_refl _)).mono ?_); rintro e z ⟨Q, rfl, hQ, hq, hb⟩; have HQ := Hk.mk hq; have HB := Hk.mk hb; clear hq hb hQ)
  go_loopw [4, 5, 6] (fun s t i wr => ∃ (k N : Nat) (a1 : Option Addr) (c1 : Nat) (F : Nat → PrQ), i = .int .i64 k ∧ s = .int .i64 N ∧ t = .int .i64 k ∧ N = 2 * k ∧ k ≤ 80 ∧ Hk (Hq wr w.heap.size Q a1 k c1 F) ∧ Hk (HpQ F k) ∧ Hk (Below w.heap.size w wr)) (fun _ _ i _ => 80 - (intOf i).toNat)
  case atStart => exact ⟨0, 0, none, 0, _, rfl, rfl, rfl, rfl, by omega, HQ, ⟨fun k h0 h => by omega⟩, HB⟩
  case round =>
    clear HQ HB
    obtain ⟨k, N, a1, c1, F, rfl, rfl, rfl, hN, hk, HQ, HP, HB⟩ := hrel
    by_cases hlt : k < len ∧ k < 80
    · obtain ⟨g1, g2⟩ := hlt
      obtain ⟨b, off, rfl, hb, hd, d0, d1, d2⟩ := HAQ.out k g1
      obtain ⟨p, hp⟩ : ∃ p, L k = p := ⟨_, rfl⟩
      rw [hp] at d1 d2
      clear hd hp
      have k0 : (0 : Int) ≤ (k : Int) := by omega
      have k1 : (k : Int) < (len : Int) := by omega
      go_wp2_with fail
      have HBS := HB
      clear HB
      have L0V : w.heap.size ≤ w.heap.size := Nat.le_refl _
      apply reg_merge
      intro HG1
      refine wp_region_held_drew (S := fun Z => (∀ b o, b < w.heap.size → Z.cell? ⟨b, o, none⟩ = w.cell? ⟨b, o, none⟩)) (by kernel_rfl) (kw_s HBS.out.drew) (fun hHeld => ?_)
      have HB := Hk.mk HBS.out.drew
      have hb := (Below.refl wr.heap.size wr).drew
      replace HQ := Hk.mk (HQ.out.later hb)
      clear hb
      obtain ⟨WY, hWe⟩ : ∃ WY, wr.drew = WY := ⟨_, rfl⟩
      rw [hWe] at HB hHeld HQ ⊢
      clear hWe
      refine wpAnyH_take (i := 0) (v := ?_) rfl (by kernel_rfl) (by kernel_rfl) (by kernel_rfl) (fun _ _ _ h => h) (Or.inl ⟨by rfl, fun wX hSw => ?_⟩) (by assumption) ?_
      rotate_left
      · (try dsimp only at hSw); go_simp; try with_reducible rfl
      (try simp only [Act.put, List.getElem_toArray, List.getElem_cons_succ, List.getElem_cons_zero, List.setIfInBounds_toArray, List.set_cons_zero, List.set_cons_succ])
      refine wpAnyH_take (i := 1) (v := ?_) rfl (by kernel_rfl) (by kernel_rfl) (by kernel_rfl) (fun _ _ _ h => h) (Or.inl ⟨by rfl, fun wX hSw => ?_⟩) (by assumption) ?_
      rotate_left
      · (try dsimp only at hSw); go_simp; try with_reducible rfl
      (try simp only [Act.put, List.getElem_toArray, List.getElem_cons_succ, List.getElem_cons_zero, List.setIfInBounds_toArray, List.set_cons_zero, List.set_cons_succ])
      refine wpAnyH_take (i := 2) (v := ?_) rfl (by kernel_rfl) (by kernel_rfl) (by kernel_rfl) (fun _ _ _ h => h) (Or.inl ⟨by rfl, fun wX hSw => ?_⟩) (by assumption) ?_
      rotate_left
      · (try dsimp only at hSw); go_simp; try with_reducible rfl
      (try simp only [Act.put, List.getElem_toArray, List.getElem_cons_succ, List.getElem_cons_zero, List.setIfInBounds_toArray, List.set_cons_zero, List.set_cons_succ])
      refine wpAnyH_take (i := 3) (v := ?_) rfl (by kernel_rfl) (by kernel_rfl) (by kernel_rfl) (fun _ _ _ h => h) (Or.inl ⟨by rfl, fun wX hSw => ?_⟩) (by assumption) ?_
      rotate_left
      · (try dsimp only at hSw); go_simp; try with_reducible rfl
      (try simp only [Act.put, List.getElem_toArray, List.getElem_cons_succ, List.getElem_cons_zero, List.setIfInBounds_toArray, List.set_cons_zero, List.set_cons_succ])
      refine wpAnyH_take (i := 4) (v := ?_) rfl (by kernel_rfl) (by kernel_rfl) (by kernel_rfl) (fun _ _ _ h => h) (Or.inl ⟨by rfl, fun wX hSw => ?_⟩) (by assumption) ?_
      rotate_left
      · (try dsimp only at hSw); go_simp; try with_reducible rfl
      (try simp only [Act.put, List.getElem_toArray, List.getElem_cons_succ, List.getElem_cons_zero, List.setIfInBounds_toArray, List.set_cons_zero, List.set_cons_succ])
      refine wpAnyH_take (i := 5) (v := ?_) rfl (by kernel_rfl) (by kernel_rfl) (by kernel_rfl) (fun _ _ _ h => h) (Or.inl ⟨by rfl, fun wX hSw => ?_⟩) (by assumption) ?_
      rotate_left
      · (try dsimp only at hSw); go_simp; try with_reducible rfl
      (try simp only [Act.put, List.getElem_toArray, List.getElem_cons_succ, List.getElem_cons_zero, List.setIfInBounds_toArray, List.set_cons_zero, List.set_cons_succ])
      refine wpAnyH_take (i := 6) (v := ?_) rfl (by kernel_rfl) (by kernel_rfl) (by kernel_rfl) (fun _ _ _ h => h) (Or.inl ⟨by rfl, fun wX hSw => ?_⟩) (by assumption) ?_
      rotate_left
      · (try dsimp only at hSw); go_simp; try with_reducible rfl
      (try simp only [Act.put, List.getElem_toArray, List.getElem_cons_succ, List.getElem_cons_zero, List.setIfInBounds_toArray, List.set_cons_zero, List.set_cons_succ])
      refine wpAnyH_take (i := 7) (v := ?_) rfl (by kernel_rfl) (by kernel_rfl) (by kernel_rfl) (fun _ _ _ h => h) (Or.inl ⟨by rfl, fun wX hSw => ?_⟩) (by assumption) ?_
      rotate_left
      · (try dsimp only at hSw); go_simp; try with_reducible rfl
      (try simp only [Act.put, List.getElem_toArray, List.getElem_cons_succ, List.getElem_cons_zero, List.setIfInBounds_toArray, List.set_cons_zero, List.set_cons_succ])
      refine wpAnyH_take (i := 8) (v := ?_) rfl (by kernel_rfl) (by kernel_rfl) (by kernel_rfl) (fun _ _ _ h => h) (Or.inl ⟨by rfl, fun wX hSw => ?_⟩) (by assumption) ?_
      rotate_left
      · (try dsimp only at hSw); go_simp; try with_reducible rfl
      (try simp only [Act.put, List.getElem_toArray, List.getElem_cons_succ, List.getElem_cons_zero, List.setIfInBounds_toArray, List.set_cons_zero, List.set_cons_succ])
      refine wpAnyH_take (i := 9) (v := ?_) rfl (by kernel_rfl) (by kernel_rfl) (by kernel_rfl) (fun _ _ _ h => h) (Or.inl ⟨by rfl, fun wX hSw => ?_⟩) (by assumption) ?_
      rotate_left
      · (try dsimp only at hSw); go_simp; try with_reducible rfl
      (try simp only [Act.put, List.getElem_toArray, List.getElem_cons_succ, List.getElem_cons_zero, List.setIfInBounds_toArray, List.set_cons_zero, List.set_cons_succ])
      refine wpAnyH_take (i := 10) (v := ?_) rfl (by kernel_rfl) (by kernel_rfl) (by kernel_rfl) (fun _ _ _ h => h) (Or.inl ⟨by rfl, fun wX hSw => ?_⟩) (by assumption) ?_
      rotate_left
      · (try dsimp only at hSw); go_simp; try with_reducible rfl
      (try simp only [Act.put, List.getElem_toArray, List.getElem_cons_succ, List.getElem_cons_zero, List.setIfInBounds_toArray, List.set_cons_zero, List.set_cons_succ])
      refine wpAnyH_ready (rs := [11]) (by kernel_rfl) (by simp) ?_
      refine AllReadyH.cons rfl (fun K hK => ?_) (AllReadyH.nil)
      · skip
        ((go_simp; (go_at_call 48; (with_reducible refine (qpush_at w.heap.size Q k c1 a1 F p.1 p.2 p ⟨rfl⟩ _ HQ.out HP.out (by omega)).mono ?_); rintro e z ⟨rfl, g2, c2, G2, hr⟩; have HQ2 := Hk.mk hr.q; have HP2 := Hk.mk hr.hp; have HC2 := Hk.mk hr.cn; replace HB := Hk.mk (HB.out.trans (HQ.out.bel hr.fr)); clear hr)))
        refine hK.out _ _ ?_ (fun hHeld2 => ?_)
        · exact kw_s HB.out
        clear hK K hHeld
        have hHeld := hHeld2
        clear hHeld2
        (try simp only [Act.put, List.getElem_toArray, List.getElem_cons_succ, List.getElem_cons_zero, List.setIfInBounds_toArray, List.set_cons_zero, List.set_cons_succ])
        clear HQ
        refine reg_cast (l' := #[true, true, true, true, true, true, true, true, true, true, true, true]) (by kernel_rfl) ?_
        revert hHeld
        revert HC2
        revert HP2
        revert HQ2
        revert HB
        revert G2
        revert c2
        revert g2
        revert z
        exact HG1.out
      intro WY g2 c2 G2 HB HQ2 HP2 HC2 hHeld
      refine wpAnyH_done (by kernel_rfl) ?_ _
      clear HBS hHeld
      go_wp2_with fail
      have HBS := HB
      clear HB
      have L0V : w.heap.size ≤ w.heap.size := Nat.le_refl _
      apply reg_merge
      intro HG1
      refine wp_region_held_drew (S := fun Z => (∀ b o, b < w.heap.size → Z.cell? ⟨b, o, none⟩ = w.cell? ⟨b, o, none⟩)) (by kernel_rfl) (kw_s HBS.out.drew) (fun hHeld => ?_)
      have HB := Hk.mk HBS.out.drew
      have hb := (Below.refl WY.heap.size WY).drew
      replace HQ2 := Hk.mk (HQ2.out.later hb)
      clear hb
      obtain ⟨WX, hWe⟩ : ∃ WX, WY.drew = WX := ⟨_, rfl⟩
      rw [hWe] at HB hHeld HQ2 ⊢
      clear hWe
      refine wpAnyH_take (i := 0) (v := ?_) rfl (by kernel_rfl) (by kernel_rfl) (by kernel_rfl) (fun _ _ _ h => h) (Or.inl ⟨by rfl, fun wX hSw => ?_⟩) (by assumption) ?_
      rotate_left
      · (try dsimp only at hSw); go_simp; try with_reducible rfl
      (try simp only [Act.put, List.getElem_toArray, List.getElem_cons_succ, List.getElem_cons_zero, List.setIfInBounds_toArray, List.set_cons_zero, List.set_cons_succ])
      refine wpAnyH_take (i := 1) (v := ?_) rfl (by kernel_rfl) (by kernel_rfl) (by kernel_rfl) (fun _ _ _ h => h) (Or.inl ⟨by rfl, fun wX hSw => ?_⟩) (by assumption) ?_
      rotate_left
      · (try dsimp only at hSw); go_simp; try with_reducible rfl
      (try simp only [Act.put, List.getElem_toArray, List.getElem_cons_succ, List.getElem_cons_zero, List.setIfInBounds_toArray, List.set_cons_zero, List.set_cons_succ])
      refine wpAnyH_take (i := 2) (v := ?_) rfl (by kernel_rfl) (by kernel_rfl) (by kernel_rfl) (fun _ _ _ h => h) (Or.inl ⟨by rfl, fun wX hSw => ?_⟩) (by assumption) ?_
      rotate_left
      · (try dsimp only at hSw); go_simp; try with_reducible rfl
      (try simp only [Act.put, List.getElem_toArray, List.getElem_cons_succ, List.getElem_cons_zero, List.setIfInBounds_toArray, List.set_cons_zero, List.set_cons_succ])
      refine wpAnyH_take (i := 3) (v := ?_) rfl (by kernel_rfl) (by kernel_rfl) (by kernel_rfl) (fun _ _ _ h => h) (Or.inl ⟨by rfl, fun wX hSw => ?_⟩) (by assumption) ?_
      rotate_left
      · (try dsimp only at hSw); go_simp; try with_reducible rfl
      (try simp only [Act.put, List.getElem_toArray, List.getElem_cons_succ, List.getElem_cons_zero, List.setIfInBounds_toArray, List.set_cons_zero, List.set_cons_succ])
      refine wpAnyH_take (i := 4) (v := ?_) rfl (by kernel_rfl) (by kernel_rfl) (by kernel_rfl) (fun _ _ _ h => h) (Or.inl ⟨by rfl, fun wX hSw => ?_⟩) (by assumption) ?_
      rotate_left
      · (try dsimp only at hSw); go_simp; try with_reducible rfl
      (try simp only [Act.put, List.getElem_toArray, List.getElem_cons_succ, List.getElem_cons_zero, List.setIfInBounds_toArray, List.set_cons_zero, List.set_cons_succ])
      refine wpAnyH_take (i := 5) (v := ?_) rfl (by kernel_rfl) (by kernel_rfl) (by kernel_rfl) (fun _ _ _ h => h) (Or.inl ⟨by rfl, fun wX hSw => ?_⟩) (by assumption) ?_
      rotate_left
      · (try dsimp only at hSw); go_simp; try with_reducible rfl
      (try simp only [Act.put, List.getElem_toArray, List.getElem_cons_succ, List.getElem_cons_zero, List.setIfInBounds_toArray, List.set_cons_zero, List.set_cons_succ])
      refine wpAnyH_take (i := 6) (v := ?_) rfl (by kernel_rfl) (by kernel_rfl) (by kernel_rfl) (fun _ _ _ h => h) (Or.inl ⟨by rfl, fun wX hSw => ?_⟩) (by assumption) ?_
      rotate_left
      · (try dsimp only at hSw); go_simp; try with_reducible rfl
      (try simp only [Act.put, List.getElem_toArray, List.getElem_cons_succ, List.getElem_cons_zero, List.setIfInBounds_toArray, List.set_cons_zero, List.set_cons_succ])
      refine wpAnyH_take (i := 7) (v := ?_) rfl (by kernel_rfl) (by kernel_rfl) (by kernel_rfl) (fun _ _ _ h => h) (Or.inl ⟨by rfl, fun wX hSw => ?_⟩) (by assumption) ?_
      rotate_left
      · (try dsimp only at hSw); go_simp; try with_reducible rfl
      (try simp only [Act.put, List.getElem_toArray, List.getElem_cons_succ, List.getElem_cons_zero, List.setIfInBounds_toArray, List.set_cons_zero, List.set_cons_succ])
      refine wpAnyH_take (i := 8) (v := ?_) rfl (by kernel_rfl) (by kernel_rfl) (by kernel_rfl) (fun _ _ _ h => h) (Or.inl ⟨by rfl, fun wX hSw => ?_⟩) (by assumption) ?_
      rotate_left
      · (try dsimp only at hSw); go_simp; try with_reducible rfl
      (try simp only [Act.put, List.getElem_toArray, List.getElem_cons_succ, List.getElem_cons_zero, List.setIfInBounds_toArray, List.set_cons_zero, List.set_cons_succ])
      refine wpAnyH_take (i := 9) (v := ?_) rfl (by kernel_rfl) (by kernel_rfl) (by kernel_rfl) (fun _ _ _ h => h) (Or.inl ⟨by rfl, fun wX hSw => ?_⟩) (by assumption) ?_
      rotate_left
      · (try dsimp only at hSw); go_simp; try with_reducible rfl
      (try simp only [Act.put, List.getElem_toArray, List.getElem_cons_succ, List.getElem_cons_zero, List.setIfInBounds_toArray, List.set_cons_zero, List.set_cons_succ])
      refine wpAnyH_take (i := 10) (v := ?_) rfl (by kernel_rfl) (by kernel_rfl) (by kernel_rfl) (fun _ _ _ h => h) (Or.inl ⟨by rfl, fun wX hSw => ?_⟩) (by assumption) ?_
      rotate_left
      · (try dsimp only at hSw); go_simp; try with_reducible rfl
      (try simp only [Act.put, List.getElem_toArray, List.getElem_cons_succ, List.getElem_cons_zero, List.setIfInBounds_toArray, List.set_cons_zero, List.set_cons_succ])
      refine wpAnyH_ready (rs := [11]) (by kernel_rfl) (by simp) ?_
      refine AllReadyH.cons rfl (fun K hK => ?_) (AllReadyH.nil)
      · skip
        ((go_simp; (go_at_call 48; (with_reducible refine (qpush_at w.heap.size Q (k + 1) c2 (some ⟨g2, 0, none⟩) G2 p.1 p.2 p ⟨rfl⟩ _ HQ2.out HP2.out (by omega)).mono ?_); rintro e z ⟨rfl, g3, c3, G3, hr⟩; have HQ3 := Hk.mk hr.q; have HP3 := Hk.mk hr.hp; have HC3 := Hk.mk hr.cn; replace HB := Hk.mk (HB.out.trans (HQ2.out.bel hr.fr)); clear hr)))
        refine hK.out _ _ ?_ (fun hHeld2 => ?_)
        · exact kw_s HB.out
        clear hK K hHeld
        have hHeld := hHeld2
        clear hHeld2
        (try simp only [Act.put, List.getElem_toArray, List.getElem_cons_succ, List.getElem_cons_zero, List.setIfInBounds_toArray, List.set_cons_zero, List.set_cons_succ])
        clear HQ2
        refine reg_cast (l' := #[true, true, true, true, true, true, true, true, true, true, true, true]) (by kernel_rfl) ?_
        revert hHeld
        revert HC3
        revert HP3
        revert HQ3
        revert HB
        revert G3
        revert c3
        revert g3
        revert z
        exact HG1.out
      intro WX g3 c3 G3 HB HQ3 HP3 HC3 hHeld
      refine wpAnyH_done (by kernel_rfl) ?_ _
      clear HBS hHeld L0V
      have hmin : leQ (G3 0) p := by
        have h1 : 0 < cntQ G3 p (k + 1 + 1) := by rw [HC3.out p, if_pos rfl]; omega
        obtain ⟨q, hq, e⟩ := cntQ_pos h1
        rw [← e]
        exact HP3.out.min q hq
      obtain ⟨x, hx⟩ : ∃ x, G3 0 = x := ⟨_, rfl⟩
      have HX := Hk.mk hx
      rw [hx] at hmin
      clear hx
      go_upto_region 12 with (go_at_call 50; (with_reducible refine (pop_any w.heap.size Q (k + 1) _ _ G3 _ HQ3.out HP3.out (by omega)).mono ?_); rintro e z ⟨rfl, G4, hq, hp2, hc2, hf⟩; rw [HX.out]; have HQ4 := Hk.mk hq; have HP4 := Hk.mk hp2; replace HB := Hk.mk (HB.out.trans (HQ3.out.bel hf)); clear hq hp2 hc2 hf HQ3)
      have e1 := (HB.out.cell (p := ⟨b, off + k * 3 + 1, none⟩) hb).trans d1
      have e2 := (HB.out.cell (p := ⟨b, off + k * 3 + 2, none⟩) hb).trans d2
      rw [leQ_iff] at hmin
      have dk : decide (p.1 < x.1) = false := by simp; omega
      have hsub : (N : Int) + 2 - ((k : Int) + 1) = (k : Int) + 1 := by omega
      clear HP HP2 HP3 HC2 HC3 HX d0 d1 d2 HQ2
      by_cases e : x.1 = p.1
      · have de : (x.1 == p.1) = true := by simpa using e
        have dv : decide (p.2 < x.2) = false := by simp; omega
        clear hmin e
        go_wp2_with (go_at_call 52; (with_reducible refine (qlen _ w.heap.size Q (k + 1) _ _ _ HQ4.out).mono ?_); rintro e z ⟨rfl, rfl⟩)
        exact ⟨⟨k + 1, N + 2, _, _, G4, by go_num, by go_num, by go_num, by omega, by omega, HQ4, HP4, HB⟩, by simp [intOf]; omega⟩
      · have de : (x.1 == p.1) = false := by simpa using e
        clear hmin e
        go_wp2_with (go_at_call 52; (with_reducible refine (qlen _ w.heap.size Q (k + 1) _ _ _ HQ4.out).mono ?_); rintro e z ⟨rfl, rfl⟩)
        exact ⟨⟨k + 1, N + 2, _, _, G4, by go_num, by go_num, by go_num, by omega, by omega, HQ4, HP4, HB⟩, by simp [intOf]; omega⟩
    · by_cases g1 : k < len
      · have k1 : (k : Int) < (len : Int) := by omega
        have k2 : ¬ ((k : Int) < 80) := by omega
        go_wp2_with fail
        obtain ⟨wo, rfl⟩ : ∃ wo : World, wo = wr := ⟨wr, rfl⟩
        go_loopw [5] (fun t wr => ∃ (j m : Nat) (a1 : Option Addr) (c1 : Nat) (F : Nat → PrQ), t = .int .i64 j ∧ j + m = N ∧ Hk (Hq wr w.heap.size Q a1 m c1 F) ∧ Hk (HpQ F m) ∧ Hk (Below w.heap.size w wr)) (fun t _ => N - (intOf t).toNat)
        case atStart => exact ⟨k, k, a1, c1, F, rfl, by omega, HQ, HP, HB⟩
        case round =>
          clear HQ HP HB
          obtain ⟨j, m, a2, c2, F2, rfl, hjm, HQ, HP, HB⟩ := hrel
          rcases Nat.eq_zero_or_pos m with h0 | h0
          · obtain rfl : m = 0 := h0
            obtain rfl : j = N := by omega
            go_wp2_with (first | (go_at_call 52; (with_reducible refine (qlen _ w.heap.size Q 0 _ _ _ HQ.out).mono ?_); rintro e z ⟨rfl, rfl⟩) | (go_at_call 53; (with_reducible refine (wakes12_any _).mono ?_); rintro e z ⟨rfl, hb⟩; have HB2 := Hk.mk (HB.out.trans (hb.mono HB.out.size)); clear hb))
            go_ret
            exact ⟨rfl, HB2.out⟩
          · obtain ⟨m', rfl⟩ : ∃ m', m = m' + 1 := ⟨m - 1, by omega⟩
            have hm0 : (0 : Int) < (m' : Int) + 1 := by omega
            have d240 : decide ((240 : Int) < (j : Int)) = false := by simp; omega
            go_wp2_with (first
              | (go_at_call 52; (with_reducible refine (qlen _ w.heap.size Q (m' + 1) _ _ _ HQ.out).mono ?_); rintro e z ⟨rfl, rfl⟩)
              | (go_at_call 50; (with_reducible refine (pop_any w.heap.size Q m' _ _ F2 _ HQ.out HP.out (by omega)).mono ?_); rintro e z ⟨rfl, G4, hq, hp2, hc2, hf⟩; have HQ4 := Hk.mk hq; have HP4 := Hk.mk hp2; have HB4 := Hk.mk (HB.out.trans (HQ.out.bel hf)); clear hq hp2 hc2 hf))
            exact ⟨⟨j + 1, m', a2, c2, G4, by go_num, by omega, HQ4, HP4, HB4⟩, by simp [intOf]; omega⟩
      · have k1 : ¬ ((k : Int) < (len : Int)) := by omega
        go_wp2_with fail
        obtain ⟨wo, rfl⟩ : ∃ wo : World, wo = wr := ⟨wr, rfl⟩
        go_loopw [5] (fun t wr => ∃ (j m : Nat) (a1 : Option Addr) (c1 : Nat) (F : Nat → PrQ), t = .int .i64 j ∧ j + m = N ∧ Hk (Hq wr w.heap.size Q a1 m c1 F) ∧ Hk (HpQ F m) ∧ Hk (Below w.heap.size w wr)) (fun t _ => N - (intOf t).toNat)
        case atStart => exact ⟨k, k, a1, c1, F, rfl, by omega, HQ, HP, HB⟩
        case round =>
          clear HQ HP HB
          obtain ⟨j, m, a2, c2, F2, rfl, hjm, HQ, HP, HB⟩ := hrel
          rcases Nat.eq_zero_or_pos m with h0 | h0
          · obtain rfl : m = 0 := h0
            obtain rfl : j = N := by omega
            go_wp2_with (first | (go_at_call 52; (with_reducible refine (qlen _ w.heap.size Q 0 _ _ _ HQ.out).mono ?_); rintro e z ⟨rfl, rfl⟩) | (go_at_call 53; (with_reducible refine (wakes12_any _).mono ?_); rintro e z ⟨rfl, hb⟩; have HB2 := Hk.mk (HB.out.trans (hb.mono HB.out.size)); clear hb))
            go_ret
            exact ⟨rfl, HB2.out⟩
          · obtain ⟨m', rfl⟩ : ∃ m', m = m' + 1 := ⟨m - 1, by omega⟩
            have hm0 : (0 : Int) < (m' : Int) + 1 := by omega
            have d240 : decide ((240 : Int) < (j : Int)) = false := by simp; omega
            go_wp2_with (first
              | (go_at_call 52; (with_reducible refine (qlen _ w.heap.size Q (m' + 1) _ _ _ HQ.out).mono ?_); rintro e z ⟨rfl, rfl⟩)
              | (go_at_call 50; (with_reducible refine (pop_any w.heap.size Q m' _ _ F2 _ HQ.out HP.out (by omega)).mono ?_); rintro e z ⟨rfl, G4, hq, hp2, hc2, hf⟩; have HQ4 := Hk.mk hq; have HP4 := Hk.mk hp2; have HB4 := Hk.mk (HB.out.trans (HQ.out.bel hf)); clear hq hp2 hc2 hf))
            exact ⟨⟨j + 1, m', a2, c2, G4, by go_num, by omega, HQ4, HP4, HB4⟩, by simp [intOf]; omega⟩

theorem queueMixed_own : ownKnob Try.prog.godebug = none := by kernel_rfl
theorem queueMixed_laidOut : laidOutB Try.prog = true := by kernel_rfl
set_option maxRecDepth 100000 in
theorem queueMixed_lifted (os : Os) (started : os.Started) (H : Type) (enc : TypeId × Value → H) :
    ReturnsInHanded {} Try.checked os 13 .any (Rows.queueMixedSpec.pre6 enc Try.prog Try.f13 Rows.queueMixedRow.domain false) (Rows.queueMixedSpec.post enc Try.prog Try.f13 false true false false) := by
  refine returnsInHanded_of_change (C := Try.checked) queueMixed_own started (by kernel_rfl) Try.func13
    (ChangeSpec.witness6 (enc := enc) (C := Try.checked) false ⟨#[], #[.slice none 0 0], []⟩ 8 (by kernel_rfl) (by kernel_rfl) (by kernel_rfl) (by kernel_rfl)) ?_
  intro W base args ds gs before hval0 hW hcnd _
  have hval : ∀ (j : Nat) t v, Try.f13.params[j]? = some t → args[j]? = some v → Value.okWide Try.prog W .any base t v := hval0
  have hW' := hW
  obtain ⟨p, q, hA0, hV, rfl, hfz, hnd⟩ := hW
  have hA : DataW.TrodAll enc Try.prog W 0 (fun _ => true) true Try.f13.params.toList args.toList ds p := hA0
  rw [Try.params13] at hA hval
  obtain ⟨v0, vs0, d0, ds0, p0, q0, hargs, rfl, rfl, h0, r0⟩ := trodAll_cons hA
  obtain ⟨rfl, rfl, rfl⟩ := trodAll_nil r0
  obtain rfl : args = #[v0] := by cases args; simp_all
  obtain ⟨rfl, rfl⟩ := trodVars_none hV
  obtain ⟨a0, len0, cap0, rfl⟩ := okWide_slice Try.underlying71 (hval 0 71 v0 rfl rfl)
  have k0 := h0
  have lt0 : ∀ x ∈ p0, x.block < W.heap.size := by obtain ⟨m, hm⟩ := k0; exact DataW.trod_lt m _ _ _ hm
  have rows : Asks12 W a0 len0 cap0 := by obtain ⟨fuel, hf⟩ := h0; exact asks12_of hf
  clear hA0 hval0
  refine (queueMixed_walk a0 len0 cap0 W rows).mono fun e W' ⟨he, bel⟩ => ?_
  subst he
  exact ⟨_, rfl, _, _, _, [], _, [], hW', trodAll_mk1 (shut_bool Try.underlying4 _), (trodAll_cons_mk (Below.trod queueMixed_laidOut (by kernel_rfl) (of_decide_eq_true (by kernel_rfl)) k0 bel lt0) trodAll_mk0), rfl, bel.frame _, fun h => by cases h⟩
theorem queueMixed_over : Rows.queueMixedRow.holds Try.pinned (OpenSpec.ofChange Rows.queueMixedSpec) :=
  OpenClaim.holds_of_wide 13 Try.f13 rfl rfl rfl rfl rfl rfl rfl ⟨rfl, rfl, rfl, rfl, rfl⟩ rfl rfl rfl rfl rfl (by kernel_rfl) Try.func13 (by kernel_rfl)
    (of_decide_eq_true (by kernel_rfl)) (by unfold Func.isWrapper; first | (rw [if_pos (by decide +kernel)]; kernel_rfl) | (rw [if_neg (by decide +kernel)]; exact ⟨rfl, rfl⟩))
    (fun os started H enc _ => queueMixed_lifted os started H enc)
/-- The given statement of QueueMixed. -/
theorem queueMixed_holds : Rows.QueueMixedSaid := queueMixed_over
end Go.Proofs.Ytjjodfdmbiebnaa

