/- Layer 7: a map read by the reference. -/
import Derived.Test.YtmkehmeoglpkeaaMpi
import Derived.Test.YtmkehmeoglpkeaaBye
import Derived.Deep.RegionLaw
namespace Go.Proofs.Ytmkehmeoglpkeaa
open Go.RowKit
set_option linter.unusedVariables false
set_option maxRecDepth 100000 in
set_option maxHeartbeats 6400000 in
theorem rmparse_any (a : Option Addr) (n c : Nat) (xs : List Int) (w : World) (h : By w w.heap.size a n xs) (hnc : n ≤ c) (hcm : c ≤ 9223372036854775807) (hnm : n ≤ 1099511627776) (han : a = none → c = 0) :
    Calls Try.prog 18 #[.slice a n c] w (MapParse xs w) := by
  have HXB := Hk.mk h.byt
  have hlx := h.len
  have HLN := Hk.mk hlx
  have HWX : Hk (Below w.heap.size w ((w.alloc (.cells #[.int .i64 0, .int .i64 0, .slice none 0 0] 26)).alloc (.cells #[.int .u8 84, .int .u8 71] 5))) := ⟨((Below.refl _ _).alloc (Nat.le_refl _) (.cells #[.int .i64 0, .int .i64 0, .slice none 0 0] 26)).alloc (by simp) (.cells #[.int .u8 84, .int .u8 71] 5)⟩
  have HYX := Hk.mk (fun (X : World) (hX : Below w.heap.size w X) => (h.below hX (Nat.le_refl _) : By X w.heap.size a n xs))
  have HHD : Hk (∀ X, Below (w.heap.size + 2) ((w.alloc (.cells #[.int .i64 0, .int .i64 0, .slice none 0 0] 26)).alloc (.cells #[.int .u8 84, .int .u8 71] 5)) X → X.cell? ⟨w.heap.size + 1, 0, none⟩ = some (.int .u8 84) ∧ X.cell? ⟨w.heap.size + 1, 1, none⟩ = some (.int .u8 71)) :=
    ⟨fun X hX => ⟨(hX.cell (p := ⟨w.heap.size + 1, 0, none⟩) (by simp)).trans (by go_simp), (hX.cell (p := ⟨w.heap.size + 1, 1, none⟩) (by simp)).trans (by go_simp)⟩⟩
  have HCL : Hk (∀ X, Below (w.heap.size + 2) ((w.alloc (.cells #[.int .i64 0, .int .i64 0, .slice none 0 0] 26)).alloc (.cells #[.int .u8 84, .int .u8 71] 5)) X → X.cell? ⟨w.heap.size, 0, none⟩ = some (.int .i64 0) ∧ X.cell? ⟨w.heap.size, 1, none⟩ = some (.int .i64 0) ∧ X.cell? ⟨w.heap.size, 2, none⟩ = some (.slice none 0 0) ∧ X.frozen? ⟨w.heap.size, 0, none⟩ = false ∧ X.frozen? ⟨w.heap.size, 1, none⟩ = false ∧ X.frozen? ⟨w.heap.size, 2, none⟩ = false) :=
    ⟨fun X hX => ⟨(hX.cell (p := ⟨w.heap.size, 0, none⟩) (by simp)).trans (by go_simp), (hX.cell (p := ⟨w.heap.size, 1, none⟩) (by simp)).trans (by go_simp), (hX.cell (p := ⟨w.heap.size, 2, none⟩) (by simp)).trans (by go_simp), (hX.frozen (p := ⟨w.heap.size, 0, none⟩) (by simp)).trans (by go_simp), (hX.frozen (p := ⟨w.heap.size, 1, none⟩) (by simp)).trans (by go_simp), (hX.frozen (p := ⟨w.heap.size, 2, none⟩) (by simp)).trans (by go_simp)⟩⟩
  clear h
  go_enter Try.func18, Try.ntmps18
  go_wp2
  go_loopw [5] (fun i wr => ∃ (k : Nat), i = .int .i64 k ∧ k ≤ 2 ∧ k ≤ n ∧ Hk (signS xs (([84, 71] : List Int).take k) 0 0 = (k, 0)) ∧ Hk (Below (w.heap.size + 2) ((w.alloc (.cells #[.int .i64 0, .int .i64 0, .slice none 0 0] 26)).alloc (.cells #[.int .u8 84, .int .u8 71] 5)) wr)) (fun i _ => 2 - (intOf i).toNat)
  case atStart => exact ⟨0, rfl, by omega, by omega, ⟨rfl⟩, ⟨Below.refl _ _⟩⟩
  case round =>
    obtain ⟨k, rfl, hk, hkn, HS, HB⟩ := hrel
    obtain ⟨r0, r1, r2, f0, f1, f2⟩ := HCL.out _ HB.out
    by_cases hlt : k < 2
    · by_cases hcut : n ≤ k
      · have b1 : decide ((n : Int) ≤ (k : Int)) = true := by simp; omega
        have HM : Hk (mapS xs = (0, 0, [], 11)) := ⟨mapS_1 (signS_stop (L := [84, 71]) (e := 11) hlt HS.out rfl (by rw [byteS_cut (by omega)]) (by omega)) (by omega)⟩
        go_wp2
        refine bodyPost_ret (v := .tuple #[.agg #[.int .i64 0, .int .i64 0, .slice none 0 0], .int .i64 11]) (by simp [results, Try.results18, go_sem, r0, r1, r2]) rfl ⟨?_, 0, 0, [], 11, none, 0, 0, HM.out, rfl, OwnB.nil _ _⟩
        exact (((HWX.out.trans (HB.out.mono (by omega))).setCell (p := ⟨w.heap.size, 0, none⟩) (Nat.le_refl _) _).setCell (p := ⟨w.heap.size, 1, none⟩) (Nat.le_refl _) _).setCell (p := ⟨w.heap.size, 2, none⟩) (Nat.le_refl _) _
      · have b1 : decide ((n : Int) ≤ (k : Int)) = false := by simp; omega
        obtain ⟨b, off, rfl, hbl, hc⟩ := (HYX.out _ (HWX.out.trans (HB.out.mono (by omega)))).at_ (by omega)
        have hcx := hc k (by omega)
        obtain ⟨h0, h1⟩ := HHD.out _ HB.out
        have i1 : (0 : Int) ≤ (k : Int) := by omega
        have i2 : (k : Int) < (n : Int) := by omega
        have i3 : (k : Int) < 2 := by omega
        have hbl2 : b < wr.heap.size := World.block_lt_of_cell? _ _ hcx
        obtain ⟨x, hx⟩ : ∃ x, xs.getD k 0 = x := ⟨_, rfl⟩
        rw [hx] at hcx
        have HX := Hk.mk hx
        clear hc hx
        obtain ⟨y, hy, hyc⟩ : ∃ y, ([84, 71] : List Int).getD k 0 = y ∧ wr.cell? ⟨w.heap.size + 1, k, none⟩ = some (.int .u8 y) := by
          have : k = 0 ∨ k = 1 := by omega
          rcases this with rfl | rfl
          · exact ⟨84, rfl, h0⟩
          · exact ⟨71, rfl, h1⟩
        have HYE := Hk.mk hy
        clear hy h0 h1
        by_cases hxy : x = y
        · subst hxy
          have HS2 : Hk (signS xs (([84, 71] : List Int).take (k + 1)) 0 0 = (k + 1, 0)) := ⟨signS_go (L := [84, 71]) hlt HS.out HYE.out (by omega) HX.out⟩
          go_wp2
          go_quiet (fail)
          go_wp2
          go_roundw
          case rel => exact ⟨k + 1, by go_num, by omega, by omega, HS2, ⟨below_drewN HB.out _⟩⟩
          case measure => simp [intOf]; omega
        · have b2 : (x != y) = true := by simpa using hxy
          have HM : Hk (mapS xs = (0, 0, [], 1)) := ⟨mapS_1 (signS_stop (L := [84, 71]) (e := 1) hlt HS.out HYE.out (by rw [byteS_bad (by omega) (by have := HX.out; omega)]) (by omega)) (by omega)⟩
          clear hxy
          go_wp2
          go_quiet (fail)
          go_wp2
          refine bodyPost_ret (v := .tuple #[.agg #[.int .i64 0, .int .i64 0, .slice none 0 0], .int .i64 1]) (by simp [results, Try.results18, go_sem, r0, r1, r2]) rfl ⟨?_, 0, 0, [], 1, none, 0, 0, HM.out, rfl, OwnB.nil _ _⟩
          exact (((HWX.out.trans ((below_drewN HB.out _).mono (by omega))).setCell (p := ⟨w.heap.size, 0, none⟩) (Nat.le_refl _) _).setCell (p := ⟨w.heap.size, 1, none⟩) (Nat.le_refl _) _).setCell (p := ⟨w.heap.size, 2, none⟩) (Nat.le_refl _) _
    · have hk2 : k = 2 := by omega
      subst hk2
      obtain ⟨b, off, rfl, hbl, -⟩ := (HYX.out _ (HWX.out.trans (HB.out.mono (by omega)))).at_ (by omega)
      have HS1 : Hk (signS xs [84, 71] 0 0 = (2, 0)) := HS
      have hY := (HYX.out _ (HWX.out.trans (HB.out.mono (by omega)))).mono (show w.heap.size ≤ wr.heap.size by have h1 := HB.out.size; simp at h1; omega)
      have HYW := Hk.mk hY
      obtain ⟨W, K1, E1, hw1⟩ : ∃ W K1 E1, sideS (xs.drop 2) = (W, K1, E1) := ⟨_, _, _, rfl⟩
      have HSD1 := Hk.mk hw1
      obtain ⟨hr1, hW0, hW1, hK0, hK1⟩ := side_rd HXB.out hw1
      have HR1 := Hk.mk hr1
      have hK1' : K1 ≤ (n : Int) - 2 := by rw [List.length_drop, hlx] at hK1; omega
      by_cases q1 : c = 2
      · subst q1
        obtain rfl : n = 2 := by omega
        have hE1 : E1 = 11 := by
          rw [List.drop_of_length_le (by omega)] at hw1
          have h9 : sideS [] = (0, 0, 11) := rfl
          rw [h9] at hw1
          simp only [Prod.mk.injEq] at hw1
          omega
        subst hE1
        have HYS1 : Hk (By wr wr.heap.size (some ⟨b, off, none⟩) 0 (xs.drop 2)) := ⟨by rw [List.drop_of_length_le (by omega)]; exact By.nil _ _ _⟩
        have HM : Hk (mapS xs = (0, 0, [], 11)) := ⟨mapS_2 HS1.out hr1 (by omega)⟩
        clear hw1 hr1 hY hK1 hlx
        go_wp2_with (go_at_call 35; (with_reducible refine (rside_as W K1 11 _ 0 0 (xs.drop 2) _ HYS1.out (by omega) HSD1).mono ?_); rintro e w' ⟨rfl, rfl⟩)
        refine bodyPost_ret (v := .tuple #[.agg #[.int .i64 0, .int .i64 0, .slice none 0 0], .int .i64 11]) (by simp [results, Try.results18, go_sem, r0, r1, r2]) rfl ⟨?_, 0, 0, [], 11, none, 0, 0, HM.out, rfl, OwnB.nil _ _⟩
        exact (((HWX.out.trans (HB.out.mono (by omega))).setCell (p := ⟨w.heap.size, 0, none⟩) (Nat.le_refl _) _).setCell (p := ⟨w.heap.size, 1, none⟩) (Nat.le_refl _) _).setCell (p := ⟨w.heap.size, 2, none⟩) (Nat.le_refl _) _
      · have HYS1 : Hk (By wr wr.heap.size (some ⟨b, off + 2, none⟩) (n - 2) (xs.drop 2)) := ⟨hY.tail (by omega)⟩
        by_cases q2 : E1 = 0
        · subst q2
          obtain ⟨A2, hA2⟩ : ∃ A2 : Nat, 2 + K1.toNat = A2 := ⟨_, rfl⟩
          obtain ⟨K, rfl⟩ : ∃ K : Nat, K1 = K := ⟨K1.toNat, by omega⟩
          have HA2 : 2 + K = A2 := by simpa using hA2
          have HR1' : Hk (rdV false xs 1 128 2 0 = (W, A2, 0)) := ⟨by rw [← hA2]; exact hr1⟩
          obtain ⟨H, K2, E2, hw2⟩ : ∃ H K2 E2, sideS (xs.drop A2) = (H, K2, E2) := ⟨_, _, _, rfl⟩
          have HSD2 := Hk.mk hw2
          obtain ⟨hr2, hH0, hH1, hK20, hK21⟩ := side_rd HXB.out hw2
          have hK2' : K2 ≤ (n : Int) - A2 := by rw [List.length_drop, hlx] at hK21; omega
          have ha2 : (2 : Int) + (K : Int) = (A2 : Int) := by omega
          by_cases q3 : c = A2
          · subst q3
            obtain rfl : n = c := by omega
            have hE2 : E2 = 11 := by
              rw [List.drop_of_length_le (by omega)] at hw2
              have h9 : sideS [] = (0, 0, 11) := rfl
              rw [h9] at hw2
              simp only [Prod.mk.injEq] at hw2
              omega
            subst hE2
            have HYS2 : Hk (By wr wr.heap.size (some ⟨b, off, none⟩) 0 (xs.drop n)) := ⟨by rw [List.drop_of_length_le (by omega)]; exact By.nil _ _ _⟩
            have HM : Hk (mapS xs = (0, 0, [], 11)) := ⟨mapS_3 HS1.out HR1'.out hr2 (by omega)⟩
            clear hr1 hr2 hA2 hw1 hw2 hY hK1 hK21
            go_wp2_with (first | (go_at_call 35; (with_reducible refine (rside_as W (K : Int) 0 _ (n - 2) (n - 2) (xs.drop 2) _ HYS1.out (by omega) HSD1).mono ?_); rintro e w' ⟨rfl, rfl⟩) | (go_at_call 35; (with_reducible refine (rside_as H K2 11 _ 0 0 (xs.drop n) _ HYS2.out (by omega) HSD2).mono ?_); rintro e w' ⟨rfl, rfl⟩))
            refine bodyPost_ret (v := .tuple #[.agg #[.int .i64 0, .int .i64 0, .slice none 0 0], .int .i64 11]) (by simp [results, Try.results18, go_sem, r0, r1, r2]) rfl ⟨?_, 0, 0, [], 11, none, 0, 0, HM.out, rfl, OwnB.nil _ _⟩
            exact (((HWX.out.trans (HB.out.mono (by omega))).setCell (p := ⟨w.heap.size, 0, none⟩) (Nat.le_refl _) _).setCell (p := ⟨w.heap.size, 1, none⟩) (Nat.le_refl _) _).setCell (p := ⟨w.heap.size, 2, none⟩) (Nat.le_refl _) _
          · have HYS2 : Hk (By wr wr.heap.size (some ⟨b, off + A2, none⟩) (n - A2) (xs.drop A2)) := ⟨HYW.out.tail (by omega)⟩
            by_cases q4 : E2 = 0
            · subst q4
              obtain ⟨A3, hA3⟩ : ∃ A3 : Nat, A2 + K2.toNat = A3 := ⟨_, rfl⟩
              obtain ⟨L, rfl⟩ : ∃ L : Nat, K2 = L := ⟨K2.toNat, by omega⟩
              have hA3' : A2 + L = A3 := by simpa using hA3
              have HR2' : Hk (rdV false xs 1 128 A2 0 = (H, A3, 0)) := ⟨by rw [← hA3]; exact hr2⟩
              have hm0 : 0 ≤ W * H := Int.mul_nonneg hW0 hH0
              have hm1 : W * H ≤ 128 * 128 := Int.mul_le_mul hW1 hH1 hH0 (by omega)
              obtain ⟨N, hN⟩ : ∃ N : Nat, W * H = N := ⟨(W * H).toNat, by omega⟩
              have hN1 : N ≤ 16384 := by omega
              have HNN : Hk ((W * H).toNat = N) := ⟨by omega⟩
              have ha3 : (A2 : Int) + (L : Int) = (A3 : Int) := by omega
              have hA3n : A3 ≤ n := by omega
              clear hr1 hr2 hA2 hA3 hm0 hm1 hw1 hw2 hY hK1 hK21
              go_wp2_with (first | (go_at_call 35; (with_reducible refine (rside_as W (K : Int) 0 _ (n - 2) (c - 2) (xs.drop 2) _ HYS1.out (by omega) HSD1).mono ?_); rintro e w' ⟨rfl, rfl⟩) | (go_at_call 35; (with_reducible refine (rside_as H (L : Int) 0 _ (n - A2) (c - A2) (xs.drop A2) _ HYS2.out (by omega) HSD2).mono ?_); rintro e w' ⟨rfl, rfl⟩))
              clear HYS1 HYS2
              have hsz0 : w.heap.size + 2 ≤ wr.heap.size := by have h1 := HB.out.size; simp at h1; omega
              have HG0 : Hk ((wr.alloc (.cells #[.int .i64 W, .int .i64 H, .slice none 0 0] 26)).cell? ⟨wr.heap.size, 0, none⟩ = some (.int .i64 W) ∧ (wr.alloc (.cells #[.int .i64 W, .int .i64 H, .slice none 0 0] 26)).cell? ⟨wr.heap.size, 1, none⟩ = some (.int .i64 H) ∧ (wr.alloc (.cells #[.int .i64 W, .int .i64 H, .slice none 0 0] 26)).cell? ⟨wr.heap.size, 2, none⟩ = some (.slice none 0 0) ∧ (wr.alloc (.cells #[.int .i64 W, .int .i64 H, .slice none 0 0] 26)).frozen? ⟨wr.heap.size, 2, none⟩ = false) := ⟨by go_simp, by go_simp, by go_simp, by go_simp⟩
              have HBG : Hk (Below wr.heap.size wr (wr.alloc (.cells #[.int .i64 W, .int .i64 H, .slice none 0 0] 26))) := ⟨(Below.refl _ _).alloc (Nat.le_refl _) _⟩
              have HSG : Hk (wr.heap.size + 1 ≤ (wr.alloc (.cells #[.int .i64 W, .int .i64 H, .slice none 0 0] 26)).heap.size) := ⟨by simp⟩
              clear r0 r1 r2 f0 f1 f2
              generalize (wr.alloc (.cells #[.int .i64 W, .int .i64 H, .slice none 0 0] 26)) = wg at *
              obtain ⟨wo, rfl⟩ : ∃ wo : World, wo = wr := ⟨wr, rfl⟩
              go_loopw [9, 12] (fun q i wr => ∃ (k p : Nat) (ts : List Int) (v : Value), i = .int .i64 k ∧ q = .int .i64 p ∧ k ≤ N ∧ p ≤ n ∧ Hk (tileS xs k A3 0 = (ts, p, 0)) ∧ Hk (OwnB wr (wo.heap.size + 1) v k ts) ∧ Hk (wr.cell? ⟨wo.heap.size, 0, none⟩ = some (.int .i64 W) ∧ wr.cell? ⟨wo.heap.size, 1, none⟩ = some (.int .i64 H) ∧ wr.cell? ⟨wo.heap.size, 2, none⟩ = some v ∧ wr.frozen? ⟨wo.heap.size, 2, none⟩ = false) ∧ Hk (Below wo.heap.size wo wr) ∧ Hk (wo.heap.size + 1 ≤ wr.heap.size)) (fun _ i _ => N - (intOf i).toNat)
              case atStart => exact ⟨0, A3, [], .slice none 0 0, rfl, rfl, by omega, hA3n, ⟨rfl⟩, ⟨OwnB.nil _ _⟩, HG0, HBG, HSG⟩
              case round =>
                clear HG0 HBG HSG
                obtain ⟨k, p, ts, v, rfl, rfl, hk, hp, HT, HO, HG, HBL, HSL⟩ := hrel
                have HBX : Hk (Below (w.heap.size + 2) ((w.alloc (.cells #[.int .i64 0, .int .i64 0, .slice none 0 0] 26)).alloc (.cells #[.int .u8 84, .int .u8 71] 5)) wr) := ⟨HB.out.trans (HBL.out.mono hsz0)⟩
                obtain ⟨r0, r1, r2, f0, f1, f2⟩ := HCL.out _ HBX.out
                obtain ⟨g0, g1, g2, fg⟩ := HG.out
                by_cases hlt : k < N
                · by_cases hcut : n ≤ p
                  · have b1 : decide ((n : Int) ≤ (p : Int)) = true := by simp; omega
                    have HM : Hk (mapS xs = (0, 0, [], 11)) := ⟨mapS_4 HS1.out HR1'.out HR2'.out HNN.out (tileS_stop (e := 11) hlt HT.out (by rw [byteS_cut (by omega)]) (by omega)) (by omega)⟩
                    go_wp2
                    refine bodyPost_ret (v := .tuple #[.agg #[.int .i64 0, .int .i64 0, .slice none 0 0], .int .i64 11]) (by simp [results, Try.results18, go_sem, r0, r1, r2]) rfl ⟨?_, 0, 0, [], 11, none, 0, 0, HM.out, rfl, OwnB.nil _ _⟩
                    exact (((HWX.out.trans (HBX.out.mono (by omega))).setCell (p := ⟨w.heap.size, 0, none⟩) (Nat.le_refl _) _).setCell (p := ⟨w.heap.size, 1, none⟩) (Nat.le_refl _) _).setCell (p := ⟨w.heap.size, 2, none⟩) (Nat.le_refl _) _
                  · have b1 : decide ((n : Int) ≤ (p : Int)) = false := by simp; omega
                    obtain ⟨b', off', eb, hbl', hc⟩ := (HYX.out _ (HWX.out.trans (HBX.out.mono (by omega)))).at_ (by omega)
                    injection eb with eb
                    injection eb with eb1 eb2
                    subst eb1 eb2
                    have hcx := hc p (by omega)
                    have hxb := HXB.out (xs.getD p 0) (getD_mem (by omega))
                    unfold Fn.Byt at hxb
                    have i1 : (0 : Int) ≤ (p : Int) := by omega
                    have i2 : (p : Int) < (n : Int) := by omega
                    obtain ⟨x, hx⟩ : ∃ x, xs.getD p 0 = x := ⟨_, rfl⟩
                    rw [hx] at hcx hxb
                    have HX := Hk.mk hx
                    clear hc hx
                    by_cases h5 : 5 < x
                    · have b2 : decide (5 < x) = true := by simp; omega
                      have HM : Hk (mapS xs = (0, 0, [], 1)) := ⟨mapS_4 HS1.out HR1'.out HR2'.out HNN.out (tileS_stop (e := 1) hlt HT.out (by rw [byteS_bad (by omega) (by have := HX.out; omega)]) (by omega)) (by omega)⟩
                      go_wp2
                      refine bodyPost_ret (v := .tuple #[.agg #[.int .i64 0, .int .i64 0, .slice none 0 0], .int .i64 1]) (by simp [results, Try.results18, go_sem, r0, r1, r2]) rfl ⟨?_, 0, 0, [], 1, none, 0, 0, HM.out, rfl, OwnB.nil _ _⟩
                      exact (((HWX.out.trans (HBX.out.mono (by omega))).setCell (p := ⟨w.heap.size, 0, none⟩) (Nat.le_refl _) _).setCell (p := ⟨w.heap.size, 1, none⟩) (Nat.le_refl _) _).setCell (p := ⟨w.heap.size, 2, none⟩) (Nat.le_refl _) _
                    · have b2 : decide (5 < x) = false := by simp; omega
                      have HT2 : Hk (tileS xs (k + 1) A3 0 = (ts ++ [x], p + 1, 0)) := ⟨tileS_go HT.out (by omega) HX.out (by omega) (by omega)⟩
                      have hwl : wo.heap.size < wr.heap.size := HSL.out
                      go_wp2
                      have hne : ∀ g, v.ownBlock = some g → ¬ wo.heap.size = g := fun g hg => by have h1 := (HO.out.lt g hg).1; omega
                      have HNE := Hk.mk hne
                      clear hne
                      go_region_law ((refine step_append_by _ (by rfl) (.tmp 85) (.tmp 90) (by rfl) (wo.heap.size + 1) v k ts (by rfl) (HO.out.drew.below ((Below.refl _ _).alloc (Nat.le_refl _) (.cells #[.int .u8 x] 5))) (wr.heap.size + 1) (some ⟨wr.heap.size, 0, none⟩) 1 1 [x] (by rfl) (byt_one wr.drew x _ _ (by unfold Fn.Byt; omega)) (fun e0 => by cases e0) (by omega) (by simp; omega) ?_; intro v7 w7 ho7 hg7; obtain ⟨a7, c7, rfl, -, -, -⟩ := ho7.by_; have HO7 := Hk.mk ho7; have hb7 : ∀ o, w7.cell? ⟨wo.heap.size, o, none⟩ = wr.cell? ⟨wo.heap.size, o, none⟩ := (fun o => (World.cell?_of_block (hg7.block wo.heap.size (by simp; omega) (fun e => HNE.out _ e.symm rfl))).trans (by go_simp)); have hz7 : ∀ o, w7.frozen? ⟨wo.heap.size, o, none⟩ = wr.frozen? ⟨wo.heap.size, o, none⟩ := (fun o => (World.frozen?_of_block (hg7.block wo.heap.size (by simp; omega) (fun e => HNE.out _ e.symm rfl))).trans (by go_simp)); have d0 := (hb7 0).trans g0; have d1 := (hb7 1).trans g1; have d2 := (hb7 2).trans g2; have df := (hz7 2).trans fg; have HB7 : Hk (Below wo.heap.size wo w7) := ⟨((HBL.out.drew).alloc (by simp; omega) (.cells #[.int .u8 x] 5)).grown hg7 (by simp; omega) (fun g hg => by have h1 := (HO.out.lt g hg).1; omega)⟩; have hs7 : wr.heap.size + 1 ≤ w7.heap.size := (by have h1 := hg7.size; simpa using h1); clear hb7 hz7 hg7 ho7))
                      all_goals
                        go_wp2
                        go_roundw
                        case rel => exact ⟨k + 1, p + 1, ts ++ [x], .slice a7 (k + 1) c7, by go_num, by go_num, by omega, by omega, HT2, ⟨Fr.own (M := fun j => j = wo.heap.size) HO7.out ((Fr.refl (fun j => j = wo.heap.size) w7).setCell (p := ⟨wo.heap.size, 2, none⟩) (fun _ => rfl) _) (fun j hj h => by have h1 := (HO7.out.lt j hj).1; omega)⟩, ⟨by go_simp, by go_simp, World.cell?_setCell_same' _ _ _ (by rw [d2]; rfl), by go_simp⟩, ⟨HB7.out.setCell (p := ⟨wo.heap.size, 2, none⟩) (Nat.le_refl _) _⟩, ⟨by simp; omega⟩⟩
                        case measure => simp [intOf]; omega
                · have hkN : k = N := by omega
                  subst hkN
                  obtain ⟨s, hs⟩ : ∃ s, Mp.hash (xs.take p) = s := ⟨_, rfl⟩
                  have HS := Hk.mk hs
                  have HU : Hk (Fn.U64 s) := ⟨by rw [← hs]; exact Mp.hash_u64 _⟩
                  have HHS : Hk (∀ r, signS xs (Mp.eight s) p 0 = r → hashS xs p 0 = r) := ⟨fun r hr => by unfold hashS; rw [if_neg (by omega), hs]; exact hr⟩
                  have hYr : By wr wr.heap.size (some ⟨b, off, none⟩) n xs := (HYX.out _ (HWX.out.trans (HBX.out.mono (by omega)))).mono (by have := HSL.out; omega)
                  have HYP := Hk.mk (hYr.head hp)
                  have j0 : (0 : Int) ≤ (p : Int) := by omega
                  have j1 : (p : Int) ≤ (c : Int) := by omega
                  have j2 : (p : Int) ≤ (n : Int) := by omega
                  clear hs hYr r0 r1 r2 f0 f1 f2 g0 g1 g2 fg
                  go_wp2_with (first | (go_at_call 27; (with_reducible refine (rhash_any (some ⟨b, off, none⟩) p c (xs.take p) _ HYP.out (by omega)).mono ?_); rw [HS.out]; rintro e w' ⟨rfl, rfl⟩) | (go_at_call 26; (with_reducible refine (reight_any s _ HU).mono ?_); rintro e w8 ⟨v8, rfl, ho8, hb8⟩; obtain ⟨a8, c8, rfl, -, hy8, -⟩ := ho8.by_; obtain ⟨b8, o8, rfl, hbl8, hc8⟩ := hy8.at_ (by omega); have HC8 := Hk.mk hc8; have HB8 := Hk.mk hb8; have hbl8' := hbl8; clear ho8 hb8 hy8 hc8))
                  have HBX8 : Hk (Below (w.heap.size + 2) ((w.alloc (.cells #[.int .i64 0, .int .i64 0, .slice none 0 0] 26)).alloc (.cells #[.int .u8 84, .int .u8 71] 5)) w8) := ⟨HBX.out.trans (HB8.out.mono (by have := HSL.out; omega))⟩
                  have hgl : wo.heap.size < wr.heap.size := HSL.out
                  have HG8 : Hk (w8.cell? ⟨wo.heap.size, 0, none⟩ = some (.int .i64 W) ∧ w8.cell? ⟨wo.heap.size, 1, none⟩ = some (.int .i64 H) ∧ w8.cell? ⟨wo.heap.size, 2, none⟩ = some v) := ⟨(HB8.out.cell (p := ⟨wo.heap.size, 0, none⟩) hgl).trans HG.out.1, (HB8.out.cell (p := ⟨wo.heap.size, 1, none⟩) hgl).trans HG.out.2.1, (HB8.out.cell (p := ⟨wo.heap.size, 2, none⟩) hgl).trans HG.out.2.2.1⟩
                  have HO8 : Hk (OwnB w8 (wo.heap.size + 1) v k ts) := ⟨HO.out.below HB8.out⟩
                  clear HYP HB8 HBX HG HO HBL hgl
                  go_loopw [9, 14] (fun q i wl => ∃ (k2 p2 : Nat), i = .int .i64 k2 ∧ q = .int .i64 p2 ∧ k2 ≤ 8 ∧ p2 ≤ n ∧ Hk (signS xs ((Mp.eight s).take k2) p 0 = (p2, 0)) ∧ Hk (∃ m, wl = w8.drewN m)) (fun _ i _ => 8 - (intOf i).toNat)
                  case atStart => exact ⟨0, p, rfl, rfl, by omega, hp, ⟨by simp [signS]⟩, ⟨0, rfl⟩⟩
                  case round =>
                    obtain ⟨k2, p2, rfl, rfl, hk2, hp2, HSG, HDR⟩ := hrel
                    have HBXr : Hk (Below (w.heap.size + 2) ((w.alloc (.cells #[.int .i64 0, .int .i64 0, .slice none 0 0] 26)).alloc (.cells #[.int .u8 84, .int .u8 71] 5)) wr) := ⟨by obtain ⟨m, hm⟩ := HDR.out; rw [hm]; exact below_drewN HBX8.out m⟩
                    obtain ⟨r0, r1, r2, f0, f1, f2⟩ := HCL.out _ HBXr.out
                    by_cases hlt8 : k2 < 8
                    · by_cases hcut : n ≤ p2
                      · have b1 : decide ((n : Int) ≤ (p2 : Int)) = true := by simp; omega
                        have HM : Hk (mapS xs = (0, 0, [], 11)) := ⟨mapS_5 HS1.out HR1'.out HR2'.out HNN.out (by rw [HT.out]) (HHS.out _ (signS_stop (e := 11) (by rw [Mp.eight_len]; exact hlt8) HSG.out rfl (by rw [byteS_cut (by omega)]) (by omega))) (by omega)⟩
                        go_wp2
                        refine bodyPost_ret (v := .tuple #[.agg #[.int .i64 0, .int .i64 0, .slice none 0 0], .int .i64 11]) (by simp [results, Try.results18, go_sem, r0, r1, r2]) rfl ⟨?_, 0, 0, [], 11, none, 0, 0, HM.out, rfl, OwnB.nil _ _⟩
                        exact (((HWX.out.trans (HBXr.out.mono (by omega))).setCell (p := ⟨w.heap.size, 0, none⟩) (Nat.le_refl _) _).setCell (p := ⟨w.heap.size, 1, none⟩) (Nat.le_refl _) _).setCell (p := ⟨w.heap.size, 2, none⟩) (Nat.le_refl _) _
                      · have b1 : decide ((n : Int) ≤ (p2 : Int)) = false := by simp; omega
                        obtain ⟨b', off', eb, hbl', hc⟩ := (HYX.out _ (HWX.out.trans (HBXr.out.mono (by omega)))).at_ (by omega)
                        injection eb with eb
                        injection eb with eb1 eb2
                        subst eb1 eb2
                        have hcx := hc p2 (by omega)
                        have hcy : wr.cell? ⟨b8, o8 + k2, none⟩ = some (.int .u8 ((Mp.eight s).getD k2 0)) := by obtain ⟨m, hm⟩ := HDR.out; rw [hm]; exact HC8.out k2 hlt8
                        have i1 : (0 : Int) ≤ (p2 : Int) := by omega
                        have i2 : (p2 : Int) < (n : Int) := by omega
                        have i3 : (0 : Int) ≤ (k2 : Int) := by omega
                        have i4 : (k2 : Int) < 8 := by omega
                        obtain ⟨x, hx⟩ : ∃ x, xs.getD p2 0 = x := ⟨_, rfl⟩
                        obtain ⟨y, hy⟩ : ∃ y, (Mp.eight s).getD k2 0 = y := ⟨_, rfl⟩
                        rw [hx] at hcx
                        rw [hy] at hcy
                        have HX := Hk.mk hx
                        have HYE := Hk.mk hy
                        clear hc hx hy
                        by_cases hxy : x = y
                        · subst hxy
                          have HS2 : Hk (signS xs ((Mp.eight s).take (k2 + 1)) p 0 = (p2 + 1, 0)) := ⟨signS_go (by rw [Mp.eight_len]; exact hlt8) HSG.out HYE.out (by omega) HX.out⟩
                          go_wp2
                          go_quiet (fail)
                          go_wp2
                          go_roundw
                          case rel => exact ⟨k2 + 1, p2 + 1, by go_num, by go_num, by omega, by omega, HS2, ⟨by obtain ⟨m, hm⟩ := HDR.out; rw [hm]; exact ⟨_, by rw [World.drewN_drewN]⟩⟩⟩
                          case measure => simp [intOf]; omega
                        · have b2 : (x != y) = true := by simpa using hxy
                          have HM : Hk (mapS xs = (0, 0, [], 1)) := ⟨mapS_5 HS1.out HR1'.out HR2'.out HNN.out (by rw [HT.out]) (HHS.out _ (signS_stop (e := 1) (by rw [Mp.eight_len]; exact hlt8) HSG.out HYE.out (by rw [byteS_bad (by omega) (by have := HX.out; omega)]) (by omega))) (by omega)⟩
                          clear hxy
                          go_wp2
                          go_quiet (fail)
                          go_wp2
                          refine bodyPost_ret (v := .tuple #[.agg #[.int .i64 0, .int .i64 0, .slice none 0 0], .int .i64 1]) (by simp [results, Try.results18, go_sem, r0, r1, r2]) rfl ⟨?_, 0, 0, [], 1, none, 0, 0, HM.out, rfl, OwnB.nil _ _⟩
                          exact (((HWX.out.trans ((below_drewN HBXr.out _).mono (by omega))).setCell (p := ⟨w.heap.size, 0, none⟩) (Nat.le_refl _) _).setCell (p := ⟨w.heap.size, 1, none⟩) (Nat.le_refl _) _).setCell (p := ⟨w.heap.size, 2, none⟩) (Nat.le_refl _) _
                    · have hk8 : k2 = 8 := by omega
                      subst hk8
                      have HSF : Hk (hashS xs p 0 = (p2, 0)) := ⟨HHS.out _ (by have h1 := HSG.out; rwa [List.take_of_length_le (by rw [Mp.eight_len]; omega)] at h1)⟩
                      by_cases hend : p2 = n
                      · subst hend
                        have HM : Hk (mapS xs = (W, H, ts, 0)) := ⟨by rw [mapS_6 HS1.out HR1'.out HR2'.out HNN.out HT.out HSF.out, if_neg (by omega)]⟩
                        obtain ⟨g0, g1, g2⟩ : wr.cell? ⟨wo.heap.size, 0, none⟩ = some (.int .i64 W) ∧ wr.cell? ⟨wo.heap.size, 1, none⟩ = some (.int .i64 H) ∧ wr.cell? ⟨wo.heap.size, 2, none⟩ = some v := by obtain ⟨m, hm⟩ := HDR.out; rw [hm]; exact HG8.out
                        have HOr : Hk (OwnB wr (wo.heap.size + 1) v k ts) := ⟨by obtain ⟨m, hm⟩ := HDR.out; rw [hm]; exact HO8.out.drewN m⟩
                        obtain ⟨av, cv, rfl, -, -, -⟩ := HOr.out.by_
                        go_wp2
                        refine bodyPost_ret (v := .tuple #[.agg #[.int .i64 W, .int .i64 H, .slice av k cv], .int .i64 0]) (by simp [results, Try.results18, go_sem, r0, r1, r2]) rfl ⟨?_, W, H, ts, 0, av, k, cv, HM.out, rfl, ?_⟩
                        · exact (((HWX.out.trans (HBXr.out.mono (by omega))).setCell (p := ⟨w.heap.size, 0, none⟩) (Nat.le_refl _) _).setCell (p := ⟨w.heap.size, 1, none⟩) (Nat.le_refl _) _).setCell (p := ⟨w.heap.size, 2, none⟩) (Nat.le_refl _) _
                        · refine OwnB.weak (base := wo.heap.size + 1) ?_ (by omega)
                          exact Fr.own (M := fun j => j = w.heap.size) HOr.out ((((Fr.refl (fun j => j = w.heap.size) wr).setCell (p := ⟨w.heap.size, 0, none⟩) (fun _ => rfl) _).setCell (p := ⟨w.heap.size, 1, none⟩) (fun _ => rfl) _).setCell (p := ⟨w.heap.size, 2, none⟩) (fun _ => rfl) _) (fun j hj h => by have h1 := (HOr.out.lt j hj).1; omega)
                      · have b5 : ((p2 : Int) != (n : Int)) = true := by simp; omega
                        have HM : Hk (mapS xs = (0, 0, [], 1)) := ⟨by rw [mapS_6 HS1.out HR1'.out HR2'.out HNN.out HT.out HSF.out, if_pos (by omega)]⟩
                        go_wp2
                        refine bodyPost_ret (v := .tuple #[.agg #[.int .i64 0, .int .i64 0, .slice none 0 0], .int .i64 1]) (by simp [results, Try.results18, go_sem, r0, r1, r2]) rfl ⟨?_, 0, 0, [], 1, none, 0, 0, HM.out, rfl, OwnB.nil _ _⟩
                        exact (((HWX.out.trans (HBXr.out.mono (by omega))).setCell (p := ⟨w.heap.size, 0, none⟩) (Nat.le_refl _) _).setCell (p := ⟨w.heap.size, 1, none⟩) (Nat.le_refl _) _).setCell (p := ⟨w.heap.size, 2, none⟩) (Nat.le_refl _) _
            · have b4 : (E2 != 0) = true := by simpa using q4
              have HM : Hk (mapS xs = (0, 0, [], E2)) := ⟨mapS_3 HS1.out HR1'.out hr2 q4⟩
              clear hr1 hr2 hA2 q4 hw1 hw2 hY hK1 hK21
              go_wp2_with (first | (go_at_call 35; (with_reducible refine (rside_as W (K : Int) 0 _ (n - 2) (c - 2) (xs.drop 2) _ HYS1.out (by omega) HSD1).mono ?_); rintro e w' ⟨rfl, rfl⟩) | (go_at_call 35; (with_reducible refine (rside_as H K2 E2 _ (n - A2) (c - A2) (xs.drop A2) _ HYS2.out (by omega) HSD2).mono ?_); rintro e w' ⟨rfl, rfl⟩))
              refine bodyPost_ret (v := .tuple #[.agg #[.int .i64 0, .int .i64 0, .slice none 0 0], .int .i64 E2]) (by simp [results, Try.results18, go_sem, r0, r1, r2]) rfl ⟨?_, 0, 0, [], E2, none, 0, 0, HM.out, rfl, OwnB.nil _ _⟩
              exact (((HWX.out.trans (HB.out.mono (by omega))).setCell (p := ⟨w.heap.size, 0, none⟩) (Nat.le_refl _) _).setCell (p := ⟨w.heap.size, 1, none⟩) (Nat.le_refl _) _).setCell (p := ⟨w.heap.size, 2, none⟩) (Nat.le_refl _) _
        · have b3 : (E1 != 0) = true := by simpa using q2
          have HM : Hk (mapS xs = (0, 0, [], E1)) := ⟨mapS_2 HS1.out hr1 q2⟩
          clear hw1 hr1 hY hK1 q2
          go_wp2_with (go_at_call 35; (with_reducible refine (rside_as W K1 E1 _ (n - 2) (c - 2) (xs.drop 2) _ HYS1.out (by omega) HSD1).mono ?_); rintro e w' ⟨rfl, rfl⟩)
          refine bodyPost_ret (v := .tuple #[.agg #[.int .i64 0, .int .i64 0, .slice none 0 0], .int .i64 E1]) (by simp [results, Try.results18, go_sem, r0, r1, r2]) rfl ⟨?_, 0, 0, [], E1, none, 0, 0, HM.out, rfl, OwnB.nil _ _⟩
          exact (((HWX.out.trans (HB.out.mono (by omega))).setCell (p := ⟨w.heap.size, 0, none⟩) (Nat.le_refl _) _).setCell (p := ⟨w.heap.size, 1, none⟩) (Nat.le_refl _) _).setCell (p := ⟨w.heap.size, 2, none⟩) (Nat.le_refl _) _
end Go.Proofs.Ytmkehmeoglpkeaa
