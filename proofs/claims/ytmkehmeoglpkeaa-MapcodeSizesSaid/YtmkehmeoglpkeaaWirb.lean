/- Layer 4: numbers read. -/
import Derived.Test.YtmkehmeoglpkeaaWira
namespace Go.Proofs.Ytmkehmeoglpkeaa
open Go.RowKit
set_option linter.unusedVariables false
set_option maxRecDepth 100000 in
theorem getnum_any (a : Option Addr) (n c : Nat) (xs : List Int) (w : World) (h : By w w.heap.size a n xs) (hn : n ≤ 1099511627776) :
    Calls Try.prog 39 #[.slice a n c] w fun e w' => e = .returned (.tuple #[.int .i64 (Wr.getS xs).1, .int .i64 (Wr.getS xs).2.1, .int .i64 (Wr.getS xs).2.2]) ∧ w = w' := by
  have H := Hk.mk h
  clear h
  obtain ⟨R, hR⟩ : ∃ R, Wr.getS xs = R := ⟨_, rfl⟩
  rw [hR]
  have HR := Hk.mk hR
  clear hR
  go_enter Try.func39, Try.ntmps39
  go_wp2
  go_loop [2, 9] (fun v i => ∃ (k : Nat) (acc : Int), k ≤ n ∧ k ≤ 9 ∧ i = .int .i64 k ∧ v = .int .i64 acc ∧ Hk (Wr.GetAt xs k acc)) (fun _ i => n - (intOf i).toNat)
  case atStart => exact ⟨0, 0, Nat.zero_le _, Nat.zero_le _, rfl, rfl, ⟨Wr.getAt_start xs⟩⟩
  case round =>
    obtain ⟨k, acc, hk, hk9, rfl, rfl, HG⟩ := hrel
    by_cases h1 : k < n
    · obtain ⟨b, off, rfl, hbl, hc⟩ := H.out.at_ (by omega)
      have hcx := hc k h1
      have hb := H.out.bd h1
      obtain ⟨x, hx⟩ : ∃ x, xs.getD k 0 = x := ⟨_, rfl⟩
      have HX := Hk.mk hx
      rw [hx] at hcx hb
      obtain ⟨hx0, hx1⟩ := hb
      clear hc hx
      have hl := H.out.len
      have HL := Hk.mk hl
      clear hl
      by_cases h2 : k < 9
      · have k9 : ((k : Int) == 9) = false := by simp; omega
        have k91 : (k : Int) < 9 := by omega
        have hor := Wr.getAt_or HG.out h2
        rw [HX.out] at hor
        obtain ⟨D, hD⟩ : ∃ D, x % 128 = D := ⟨_, rfl⟩
        have hand : bits BinOp.and IntKind.u8 x 127 = D := by
          rw [u8_and x 127 (by omega) (by omega) (by omega) (by omega), show (127 : Int).toNat = 127 by decide, nat_mask7]; omega
        rw [hD] at hor
        obtain ⟨P, hP⟩ : ∃ P, D * 2 ^ (7 * k) = P := ⟨_, rfl⟩
        rw [hP] at hor
        obtain ⟨ho, hP0, hA1, hP1, hA0⟩ := hor
        obtain ⟨A2, hA2⟩ : ∃ A2, acc + P = A2 := ⟨_, rfl⟩
        rw [hA2] at ho hA1 hA0
        have hD0 : 0 ≤ D := by omega
        have hD1 : D ≤ 127 := by omega
        have HA := Hk.mk (show acc + xs.getD k 0 % 128 * 2 ^ (7 * k) = A2 by rw [HX.out, hD, hP, hA2])
        by_cases h3 : 128 ≤ x
        · have g1 : decide (x < 128) = false := by simp; omega
          have g2 : decide (128 ≤ x) = true := by simp; omega
          clear hA2 hD
          go_wp2
          go_round
          case rel => exact ⟨k + 1, A2, by omega, by omega, by go_num, rfl, ⟨by rw [← HA.out]; exact Wr.getAt_next HG.out h2 (by rw [HL.out]; exact h1) (by rw [HX.out]; exact h3)⟩⟩
          case measure => simp [intOf]; omega
        · have g1 : decide (x < 128) = true := by simp; omega
          have g2 : decide (128 ≤ x) = false := by simp; omega
          by_cases h4 : x = 0 ∧ 0 < k
          · have HS := Wr.getAt_form HG.out h2 (by rw [HL.out]; exact h1) (by rw [HX.out]; exact h4.1) h4.2
            rw [HR.out] at HS
            replace HS := Hk.mk HS
            obtain ⟨h41, h42⟩ := h4
            subst h41
            have g4 : decide ((0 : Int) < (k : Int)) = true := by simp; omega
            clear hA2 hD HR
            go_wp2
            all_goals (go_ret3; exact ⟨by rw [HS.out]; rfl, rfl⟩)
          · have HS := Wr.getAt_done HG.out h2 (by rw [HL.out]; exact h1) (by rw [HX.out]; omega) (by rw [HX.out]; exact h4)
            rw [HR.out, HA.out] at HS
            replace HS := Hk.mk HS
            have j1 : (k : Int) + 1 ≤ 9 := by omega
            clear hA2 hD HR
            by_cases h5 : x = 0
            · have g5 : (x == 0) = true := by simpa using h5
              have g6 : decide (0 < k) = false := by simp; omega
              clear h4 h5
              go_wp2
              all_goals (go_ret3; exact ⟨by rw [HS.out]; rfl, rfl⟩)
            · have g5 : (x == 0) = false := by simpa using h5
              clear h4
              go_wp2
              all_goals (go_ret3; exact ⟨by rw [HS.out]; rfl, rfl⟩)
      · obtain rfl : k = 9 := by omega
        have HS := Wr.getAt_end HG.out (.inl rfl)
        rw [if_pos (by rw [HL.out]; omega), HR.out] at HS
        replace HS := Hk.mk HS
        have g3 : decide ((9 : Int) ≤ (n : Int)) = true := by simp; omega
        clear HR
        go_wp2
        all_goals (go_ret3; exact ⟨by rw [HS.out]; rfl, rfl⟩)
    · obtain rfl : k = n := by omega
      have HS := Wr.getAt_end HG.out (.inr H.out.len.symm)
      rw [H.out.len, HR.out] at HS
      replace HS := Hk.mk HS
      clear HR
      by_cases h9 : 9 ≤ k
      · obtain rfl : k = 9 := by omega
        go_wp2
        all_goals (go_ret3; exact ⟨by rw [HS.out]; rfl, rfl⟩)
      · have g3 : decide ((9 : Int) ≤ (k : Int)) = false := by simp; omega
        replace HS := Hk.mk (HS.out.trans (by rw [if_neg h9]))
        go_wp2
        all_goals (go_ret3; exact ⟨by rw [HS.out]; rfl, rfl⟩)
set_option maxRecDepth 100000 in
theorem rgetnum_any (a : Option Addr) (n c : Nat) (xs : List Int) (w : World) (h : By w w.heap.size a n xs) (hn : n ≤ 1099511627776) :
    Calls Try.prog 44 #[.slice a n c] w fun e w' => e = .returned (.tuple #[.int .i64 (Wr.getS xs).1, .int .i64 (Wr.getS xs).2.1, .int .i64 (Wr.getS xs).2.2]) ∧ w = w' := by
  have H := Hk.mk h
  clear h
  obtain ⟨R, hR⟩ : ∃ R, Wr.getS xs = R := ⟨_, rfl⟩
  rw [hR]
  have HR := Hk.mk hR
  clear hR
  go_enter Try.func44, Try.ntmps44
  go_wp2
  go_loop [5, 6] (fun v i => ∃ (k : Nat) (acc : Int), k ≤ n ∧ k ≤ 9 ∧ i = .int .i64 k ∧ v = .int .i64 acc ∧ Hk (Wr.GetAt xs k acc)) (fun _ i => n - (intOf i).toNat)
  case atStart => exact ⟨0, 0, Nat.zero_le _, Nat.zero_le _, rfl, rfl, ⟨Wr.getAt_start xs⟩⟩
  case round =>
    obtain ⟨k, acc, hk, hk9, rfl, rfl, HG⟩ := hrel
    by_cases h1 : k < n
    · obtain ⟨b, off, rfl, hbl, hc⟩ := H.out.at_ (by omega)
      have hcx := hc k h1
      have hb := H.out.bd h1
      obtain ⟨x, hx⟩ : ∃ x, xs.getD k 0 = x := ⟨_, rfl⟩
      have HX := Hk.mk hx
      rw [hx] at hcx hb
      obtain ⟨hx0, hx1⟩ := hb
      clear hc hx
      have hl := H.out.len
      have HL := Hk.mk hl
      clear hl
      by_cases h2 : k < 9
      · have k9 : ((k : Int) == 9) = false := by simp; omega
        have k91 : (k : Int) < 9 := by omega
        have hor := Wr.getAt_or HG.out h2
        rw [HX.out] at hor
        obtain ⟨D, hD⟩ : ∃ D, x % 128 = D := ⟨_, rfl⟩
        have hand : bits BinOp.and IntKind.u8 x 127 = D := by
          rw [u8_and x 127 (by omega) (by omega) (by omega) (by omega), show (127 : Int).toNat = 127 by decide, nat_mask7]; omega
        rw [hD] at hor
        obtain ⟨P, hP⟩ : ∃ P, D * 2 ^ (7 * k) = P := ⟨_, rfl⟩
        rw [hP] at hor
        obtain ⟨ho, hP0, hA1, hP1, hA0⟩ := hor
        obtain ⟨A2, hA2⟩ : ∃ A2, acc + P = A2 := ⟨_, rfl⟩
        rw [hA2] at ho hA1 hA0
        have hD0 : 0 ≤ D := by omega
        have hD1 : D ≤ 127 := by omega
        have HA := Hk.mk (show acc + xs.getD k 0 % 128 * 2 ^ (7 * k) = A2 by rw [HX.out, hD, hP, hA2])
        by_cases h3 : 128 ≤ x
        · have g1 : decide (x < 128) = false := by simp; omega
          have g2 : decide (128 ≤ x) = true := by simp; omega
          clear hA2 hand
          go_wp2
          go_round
          case rel => exact ⟨k + 1, A2, by omega, by omega, by go_num, rfl, ⟨by rw [← HA.out]; exact Wr.getAt_next HG.out h2 (by rw [HL.out]; exact h1) (by rw [HX.out]; exact h3)⟩⟩
          case measure => simp [intOf]; omega
        · have g1 : decide (x < 128) = true := by simp; omega
          have g2 : decide (128 ≤ x) = false := by simp; omega
          by_cases h4 : x = 0 ∧ 0 < k
          · have HS := Wr.getAt_form HG.out h2 (by rw [HL.out]; exact h1) (by rw [HX.out]; exact h4.1) h4.2
            rw [HR.out] at HS
            replace HS := Hk.mk HS
            obtain ⟨h41, h42⟩ := h4
            subst h41
            have g4 : decide ((0 : Int) < (k : Int)) = true := by simp; omega
            clear hA2 hand HR
            go_wp2
            all_goals (go_ret3; exact ⟨by rw [HS.out]; rfl, rfl⟩)
          · have HS := Wr.getAt_done HG.out h2 (by rw [HL.out]; exact h1) (by rw [HX.out]; omega) (by rw [HX.out]; exact h4)
            rw [HR.out, HA.out] at HS
            replace HS := Hk.mk HS
            have j1 : (k : Int) + 1 ≤ 9 := by omega
            clear hA2 hand HR
            by_cases h5 : x = 0
            · have g5 : (x == 0) = true := by simpa using h5
              have g6 : decide (0 < k) = false := by simp; omega
              clear h4 h5
              go_wp2
              all_goals (go_ret3; exact ⟨by rw [HS.out]; rfl, rfl⟩)
            · have g5 : (x == 0) = false := by simpa using h5
              clear h4
              go_wp2
              all_goals (go_ret3; exact ⟨by rw [HS.out]; rfl, rfl⟩)
      · obtain rfl : k = 9 := by omega
        have HS := Wr.getAt_end HG.out (.inl rfl)
        rw [if_pos (by rw [HL.out]; omega), HR.out] at HS
        replace HS := Hk.mk HS
        have g3 : decide ((9 : Int) ≤ (n : Int)) = true := by simp; omega
        clear HR
        go_wp2
        all_goals (go_ret3; exact ⟨by rw [HS.out]; rfl, rfl⟩)
    · obtain rfl : k = n := by omega
      have HS := Wr.getAt_end HG.out (.inr H.out.len.symm)
      rw [H.out.len, HR.out] at HS
      replace HS := Hk.mk HS
      clear HR
      by_cases h9 : 9 ≤ k
      · obtain rfl : k = 9 := by omega
        go_wp2
        all_goals (go_ret3; exact ⟨by rw [HS.out]; rfl, rfl⟩)
      · have g3 : decide ((9 : Int) ≤ (k : Int)) = false := by simp; omega
        replace HS := Hk.mk (HS.out.trans (by rw [if_neg h9]))
        go_wp2
        all_goals (go_ret3; exact ⟨by rw [HS.out]; rfl, rfl⟩)
end Go.Proofs.Ytmkehmeoglpkeaa
