/- The reference's reader. -/
import Derived.Test.YtkffleclofkjmaaCmj
import Derived.Deep.RegionHeld3
namespace Go.Proofs.Ytkffleclofkjmaa
open Go.RowKit
set_option linter.unusedVariables false
theorem refnum_err (lo hi : Int) (D R : Nat) (a : Option Addr) (n c : Nat) (xs : List Int) (at_ : Nat) (e : Int) (w : World) (H : RdB w D R a n c xs at_ e) (he : e ≠ 0) :
    Calls Try.prog 49 #[.pointer (some ⟨R, 0, none⟩), .int .i64 lo, .int .i64 hi] w (NumR (rdV false xs lo hi at_ e) D R a n c xs w) := by
  have c2 := H.c2
  have HR := Hk.mk H
  have b0 : (e == 0) = false := by simpa using he
  have b1 : (e != 0) = true := by simpa using he
  have RR : Hk (rdV false xs lo hi at_ e = (0, at_, e)) := ⟨by unfold rdV stpC; rw [if_pos he]⟩
  clear H he
  go_enter Try.func49, Try.ntmps49
  go_wp2
  go_ret
  exact ⟨0, at_, e, rfl, RR.out, HR.out, Fr.refl _ _, rfl⟩
theorem refnum_get (A : Option Addr) (m' c' : Nat) (ys : List Int) (N K E : Int) (w : World) (h : By w w.heap.size A m' ys) (hn : m' ≤ 1099511627776) (N1 : Int) (hN1 : Hk (N = N1)) (hr : Hk (Wr.getS ys = (N, K, E))) :
    Calls Try.prog 62 #[.slice A m' c'] w fun o w' => o = .returned (.tuple #[.int .i64 N1, .int .i64 K, .int .i64 E]) ∧ w' = w := by
  have h1 := rgetnum_any A m' c' ys w h hn
  rw [hr.out] at h1
  dsimp only at h1
  rw [hN1.out] at h1
  exact h1.mono fun _ _ ⟨x, y⟩ => ⟨x, y.symm⟩
set_option maxHeartbeats 1600000 in
theorem refnum_any (lo hi : Int) (D R : Nat) (a : Option Addr) (n c : Nat) (xs : List Int) (at_ : Nat) (e : Int) (w : World) (H : RdB w D R a n c xs at_ e) :
    Calls Try.prog 49 #[.pointer (some ⟨R, 0, none⟩), .int .i64 lo, .int .i64 hi] w (NumR (rdV false xs lo hi at_ e) D R a n c xs w) := by
  by_cases he : e = 0
  case neg => exact refnum_err lo hi D R a n c xs at_ e w H he
  subst he
  have hl := H.by_.len
  have hlt := Nat.le_trans H.dr (Nat.le_of_lt H.lt)
  have hnm : n - at_ ≤ 1099511627776 := by have := H.nm; omega
  have hk := getS_k (xs := xs.drop at_) (fun b hb => H.by_.byt b (List.mem_of_mem_drop hb))
  obtain ⟨G, hG⟩ : ∃ G, Wr.getS (xs.drop at_) = G := ⟨_, rfl⟩
  obtain ⟨N, K, E⟩ := G
  rw [hG] at hk
  simp at hk
  have hle := H.le
  have hK : 0 ≤ K := hk.1
  have hKn : at_ + K.toNat ≤ n := by omega
  have RR : Hk (rdV false xs lo hi at_ 0 = stpC N K E lo hi at_ 0) := ⟨by unfold rdV; rw [hG]; rfl⟩
  have HG := Hk.mk hG
  clear hG hk hl
  obtain ⟨c0, c1, c2, f1, f2, hby, hdr, hnc, hcm, hnm0, han, -⟩ := H
  have HB := Hk.mk hby
  have HAN := Hk.mk han
  clear hby han
  have j0 : (0 : Int) ≤ (at_ : Int) := by omega
  have j1 : (at_ : Int) ≤ (n : Int) := by omega
  have j2 : (at_ : Int) ≤ (c : Int) := by omega
  obtain ⟨kk, rfl⟩ : ∃ kk : Nat, K = kk := ⟨K.toNat, by omega⟩
  have hkk : at_ + kk ≤ n := by simpa using hKn
  have hRs : R ≤ w.heap.size := Nat.le_of_lt (World.block_lt_of_cell? _ _ c0)
  obtain ⟨N1, hN1⟩ : ∃ N1, N = N1 := ⟨_, rfl⟩
  have HN1 := Hk.mk hN1
  clear hN1
  cases a with
  | none =>
    obtain rfl : c = 0 := HAN.out rfl
    obtain rfl : n = 0 := by omega
    obtain rfl : at_ = 0 := by omega
    have HC := Hk.mk (HB.out.mono hlt)
    by_cases hE : E = 0
    · subst hE
      by_cases h1 : N1 < lo
      · have b0 : decide (N1 < lo) = true := by simpa using h1
        have R2 : Hk (stpC N kk 0 lo hi 0 0 = (0, 0, 1)) := ⟨by unfold stpC; rw [HN1.out]; simp [h1]⟩
        clear h1
        go_enter Try.func49, Try.ntmps49
        go_wp2
        go_region_held3 (fun w' => w'.cell? ⟨R, 0, none⟩ = some (.slice none 0 0) ∧ w'.cell? ⟨R, 1, none⟩ = some (.int .i64 0)) (first | exact ⟨by go_simp, by go_simp⟩ | go_keep) (first | (go_at_call 62; go_must (refine (refnum_get none 0 0 xs N kk 0 _ (HC.out.drew) (by omega) N1 HN1 HG).mono ?_); rintro o w' ⟨rfl, rfl⟩))
        go_wp2
        go_ret
        refine ⟨0, 0, 1, rfl, by rw [RR.out]; exact R2.out, ?_, (Fr.refl (fun j => j = R) w).drew.setCell (p := ⟨R, 2, none⟩) (fun _ => rfl) _, by simp⟩
        exact ⟨by go_simp, by go_simp, by go_simp, by go_simp, by go_simp, HB.out.drew.setR hdr hRs 2 _, hdr, hnc, hcm, hnm0, by simp, hle⟩
      have b0 : decide (N1 < lo) = false := by simpa using h1
      by_cases h2 : hi < N1
      · have b1 : decide (hi < N1) = true := by simpa using h2
        have R2 : Hk (stpC N kk 0 lo hi 0 0 = (0, 0, 1)) := ⟨by unfold stpC; rw [HN1.out]; simp [h2]⟩
        clear h1 h2
        go_enter Try.func49, Try.ntmps49
        go_wp2
        go_region_held3 (fun w' => w'.cell? ⟨R, 0, none⟩ = some (.slice none 0 0) ∧ w'.cell? ⟨R, 1, none⟩ = some (.int .i64 0)) (first | exact ⟨by go_simp, by go_simp⟩ | go_keep) (first | (go_at_call 62; go_must (refine (refnum_get none 0 0 xs N kk 0 _ (HC.out.drew) (by omega) N1 HN1 HG).mono ?_); rintro o w' ⟨rfl, rfl⟩))
        go_wp2
        go_ret
        refine ⟨0, 0, 1, rfl, by rw [RR.out]; exact R2.out, ?_, (Fr.refl (fun j => j = R) w).drew.setCell (p := ⟨R, 2, none⟩) (fun _ => rfl) _, by simp⟩
        exact ⟨by go_simp, by go_simp, by go_simp, by go_simp, by go_simp, HB.out.drew.setR hdr hRs 2 _, hdr, hnc, hcm, hnm0, by simp, hle⟩
      have b1 : decide (hi < N1) = false := by simpa using h2
      have R2 : Hk (stpC N kk 0 lo hi 0 0 = (N1, 0 + kk, 0)) := ⟨by unfold stpC; rw [HN1.out]; simp; omega⟩
      clear h1 h2
      go_enter Try.func49, Try.ntmps49
      go_wp2
      go_region_held3 (fun w' => w'.cell? ⟨R, 0, none⟩ = some (.slice none 0 0) ∧ w'.cell? ⟨R, 1, none⟩ = some (.int .i64 0)) (first | exact ⟨by go_simp, by go_simp⟩ | go_keep) (first | (go_at_call 62; go_must (refine (refnum_get none 0 0 xs N kk 0 _ (HC.out.drew) (by omega) N1 HN1 HG).mono ?_); rintro o w' ⟨rfl, rfl⟩))
      go_wp2
      go_ret
      refine ⟨N1, 0 + kk, 0, rfl, by rw [RR.out]; exact R2.out, ?_, (Fr.refl (fun j => j = R) w).drew.setCell (p := ⟨R, 1, none⟩) (fun _ => rfl) _, by simp⟩
      exact ⟨by go_simp, by go_simp, by go_simp, by go_simp, by go_simp, HB.out.drew.setR hdr hRs 1 _, hdr, hnc, hcm, hnm0, by simp, hkk⟩
    · have b0 : (E == 0) = false := by simpa using hE
      have b1 : (E != 0) = true := by simpa using hE
      have R2 : Hk (stpC N kk E lo hi 0 0 = (0, 0, E)) := ⟨by unfold stpC; simp [hE]⟩
      clear hE
      go_enter Try.func49, Try.ntmps49
      go_wp2
      go_region_held3 (fun w' => w'.cell? ⟨R, 0, none⟩ = some (.slice none 0 0) ∧ w'.cell? ⟨R, 1, none⟩ = some (.int .i64 0)) (first | exact ⟨by go_simp, by go_simp⟩ | go_keep) (first | (go_at_call 62; go_must (refine (refnum_get none 0 0 xs N kk E _ (HC.out.drew) (by omega) N1 HN1 HG).mono ?_); rintro o w' ⟨rfl, rfl⟩))
      go_wp2
      go_ret
      refine ⟨0, 0, E, rfl, by rw [RR.out]; exact R2.out, ?_, (Fr.refl (fun j => j = R) w).drew.setCell (p := ⟨R, 2, none⟩) (fun _ => rfl) _, by simp⟩
      exact ⟨by go_simp, by go_simp, by go_simp, by go_simp, by go_simp, HB.out.drew.setR hdr hRs 2 _, hdr, hnc, hcm, hnm0, by simp, hle⟩
  | some ad =>
    obtain ⟨b, off, spot⟩ := ad
    by_cases h0 : n = 0
    · subst h0
      obtain rfl : at_ = 0 := by omega
      have HC := Hk.mk (HB.out.mono hlt)
      by_cases hE : E = 0
      · subst hE
        by_cases h1 : N1 < lo
        · have b0 : decide (N1 < lo) = true := by simpa using h1
          have R2 : Hk (stpC N kk 0 lo hi 0 0 = (0, 0, 1)) := ⟨by unfold stpC; rw [HN1.out]; simp [h1]⟩
          clear h1
          go_enter Try.func49, Try.ntmps49
          go_wp2
          go_region_held3 (fun w' => w'.cell? ⟨R, 0, none⟩ = some (.slice (some ⟨b, off, spot⟩) 0 c) ∧ w'.cell? ⟨R, 1, none⟩ = some (.int .i64 0)) (first | exact ⟨by go_simp, by go_simp⟩ | go_keep) (first | (go_at_call 62; go_must (refine (refnum_get (some ⟨b, off, spot⟩) 0 c xs N kk 0 _ (HC.out.drew) (by omega) N1 HN1 HG).mono ?_); rintro o w' ⟨rfl, rfl⟩))
          go_wp2
          go_ret
          refine ⟨0, 0, 1, rfl, by rw [RR.out]; exact R2.out, ?_, (Fr.refl (fun j => j = R) w).drew.setCell (p := ⟨R, 2, none⟩) (fun _ => rfl) _, by simp⟩
          exact ⟨by go_simp, by go_simp, by go_simp, by go_simp, by go_simp, HB.out.drew.setR hdr hRs 2 _, hdr, hnc, hcm, hnm0, by simp, hle⟩
        have b0 : decide (N1 < lo) = false := by simpa using h1
        by_cases h2 : hi < N1
        · have b1 : decide (hi < N1) = true := by simpa using h2
          have R2 : Hk (stpC N kk 0 lo hi 0 0 = (0, 0, 1)) := ⟨by unfold stpC; rw [HN1.out]; simp [h2]⟩
          clear h1 h2
          go_enter Try.func49, Try.ntmps49
          go_wp2
          go_region_held3 (fun w' => w'.cell? ⟨R, 0, none⟩ = some (.slice (some ⟨b, off, spot⟩) 0 c) ∧ w'.cell? ⟨R, 1, none⟩ = some (.int .i64 0)) (first | exact ⟨by go_simp, by go_simp⟩ | go_keep) (first | (go_at_call 62; go_must (refine (refnum_get (some ⟨b, off, spot⟩) 0 c xs N kk 0 _ (HC.out.drew) (by omega) N1 HN1 HG).mono ?_); rintro o w' ⟨rfl, rfl⟩))
          go_wp2
          go_ret
          refine ⟨0, 0, 1, rfl, by rw [RR.out]; exact R2.out, ?_, (Fr.refl (fun j => j = R) w).drew.setCell (p := ⟨R, 2, none⟩) (fun _ => rfl) _, by simp⟩
          exact ⟨by go_simp, by go_simp, by go_simp, by go_simp, by go_simp, HB.out.drew.setR hdr hRs 2 _, hdr, hnc, hcm, hnm0, by simp, hle⟩
        have b1 : decide (hi < N1) = false := by simpa using h2
        have R2 : Hk (stpC N kk 0 lo hi 0 0 = (N1, 0 + kk, 0)) := ⟨by unfold stpC; rw [HN1.out]; simp; omega⟩
        clear h1 h2
        go_enter Try.func49, Try.ntmps49
        go_wp2
        go_region_held3 (fun w' => w'.cell? ⟨R, 0, none⟩ = some (.slice (some ⟨b, off, spot⟩) 0 c) ∧ w'.cell? ⟨R, 1, none⟩ = some (.int .i64 0)) (first | exact ⟨by go_simp, by go_simp⟩ | go_keep) (first | (go_at_call 62; go_must (refine (refnum_get (some ⟨b, off, spot⟩) 0 c xs N kk 0 _ (HC.out.drew) (by omega) N1 HN1 HG).mono ?_); rintro o w' ⟨rfl, rfl⟩))
        go_wp2
        go_ret
        refine ⟨N1, 0 + kk, 0, rfl, by rw [RR.out]; exact R2.out, ?_, (Fr.refl (fun j => j = R) w).drew.setCell (p := ⟨R, 1, none⟩) (fun _ => rfl) _, by simp⟩
        exact ⟨by go_simp, by go_simp, by go_simp, by go_simp, by go_simp, HB.out.drew.setR hdr hRs 1 _, hdr, hnc, hcm, hnm0, by simp, hkk⟩
      · have b0 : (E == 0) = false := by simpa using hE
        have b1 : (E != 0) = true := by simpa using hE
        have R2 : Hk (stpC N kk E lo hi 0 0 = (0, 0, E)) := ⟨by unfold stpC; simp [hE]⟩
        clear hE
        go_enter Try.func49, Try.ntmps49
        go_wp2
        go_region_held3 (fun w' => w'.cell? ⟨R, 0, none⟩ = some (.slice (some ⟨b, off, spot⟩) 0 c) ∧ w'.cell? ⟨R, 1, none⟩ = some (.int .i64 0)) (first | exact ⟨by go_simp, by go_simp⟩ | go_keep) (first | (go_at_call 62; go_must (refine (refnum_get (some ⟨b, off, spot⟩) 0 c xs N kk E _ (HC.out.drew) (by omega) N1 HN1 HG).mono ?_); rintro o w' ⟨rfl, rfl⟩))
        go_wp2
        go_ret
        refine ⟨0, 0, E, rfl, by rw [RR.out]; exact R2.out, ?_, (Fr.refl (fun j => j = R) w).drew.setCell (p := ⟨R, 2, none⟩) (fun _ => rfl) _, by simp⟩
        exact ⟨by go_simp, by go_simp, by go_simp, by go_simp, by go_simp, HB.out.drew.setR hdr hRs 2 _, hdr, hnc, hcm, hnm0, by simp, hle⟩
    · obtain rfl : spot = none := by
        obtain ⟨b', off', e1, -⟩ := HB.out.rd (by omega)
        injection e1 with e1
        injection e1
      by_cases hca : c = at_
      · obtain rfl : n = at_ := by omega
        subst hca
        have HC : Hk (By w w.heap.size (some ⟨b, off, none⟩) 0 (xs.drop c)) := ⟨by rw [List.drop_of_length_le (by have := HB.out.len; omega)]; exact By.nil _ _ _⟩
        clear h0
        by_cases hE : E = 0
        · subst hE
          by_cases h1 : N1 < lo
          · have b0 : decide (N1 < lo) = true := by simpa using h1
            have R2 : Hk (stpC N kk 0 lo hi c 0 = (0, c, 1)) := ⟨by unfold stpC; rw [HN1.out]; simp [h1]⟩
            clear h1
            go_enter Try.func49, Try.ntmps49
            go_wp2
            go_region_held3 (fun w' => w'.cell? ⟨R, 0, none⟩ = some (.slice (some ⟨b, off, none⟩) c c) ∧ w'.cell? ⟨R, 1, none⟩ = some (.int .i64 c)) (first | exact ⟨by go_simp, by go_simp⟩ | go_keep) (first | (go_at_call 62; go_must (refine (refnum_get (some ⟨b, off, none⟩) 0 0 (xs.drop c) N kk 0 _ (HC.out.drew) (by omega) N1 HN1 HG).mono ?_); rintro o w' ⟨rfl, rfl⟩))
            go_wp2
            go_ret
            refine ⟨0, c, 1, rfl, by rw [RR.out]; exact R2.out, ?_, (Fr.refl (fun j => j = R) w).drew.setCell (p := ⟨R, 2, none⟩) (fun _ => rfl) _, by simp⟩
            exact ⟨by go_simp, by go_simp, by go_simp, by go_simp, by go_simp, HB.out.drew.setR hdr hRs 2 _, hdr, hnc, hcm, hnm0, by simp, hle⟩
          have b0 : decide (N1 < lo) = false := by simpa using h1
          by_cases h2 : hi < N1
          · have b1 : decide (hi < N1) = true := by simpa using h2
            have R2 : Hk (stpC N kk 0 lo hi c 0 = (0, c, 1)) := ⟨by unfold stpC; rw [HN1.out]; simp [h2]⟩
            clear h1 h2
            go_enter Try.func49, Try.ntmps49
            go_wp2
            go_region_held3 (fun w' => w'.cell? ⟨R, 0, none⟩ = some (.slice (some ⟨b, off, none⟩) c c) ∧ w'.cell? ⟨R, 1, none⟩ = some (.int .i64 c)) (first | exact ⟨by go_simp, by go_simp⟩ | go_keep) (first | (go_at_call 62; go_must (refine (refnum_get (some ⟨b, off, none⟩) 0 0 (xs.drop c) N kk 0 _ (HC.out.drew) (by omega) N1 HN1 HG).mono ?_); rintro o w' ⟨rfl, rfl⟩))
            go_wp2
            go_ret
            refine ⟨0, c, 1, rfl, by rw [RR.out]; exact R2.out, ?_, (Fr.refl (fun j => j = R) w).drew.setCell (p := ⟨R, 2, none⟩) (fun _ => rfl) _, by simp⟩
            exact ⟨by go_simp, by go_simp, by go_simp, by go_simp, by go_simp, HB.out.drew.setR hdr hRs 2 _, hdr, hnc, hcm, hnm0, by simp, hle⟩
          have b1 : decide (hi < N1) = false := by simpa using h2
          have R2 : Hk (stpC N kk 0 lo hi c 0 = (N1, c + kk, 0)) := ⟨by unfold stpC; rw [HN1.out]; simp; omega⟩
          clear h1 h2
          go_enter Try.func49, Try.ntmps49
          go_wp2
          go_region_held3 (fun w' => w'.cell? ⟨R, 0, none⟩ = some (.slice (some ⟨b, off, none⟩) c c) ∧ w'.cell? ⟨R, 1, none⟩ = some (.int .i64 c)) (first | exact ⟨by go_simp, by go_simp⟩ | go_keep) (first | (go_at_call 62; go_must (refine (refnum_get (some ⟨b, off, none⟩) 0 0 (xs.drop c) N kk 0 _ (HC.out.drew) (by omega) N1 HN1 HG).mono ?_); rintro o w' ⟨rfl, rfl⟩))
          go_wp2
          go_ret
          refine ⟨N1, c + kk, 0, rfl, by rw [RR.out]; exact R2.out, ?_, (Fr.refl (fun j => j = R) w).drew.setCell (p := ⟨R, 1, none⟩) (fun _ => rfl) _, by simp⟩
          exact ⟨by go_simp, by go_simp, by go_simp, by go_simp, by go_simp, HB.out.drew.setR hdr hRs 1 _, hdr, hnc, hcm, hnm0, by simp, hkk⟩
        · have b0 : (E == 0) = false := by simpa using hE
          have b1 : (E != 0) = true := by simpa using hE
          have R2 : Hk (stpC N kk E lo hi c 0 = (0, c, E)) := ⟨by unfold stpC; simp [hE]⟩
          clear hE
          go_enter Try.func49, Try.ntmps49
          go_wp2
          go_region_held3 (fun w' => w'.cell? ⟨R, 0, none⟩ = some (.slice (some ⟨b, off, none⟩) c c) ∧ w'.cell? ⟨R, 1, none⟩ = some (.int .i64 c)) (first | exact ⟨by go_simp, by go_simp⟩ | go_keep) (first | (go_at_call 62; go_must (refine (refnum_get (some ⟨b, off, none⟩) 0 0 (xs.drop c) N kk E _ (HC.out.drew) (by omega) N1 HN1 HG).mono ?_); rintro o w' ⟨rfl, rfl⟩))
          go_wp2
          go_ret
          refine ⟨0, c, E, rfl, by rw [RR.out]; exact R2.out, ?_, (Fr.refl (fun j => j = R) w).drew.setCell (p := ⟨R, 2, none⟩) (fun _ => rfl) _, by simp⟩
          exact ⟨by go_simp, by go_simp, by go_simp, by go_simp, by go_simp, HB.out.drew.setR hdr hRs 2 _, hdr, hnc, hcm, hnm0, by simp, hle⟩
      · have HC := Hk.mk ((HB.out.tail hle).mono hlt)
        clear h0
        by_cases hE : E = 0
        · subst hE
          by_cases h1 : N1 < lo
          · have b0 : decide (N1 < lo) = true := by simpa using h1
            have R2 : Hk (stpC N kk 0 lo hi at_ 0 = (0, at_, 1)) := ⟨by unfold stpC; rw [HN1.out]; simp [h1]⟩
            clear h1
            go_enter Try.func49, Try.ntmps49
            go_wp2
            go_region_held3 (fun w' => w'.cell? ⟨R, 0, none⟩ = some (.slice (some ⟨b, off, none⟩) n c) ∧ w'.cell? ⟨R, 1, none⟩ = some (.int .i64 at_)) (first | exact ⟨by go_simp, by go_simp⟩ | go_keep) (first | (go_at_call 62; go_must (refine (refnum_get (some ⟨b, off + at_, none⟩) (n - at_) (c - at_) (xs.drop at_) N kk 0 _ (HC.out.drew) (by omega) N1 HN1 HG).mono ?_); rintro o w' ⟨rfl, rfl⟩))
            go_wp2
            go_ret
            refine ⟨0, at_, 1, rfl, by rw [RR.out]; exact R2.out, ?_, (Fr.refl (fun j => j = R) w).drew.setCell (p := ⟨R, 2, none⟩) (fun _ => rfl) _, by simp⟩
            exact ⟨by go_simp, by go_simp, by go_simp, by go_simp, by go_simp, HB.out.drew.setR hdr hRs 2 _, hdr, hnc, hcm, hnm0, by simp, hle⟩
          have b0 : decide (N1 < lo) = false := by simpa using h1
          by_cases h2 : hi < N1
          · have b1 : decide (hi < N1) = true := by simpa using h2
            have R2 : Hk (stpC N kk 0 lo hi at_ 0 = (0, at_, 1)) := ⟨by unfold stpC; rw [HN1.out]; simp [h2]⟩
            clear h1 h2
            go_enter Try.func49, Try.ntmps49
            go_wp2
            go_region_held3 (fun w' => w'.cell? ⟨R, 0, none⟩ = some (.slice (some ⟨b, off, none⟩) n c) ∧ w'.cell? ⟨R, 1, none⟩ = some (.int .i64 at_)) (first | exact ⟨by go_simp, by go_simp⟩ | go_keep) (first | (go_at_call 62; go_must (refine (refnum_get (some ⟨b, off + at_, none⟩) (n - at_) (c - at_) (xs.drop at_) N kk 0 _ (HC.out.drew) (by omega) N1 HN1 HG).mono ?_); rintro o w' ⟨rfl, rfl⟩))
            go_wp2
            go_ret
            refine ⟨0, at_, 1, rfl, by rw [RR.out]; exact R2.out, ?_, (Fr.refl (fun j => j = R) w).drew.setCell (p := ⟨R, 2, none⟩) (fun _ => rfl) _, by simp⟩
            exact ⟨by go_simp, by go_simp, by go_simp, by go_simp, by go_simp, HB.out.drew.setR hdr hRs 2 _, hdr, hnc, hcm, hnm0, by simp, hle⟩
          have b1 : decide (hi < N1) = false := by simpa using h2
          have R2 : Hk (stpC N kk 0 lo hi at_ 0 = (N1, at_ + kk, 0)) := ⟨by unfold stpC; rw [HN1.out]; simp; omega⟩
          clear h1 h2
          go_enter Try.func49, Try.ntmps49
          go_wp2
          go_region_held3 (fun w' => w'.cell? ⟨R, 0, none⟩ = some (.slice (some ⟨b, off, none⟩) n c) ∧ w'.cell? ⟨R, 1, none⟩ = some (.int .i64 at_)) (first | exact ⟨by go_simp, by go_simp⟩ | go_keep) (first | (go_at_call 62; go_must (refine (refnum_get (some ⟨b, off + at_, none⟩) (n - at_) (c - at_) (xs.drop at_) N kk 0 _ (HC.out.drew) (by omega) N1 HN1 HG).mono ?_); rintro o w' ⟨rfl, rfl⟩))
          go_wp2
          go_ret
          refine ⟨N1, at_ + kk, 0, rfl, by rw [RR.out]; exact R2.out, ?_, (Fr.refl (fun j => j = R) w).drew.setCell (p := ⟨R, 1, none⟩) (fun _ => rfl) _, by simp⟩
          exact ⟨by go_simp, by go_simp, by go_simp, by go_simp, by go_simp, HB.out.drew.setR hdr hRs 1 _, hdr, hnc, hcm, hnm0, by simp, hkk⟩
        · have b0 : (E == 0) = false := by simpa using hE
          have b1 : (E != 0) = true := by simpa using hE
          have R2 : Hk (stpC N kk E lo hi at_ 0 = (0, at_, E)) := ⟨by unfold stpC; simp [hE]⟩
          clear hE
          go_enter Try.func49, Try.ntmps49
          go_wp2
          go_region_held3 (fun w' => w'.cell? ⟨R, 0, none⟩ = some (.slice (some ⟨b, off, none⟩) n c) ∧ w'.cell? ⟨R, 1, none⟩ = some (.int .i64 at_)) (first | exact ⟨by go_simp, by go_simp⟩ | go_keep) (first | (go_at_call 62; go_must (refine (refnum_get (some ⟨b, off + at_, none⟩) (n - at_) (c - at_) (xs.drop at_) N kk E _ (HC.out.drew) (by omega) N1 HN1 HG).mono ?_); rintro o w' ⟨rfl, rfl⟩))
          go_wp2
          go_ret
          refine ⟨0, at_, E, rfl, by rw [RR.out]; exact R2.out, ?_, (Fr.refl (fun j => j = R) w).drew.setCell (p := ⟨R, 2, none⟩) (fun _ => rfl) _, by simp⟩
          exact ⟨by go_simp, by go_simp, by go_simp, by go_simp, by go_simp, HB.out.drew.setR hdr hRs 2 _, hdr, hnc, hcm, hnm0, by simp, hle⟩
theorem refint_err (lo hi : Int) (D R : Nat) (a : Option Addr) (n c : Nat) (xs : List Int) (at_ : Nat) (e : Int) (w : World) (H : RdB w D R a n c xs at_ e) (he : e ≠ 0) :
    Calls Try.prog 50 #[.pointer (some ⟨R, 0, none⟩), .int .i64 lo, .int .i64 hi] w (NumR (rdV true xs lo hi at_ e) D R a n c xs w) := by
  have c2 := H.c2
  have HR := Hk.mk H
  have b0 : (e == 0) = false := by simpa using he
  have b1 : (e != 0) = true := by simpa using he
  have RR : Hk (rdV true xs lo hi at_ e = (0, at_, e)) := ⟨by unfold rdV stpC; rw [if_pos he]⟩
  clear H he
  go_enter Try.func50, Try.ntmps50
  go_wp2
  go_ret
  exact ⟨0, at_, e, rfl, RR.out, HR.out, Fr.refl _ _, rfl⟩
theorem refint_get (A : Option Addr) (m' c' : Nat) (ys : List Int) (N K E : Int) (w : World) (h : By w w.heap.size A m' ys) (hn : m' ≤ 1099511627776) (N1 : Int) (hN1 : Hk ((Wr.unzig N) = N1)) (hr : Hk (Wr.getS ys = (N, K, E))) :
    Calls Try.prog 63 #[.slice A m' c'] w fun o w' => o = .returned (.tuple #[.int .i64 N1, .int .i64 K, .int .i64 E]) ∧ w' = w := by
  have h1 := rgetint_any A m' c' ys w h hn
  rw [hr.out] at h1
  dsimp only at h1
  rw [hN1.out] at h1
  exact h1.mono fun _ _ ⟨x, y⟩ => ⟨x, y.symm⟩
set_option maxHeartbeats 1600000 in
theorem refint_any (lo hi : Int) (D R : Nat) (a : Option Addr) (n c : Nat) (xs : List Int) (at_ : Nat) (e : Int) (w : World) (H : RdB w D R a n c xs at_ e) :
    Calls Try.prog 50 #[.pointer (some ⟨R, 0, none⟩), .int .i64 lo, .int .i64 hi] w (NumR (rdV true xs lo hi at_ e) D R a n c xs w) := by
  by_cases he : e = 0
  case neg => exact refint_err lo hi D R a n c xs at_ e w H he
  subst he
  have hl := H.by_.len
  have hlt := Nat.le_trans H.dr (Nat.le_of_lt H.lt)
  have hnm : n - at_ ≤ 1099511627776 := by have := H.nm; omega
  have hk := getS_k (xs := xs.drop at_) (fun b hb => H.by_.byt b (List.mem_of_mem_drop hb))
  obtain ⟨G, hG⟩ : ∃ G, Wr.getS (xs.drop at_) = G := ⟨_, rfl⟩
  obtain ⟨N, K, E⟩ := G
  rw [hG] at hk
  simp at hk
  have hle := H.le
  have hK : 0 ≤ K := hk.1
  have hKn : at_ + K.toNat ≤ n := by omega
  have RR : Hk (rdV true xs lo hi at_ 0 = stpC (Wr.unzig N) K E lo hi at_ 0) := ⟨by unfold rdV; rw [hG]; rfl⟩
  have HG := Hk.mk hG
  clear hG hk hl
  obtain ⟨c0, c1, c2, f1, f2, hby, hdr, hnc, hcm, hnm0, han, -⟩ := H
  have HB := Hk.mk hby
  have HAN := Hk.mk han
  clear hby han
  have j0 : (0 : Int) ≤ (at_ : Int) := by omega
  have j1 : (at_ : Int) ≤ (n : Int) := by omega
  have j2 : (at_ : Int) ≤ (c : Int) := by omega
  obtain ⟨kk, rfl⟩ : ∃ kk : Nat, K = kk := ⟨K.toNat, by omega⟩
  have hkk : at_ + kk ≤ n := by simpa using hKn
  have hRs : R ≤ w.heap.size := Nat.le_of_lt (World.block_lt_of_cell? _ _ c0)
  obtain ⟨N1, hN1⟩ : ∃ N1, (Wr.unzig N) = N1 := ⟨_, rfl⟩
  have HN1 := Hk.mk hN1
  clear hN1
  cases a with
  | none =>
    obtain rfl : c = 0 := HAN.out rfl
    obtain rfl : n = 0 := by omega
    obtain rfl : at_ = 0 := by omega
    have HC := Hk.mk (HB.out.mono hlt)
    by_cases hE : E = 0
    · subst hE
      by_cases h1 : N1 < lo
      · have b0 : decide (N1 < lo) = true := by simpa using h1
        have R2 : Hk (stpC (Wr.unzig N) kk 0 lo hi 0 0 = (0, 0, 1)) := ⟨by unfold stpC; rw [HN1.out]; simp [h1]⟩
        clear h1
        go_enter Try.func50, Try.ntmps50
        go_wp2
        go_region_held3 (fun w' => w'.cell? ⟨R, 0, none⟩ = some (.slice none 0 0) ∧ w'.cell? ⟨R, 1, none⟩ = some (.int .i64 0)) (first | exact ⟨by go_simp, by go_simp⟩ | go_keep) (first | (go_at_call 63; go_must (refine (refint_get none 0 0 xs N kk 0 _ (HC.out.drew) (by omega) N1 HN1 HG).mono ?_); rintro o w' ⟨rfl, rfl⟩))
        go_wp2
        go_ret
        refine ⟨0, 0, 1, rfl, by rw [RR.out]; exact R2.out, ?_, (Fr.refl (fun j => j = R) w).drew.setCell (p := ⟨R, 2, none⟩) (fun _ => rfl) _, by simp⟩
        exact ⟨by go_simp, by go_simp, by go_simp, by go_simp, by go_simp, HB.out.drew.setR hdr hRs 2 _, hdr, hnc, hcm, hnm0, by simp, hle⟩
      have b0 : decide (N1 < lo) = false := by simpa using h1
      by_cases h2 : hi < N1
      · have b1 : decide (hi < N1) = true := by simpa using h2
        have R2 : Hk (stpC (Wr.unzig N) kk 0 lo hi 0 0 = (0, 0, 1)) := ⟨by unfold stpC; rw [HN1.out]; simp [h2]⟩
        clear h1 h2
        go_enter Try.func50, Try.ntmps50
        go_wp2
        go_region_held3 (fun w' => w'.cell? ⟨R, 0, none⟩ = some (.slice none 0 0) ∧ w'.cell? ⟨R, 1, none⟩ = some (.int .i64 0)) (first | exact ⟨by go_simp, by go_simp⟩ | go_keep) (first | (go_at_call 63; go_must (refine (refint_get none 0 0 xs N kk 0 _ (HC.out.drew) (by omega) N1 HN1 HG).mono ?_); rintro o w' ⟨rfl, rfl⟩))
        go_wp2
        go_ret
        refine ⟨0, 0, 1, rfl, by rw [RR.out]; exact R2.out, ?_, (Fr.refl (fun j => j = R) w).drew.setCell (p := ⟨R, 2, none⟩) (fun _ => rfl) _, by simp⟩
        exact ⟨by go_simp, by go_simp, by go_simp, by go_simp, by go_simp, HB.out.drew.setR hdr hRs 2 _, hdr, hnc, hcm, hnm0, by simp, hle⟩
      have b1 : decide (hi < N1) = false := by simpa using h2
      have R2 : Hk (stpC (Wr.unzig N) kk 0 lo hi 0 0 = (N1, 0 + kk, 0)) := ⟨by unfold stpC; rw [HN1.out]; simp; omega⟩
      clear h1 h2
      go_enter Try.func50, Try.ntmps50
      go_wp2
      go_region_held3 (fun w' => w'.cell? ⟨R, 0, none⟩ = some (.slice none 0 0) ∧ w'.cell? ⟨R, 1, none⟩ = some (.int .i64 0)) (first | exact ⟨by go_simp, by go_simp⟩ | go_keep) (first | (go_at_call 63; go_must (refine (refint_get none 0 0 xs N kk 0 _ (HC.out.drew) (by omega) N1 HN1 HG).mono ?_); rintro o w' ⟨rfl, rfl⟩))
      go_wp2
      go_ret
      refine ⟨N1, 0 + kk, 0, rfl, by rw [RR.out]; exact R2.out, ?_, (Fr.refl (fun j => j = R) w).drew.setCell (p := ⟨R, 1, none⟩) (fun _ => rfl) _, by simp⟩
      exact ⟨by go_simp, by go_simp, by go_simp, by go_simp, by go_simp, HB.out.drew.setR hdr hRs 1 _, hdr, hnc, hcm, hnm0, by simp, hkk⟩
    · have b0 : (E == 0) = false := by simpa using hE
      have b1 : (E != 0) = true := by simpa using hE
      have R2 : Hk (stpC (Wr.unzig N) kk E lo hi 0 0 = (0, 0, E)) := ⟨by unfold stpC; simp [hE]⟩
      clear hE
      go_enter Try.func50, Try.ntmps50
      go_wp2
      go_region_held3 (fun w' => w'.cell? ⟨R, 0, none⟩ = some (.slice none 0 0) ∧ w'.cell? ⟨R, 1, none⟩ = some (.int .i64 0)) (first | exact ⟨by go_simp, by go_simp⟩ | go_keep) (first | (go_at_call 63; go_must (refine (refint_get none 0 0 xs N kk E _ (HC.out.drew) (by omega) N1 HN1 HG).mono ?_); rintro o w' ⟨rfl, rfl⟩))
      go_wp2
      go_ret
      refine ⟨0, 0, E, rfl, by rw [RR.out]; exact R2.out, ?_, (Fr.refl (fun j => j = R) w).drew.setCell (p := ⟨R, 2, none⟩) (fun _ => rfl) _, by simp⟩
      exact ⟨by go_simp, by go_simp, by go_simp, by go_simp, by go_simp, HB.out.drew.setR hdr hRs 2 _, hdr, hnc, hcm, hnm0, by simp, hle⟩
  | some ad =>
    obtain ⟨b, off, spot⟩ := ad
    by_cases h0 : n = 0
    · subst h0
      obtain rfl : at_ = 0 := by omega
      have HC := Hk.mk (HB.out.mono hlt)
      by_cases hE : E = 0
      · subst hE
        by_cases h1 : N1 < lo
        · have b0 : decide (N1 < lo) = true := by simpa using h1
          have R2 : Hk (stpC (Wr.unzig N) kk 0 lo hi 0 0 = (0, 0, 1)) := ⟨by unfold stpC; rw [HN1.out]; simp [h1]⟩
          clear h1
          go_enter Try.func50, Try.ntmps50
          go_wp2
          go_region_held3 (fun w' => w'.cell? ⟨R, 0, none⟩ = some (.slice (some ⟨b, off, spot⟩) 0 c) ∧ w'.cell? ⟨R, 1, none⟩ = some (.int .i64 0)) (first | exact ⟨by go_simp, by go_simp⟩ | go_keep) (first | (go_at_call 63; go_must (refine (refint_get (some ⟨b, off, spot⟩) 0 c xs N kk 0 _ (HC.out.drew) (by omega) N1 HN1 HG).mono ?_); rintro o w' ⟨rfl, rfl⟩))
          go_wp2
          go_ret
          refine ⟨0, 0, 1, rfl, by rw [RR.out]; exact R2.out, ?_, (Fr.refl (fun j => j = R) w).drew.setCell (p := ⟨R, 2, none⟩) (fun _ => rfl) _, by simp⟩
          exact ⟨by go_simp, by go_simp, by go_simp, by go_simp, by go_simp, HB.out.drew.setR hdr hRs 2 _, hdr, hnc, hcm, hnm0, by simp, hle⟩
        have b0 : decide (N1 < lo) = false := by simpa using h1
        by_cases h2 : hi < N1
        · have b1 : decide (hi < N1) = true := by simpa using h2
          have R2 : Hk (stpC (Wr.unzig N) kk 0 lo hi 0 0 = (0, 0, 1)) := ⟨by unfold stpC; rw [HN1.out]; simp [h2]⟩
          clear h1 h2
          go_enter Try.func50, Try.ntmps50
          go_wp2
          go_region_held3 (fun w' => w'.cell? ⟨R, 0, none⟩ = some (.slice (some ⟨b, off, spot⟩) 0 c) ∧ w'.cell? ⟨R, 1, none⟩ = some (.int .i64 0)) (first | exact ⟨by go_simp, by go_simp⟩ | go_keep) (first | (go_at_call 63; go_must (refine (refint_get (some ⟨b, off, spot⟩) 0 c xs N kk 0 _ (HC.out.drew) (by omega) N1 HN1 HG).mono ?_); rintro o w' ⟨rfl, rfl⟩))
          go_wp2
          go_ret
          refine ⟨0, 0, 1, rfl, by rw [RR.out]; exact R2.out, ?_, (Fr.refl (fun j => j = R) w).drew.setCell (p := ⟨R, 2, none⟩) (fun _ => rfl) _, by simp⟩
          exact ⟨by go_simp, by go_simp, by go_simp, by go_simp, by go_simp, HB.out.drew.setR hdr hRs 2 _, hdr, hnc, hcm, hnm0, by simp, hle⟩
        have b1 : decide (hi < N1) = false := by simpa using h2
        have R2 : Hk (stpC (Wr.unzig N) kk 0 lo hi 0 0 = (N1, 0 + kk, 0)) := ⟨by unfold stpC; rw [HN1.out]; simp; omega⟩
        clear h1 h2
        go_enter Try.func50, Try.ntmps50
        go_wp2
        go_region_held3 (fun w' => w'.cell? ⟨R, 0, none⟩ = some (.slice (some ⟨b, off, spot⟩) 0 c) ∧ w'.cell? ⟨R, 1, none⟩ = some (.int .i64 0)) (first | exact ⟨by go_simp, by go_simp⟩ | go_keep) (first | (go_at_call 63; go_must (refine (refint_get (some ⟨b, off, spot⟩) 0 c xs N kk 0 _ (HC.out.drew) (by omega) N1 HN1 HG).mono ?_); rintro o w' ⟨rfl, rfl⟩))
        go_wp2
        go_ret
        refine ⟨N1, 0 + kk, 0, rfl, by rw [RR.out]; exact R2.out, ?_, (Fr.refl (fun j => j = R) w).drew.setCell (p := ⟨R, 1, none⟩) (fun _ => rfl) _, by simp⟩
        exact ⟨by go_simp, by go_simp, by go_simp, by go_simp, by go_simp, HB.out.drew.setR hdr hRs 1 _, hdr, hnc, hcm, hnm0, by simp, hkk⟩
      · have b0 : (E == 0) = false := by simpa using hE
        have b1 : (E != 0) = true := by simpa using hE
        have R2 : Hk (stpC (Wr.unzig N) kk E lo hi 0 0 = (0, 0, E)) := ⟨by unfold stpC; simp [hE]⟩
        clear hE
        go_enter Try.func50, Try.ntmps50
        go_wp2
        go_region_held3 (fun w' => w'.cell? ⟨R, 0, none⟩ = some (.slice (some ⟨b, off, spot⟩) 0 c) ∧ w'.cell? ⟨R, 1, none⟩ = some (.int .i64 0)) (first | exact ⟨by go_simp, by go_simp⟩ | go_keep) (first | (go_at_call 63; go_must (refine (refint_get (some ⟨b, off, spot⟩) 0 c xs N kk E _ (HC.out.drew) (by omega) N1 HN1 HG).mono ?_); rintro o w' ⟨rfl, rfl⟩))
        go_wp2
        go_ret
        refine ⟨0, 0, E, rfl, by rw [RR.out]; exact R2.out, ?_, (Fr.refl (fun j => j = R) w).drew.setCell (p := ⟨R, 2, none⟩) (fun _ => rfl) _, by simp⟩
        exact ⟨by go_simp, by go_simp, by go_simp, by go_simp, by go_simp, HB.out.drew.setR hdr hRs 2 _, hdr, hnc, hcm, hnm0, by simp, hle⟩
    · obtain rfl : spot = none := by
        obtain ⟨b', off', e1, -⟩ := HB.out.rd (by omega)
        injection e1 with e1
        injection e1
      by_cases hca : c = at_
      · obtain rfl : n = at_ := by omega
        subst hca
        have HC : Hk (By w w.heap.size (some ⟨b, off, none⟩) 0 (xs.drop c)) := ⟨by rw [List.drop_of_length_le (by have := HB.out.len; omega)]; exact By.nil _ _ _⟩
        clear h0
        by_cases hE : E = 0
        · subst hE
          by_cases h1 : N1 < lo
          · have b0 : decide (N1 < lo) = true := by simpa using h1
            have R2 : Hk (stpC (Wr.unzig N) kk 0 lo hi c 0 = (0, c, 1)) := ⟨by unfold stpC; rw [HN1.out]; simp [h1]⟩
            clear h1
            go_enter Try.func50, Try.ntmps50
            go_wp2
            go_region_held3 (fun w' => w'.cell? ⟨R, 0, none⟩ = some (.slice (some ⟨b, off, none⟩) c c) ∧ w'.cell? ⟨R, 1, none⟩ = some (.int .i64 c)) (first | exact ⟨by go_simp, by go_simp⟩ | go_keep) (first | (go_at_call 63; go_must (refine (refint_get (some ⟨b, off, none⟩) 0 0 (xs.drop c) N kk 0 _ (HC.out.drew) (by omega) N1 HN1 HG).mono ?_); rintro o w' ⟨rfl, rfl⟩))
            go_wp2
            go_ret
            refine ⟨0, c, 1, rfl, by rw [RR.out]; exact R2.out, ?_, (Fr.refl (fun j => j = R) w).drew.setCell (p := ⟨R, 2, none⟩) (fun _ => rfl) _, by simp⟩
            exact ⟨by go_simp, by go_simp, by go_simp, by go_simp, by go_simp, HB.out.drew.setR hdr hRs 2 _, hdr, hnc, hcm, hnm0, by simp, hle⟩
          have b0 : decide (N1 < lo) = false := by simpa using h1
          by_cases h2 : hi < N1
          · have b1 : decide (hi < N1) = true := by simpa using h2
            have R2 : Hk (stpC (Wr.unzig N) kk 0 lo hi c 0 = (0, c, 1)) := ⟨by unfold stpC; rw [HN1.out]; simp [h2]⟩
            clear h1 h2
            go_enter Try.func50, Try.ntmps50
            go_wp2
            go_region_held3 (fun w' => w'.cell? ⟨R, 0, none⟩ = some (.slice (some ⟨b, off, none⟩) c c) ∧ w'.cell? ⟨R, 1, none⟩ = some (.int .i64 c)) (first | exact ⟨by go_simp, by go_simp⟩ | go_keep) (first | (go_at_call 63; go_must (refine (refint_get (some ⟨b, off, none⟩) 0 0 (xs.drop c) N kk 0 _ (HC.out.drew) (by omega) N1 HN1 HG).mono ?_); rintro o w' ⟨rfl, rfl⟩))
            go_wp2
            go_ret
            refine ⟨0, c, 1, rfl, by rw [RR.out]; exact R2.out, ?_, (Fr.refl (fun j => j = R) w).drew.setCell (p := ⟨R, 2, none⟩) (fun _ => rfl) _, by simp⟩
            exact ⟨by go_simp, by go_simp, by go_simp, by go_simp, by go_simp, HB.out.drew.setR hdr hRs 2 _, hdr, hnc, hcm, hnm0, by simp, hle⟩
          have b1 : decide (hi < N1) = false := by simpa using h2
          have R2 : Hk (stpC (Wr.unzig N) kk 0 lo hi c 0 = (N1, c + kk, 0)) := ⟨by unfold stpC; rw [HN1.out]; simp; omega⟩
          clear h1 h2
          go_enter Try.func50, Try.ntmps50
          go_wp2
          go_region_held3 (fun w' => w'.cell? ⟨R, 0, none⟩ = some (.slice (some ⟨b, off, none⟩) c c) ∧ w'.cell? ⟨R, 1, none⟩ = some (.int .i64 c)) (first | exact ⟨by go_simp, by go_simp⟩ | go_keep) (first | (go_at_call 63; go_must (refine (refint_get (some ⟨b, off, none⟩) 0 0 (xs.drop c) N kk 0 _ (HC.out.drew) (by omega) N1 HN1 HG).mono ?_); rintro o w' ⟨rfl, rfl⟩))
          go_wp2
          go_ret
          refine ⟨N1, c + kk, 0, rfl, by rw [RR.out]; exact R2.out, ?_, (Fr.refl (fun j => j = R) w).drew.setCell (p := ⟨R, 1, none⟩) (fun _ => rfl) _, by simp⟩
          exact ⟨by go_simp, by go_simp, by go_simp, by go_simp, by go_simp, HB.out.drew.setR hdr hRs 1 _, hdr, hnc, hcm, hnm0, by simp, hkk⟩
        · have b0 : (E == 0) = false := by simpa using hE
          have b1 : (E != 0) = true := by simpa using hE
          have R2 : Hk (stpC (Wr.unzig N) kk E lo hi c 0 = (0, c, E)) := ⟨by unfold stpC; simp [hE]⟩
          clear hE
          go_enter Try.func50, Try.ntmps50
          go_wp2
          go_region_held3 (fun w' => w'.cell? ⟨R, 0, none⟩ = some (.slice (some ⟨b, off, none⟩) c c) ∧ w'.cell? ⟨R, 1, none⟩ = some (.int .i64 c)) (first | exact ⟨by go_simp, by go_simp⟩ | go_keep) (first | (go_at_call 63; go_must (refine (refint_get (some ⟨b, off, none⟩) 0 0 (xs.drop c) N kk E _ (HC.out.drew) (by omega) N1 HN1 HG).mono ?_); rintro o w' ⟨rfl, rfl⟩))
          go_wp2
          go_ret
          refine ⟨0, c, E, rfl, by rw [RR.out]; exact R2.out, ?_, (Fr.refl (fun j => j = R) w).drew.setCell (p := ⟨R, 2, none⟩) (fun _ => rfl) _, by simp⟩
          exact ⟨by go_simp, by go_simp, by go_simp, by go_simp, by go_simp, HB.out.drew.setR hdr hRs 2 _, hdr, hnc, hcm, hnm0, by simp, hle⟩
      · have HC := Hk.mk ((HB.out.tail hle).mono hlt)
        clear h0
        by_cases hE : E = 0
        · subst hE
          by_cases h1 : N1 < lo
          · have b0 : decide (N1 < lo) = true := by simpa using h1
            have R2 : Hk (stpC (Wr.unzig N) kk 0 lo hi at_ 0 = (0, at_, 1)) := ⟨by unfold stpC; rw [HN1.out]; simp [h1]⟩
            clear h1
            go_enter Try.func50, Try.ntmps50
            go_wp2
            go_region_held3 (fun w' => w'.cell? ⟨R, 0, none⟩ = some (.slice (some ⟨b, off, none⟩) n c) ∧ w'.cell? ⟨R, 1, none⟩ = some (.int .i64 at_)) (first | exact ⟨by go_simp, by go_simp⟩ | go_keep) (first | (go_at_call 63; go_must (refine (refint_get (some ⟨b, off + at_, none⟩) (n - at_) (c - at_) (xs.drop at_) N kk 0 _ (HC.out.drew) (by omega) N1 HN1 HG).mono ?_); rintro o w' ⟨rfl, rfl⟩))
            go_wp2
            go_ret
            refine ⟨0, at_, 1, rfl, by rw [RR.out]; exact R2.out, ?_, (Fr.refl (fun j => j = R) w).drew.setCell (p := ⟨R, 2, none⟩) (fun _ => rfl) _, by simp⟩
            exact ⟨by go_simp, by go_simp, by go_simp, by go_simp, by go_simp, HB.out.drew.setR hdr hRs 2 _, hdr, hnc, hcm, hnm0, by simp, hle⟩
          have b0 : decide (N1 < lo) = false := by simpa using h1
          by_cases h2 : hi < N1
          · have b1 : decide (hi < N1) = true := by simpa using h2
            have R2 : Hk (stpC (Wr.unzig N) kk 0 lo hi at_ 0 = (0, at_, 1)) := ⟨by unfold stpC; rw [HN1.out]; simp [h2]⟩
            clear h1 h2
            go_enter Try.func50, Try.ntmps50
            go_wp2
            go_region_held3 (fun w' => w'.cell? ⟨R, 0, none⟩ = some (.slice (some ⟨b, off, none⟩) n c) ∧ w'.cell? ⟨R, 1, none⟩ = some (.int .i64 at_)) (first | exact ⟨by go_simp, by go_simp⟩ | go_keep) (first | (go_at_call 63; go_must (refine (refint_get (some ⟨b, off + at_, none⟩) (n - at_) (c - at_) (xs.drop at_) N kk 0 _ (HC.out.drew) (by omega) N1 HN1 HG).mono ?_); rintro o w' ⟨rfl, rfl⟩))
            go_wp2
            go_ret
            refine ⟨0, at_, 1, rfl, by rw [RR.out]; exact R2.out, ?_, (Fr.refl (fun j => j = R) w).drew.setCell (p := ⟨R, 2, none⟩) (fun _ => rfl) _, by simp⟩
            exact ⟨by go_simp, by go_simp, by go_simp, by go_simp, by go_simp, HB.out.drew.setR hdr hRs 2 _, hdr, hnc, hcm, hnm0, by simp, hle⟩
          have b1 : decide (hi < N1) = false := by simpa using h2
          have R2 : Hk (stpC (Wr.unzig N) kk 0 lo hi at_ 0 = (N1, at_ + kk, 0)) := ⟨by unfold stpC; rw [HN1.out]; simp; omega⟩
          clear h1 h2
          go_enter Try.func50, Try.ntmps50
          go_wp2
          go_region_held3 (fun w' => w'.cell? ⟨R, 0, none⟩ = some (.slice (some ⟨b, off, none⟩) n c) ∧ w'.cell? ⟨R, 1, none⟩ = some (.int .i64 at_)) (first | exact ⟨by go_simp, by go_simp⟩ | go_keep) (first | (go_at_call 63; go_must (refine (refint_get (some ⟨b, off + at_, none⟩) (n - at_) (c - at_) (xs.drop at_) N kk 0 _ (HC.out.drew) (by omega) N1 HN1 HG).mono ?_); rintro o w' ⟨rfl, rfl⟩))
          go_wp2
          go_ret
          refine ⟨N1, at_ + kk, 0, rfl, by rw [RR.out]; exact R2.out, ?_, (Fr.refl (fun j => j = R) w).drew.setCell (p := ⟨R, 1, none⟩) (fun _ => rfl) _, by simp⟩
          exact ⟨by go_simp, by go_simp, by go_simp, by go_simp, by go_simp, HB.out.drew.setR hdr hRs 1 _, hdr, hnc, hcm, hnm0, by simp, hkk⟩
        · have b0 : (E == 0) = false := by simpa using hE
          have b1 : (E != 0) = true := by simpa using hE
          have R2 : Hk (stpC (Wr.unzig N) kk E lo hi at_ 0 = (0, at_, E)) := ⟨by unfold stpC; simp [hE]⟩
          clear hE
          go_enter Try.func50, Try.ntmps50
          go_wp2
          go_region_held3 (fun w' => w'.cell? ⟨R, 0, none⟩ = some (.slice (some ⟨b, off, none⟩) n c) ∧ w'.cell? ⟨R, 1, none⟩ = some (.int .i64 at_)) (first | exact ⟨by go_simp, by go_simp⟩ | go_keep) (first | (go_at_call 63; go_must (refine (refint_get (some ⟨b, off + at_, none⟩) (n - at_) (c - at_) (xs.drop at_) N kk E _ (HC.out.drew) (by omega) N1 HN1 HG).mono ?_); rintro o w' ⟨rfl, rfl⟩))
          go_wp2
          go_ret
          refine ⟨0, at_, E, rfl, by rw [RR.out]; exact R2.out, ?_, (Fr.refl (fun j => j = R) w).drew.setCell (p := ⟨R, 2, none⟩) (fun _ => rfl) _, by simp⟩
          exact ⟨by go_simp, by go_simp, by go_simp, by go_simp, by go_simp, HB.out.drew.setR hdr hRs 2 _, hdr, hnc, hcm, hnm0, by simp, hle⟩
end Go.Proofs.Ytkffleclofkjmaa
