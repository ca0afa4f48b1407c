/- Layer 7: a map read, stage by stage: plain; the reference's side. -/
import Derived.Test.YtmkehmeoglpkeaaMpg
namespace Go.Proofs.Ytmkehmeoglpkeaa
open Go.RowKit
set_option linter.unusedVariables false
theorem hashS_err (xs : List Int) (at_ : Nat) {e : Int} (he : e ≠ 0) : hashS xs at_ e = (at_, e) := by unfold hashS; rw [if_pos he]
theorem endS_err (n at_ : Nat) {e : Int} (he : e ≠ 0) : endS n at_ e = e := by unfold endS; rw [if_neg (by omega)]
theorem mapS_1 {xs : List Int} {a1 : Nat} {e : Int} (h1 : signS xs [84, 71] 0 0 = (a1, e)) (he : e ≠ 0) : mapS xs = (0, 0, [], e) := by
  unfold mapS
  simp only [h1, rdV_err false xs 1 128 _ he, tileS_err xs _ _ he, hashS_err xs _ he, endS_err _ _ he]
  rw [if_pos he]
theorem mapS_2 {xs : List Int} {a1 a2 : Nat} {W e : Int} (h1 : signS xs [84, 71] 0 0 = (a1, 0)) (h2 : rdV false xs 1 128 a1 0 = (W, a2, e)) (he : e ≠ 0) : mapS xs = (0, 0, [], e) := by
  unfold mapS
  simp only [h1, h2, rdV_err false xs 1 128 _ he, tileS_err xs _ _ he, hashS_err xs _ he, endS_err _ _ he]
  rw [if_pos he]
theorem mapS_3 {xs : List Int} {a1 a2 a3 : Nat} {W H e : Int} (h1 : signS xs [84, 71] 0 0 = (a1, 0)) (h2 : rdV false xs 1 128 a1 0 = (W, a2, 0)) (h3 : rdV false xs 1 128 a2 0 = (H, a3, e)) (he : e ≠ 0) : mapS xs = (0, 0, [], e) := by
  unfold mapS
  simp only [h1, h2, h3, tileS_err xs _ _ he, hashS_err xs _ he, endS_err _ _ he]
  rw [if_pos he]
theorem mapS_4 {xs : List Int} {a1 a2 a3 a4 N : Nat} {W H e : Int} (h1 : signS xs [84, 71] 0 0 = (a1, 0)) (h2 : rdV false xs 1 128 a1 0 = (W, a2, 0)) (h3 : rdV false xs 1 128 a2 0 = (H, a3, 0)) (hN : (W * H).toNat = N) (h4 : (tileS xs N a3 0).2 = (a4, e)) (he : e ≠ 0) : mapS xs = (0, 0, [], e) := by
  unfold mapS
  simp only [h1, h2, h3, hN, h4, hashS_err xs _ he, endS_err _ _ he]
  rw [if_pos he]
theorem mapS_5 {xs : List Int} {a1 a2 a3 a4 a5 N : Nat} {W H e : Int} (h1 : signS xs [84, 71] 0 0 = (a1, 0)) (h2 : rdV false xs 1 128 a1 0 = (W, a2, 0)) (h3 : rdV false xs 1 128 a2 0 = (H, a3, 0)) (hN : (W * H).toNat = N) (h4 : (tileS xs N a3 0).2 = (a4, 0)) (h5 : hashS xs a4 0 = (a5, e)) (he : e ≠ 0) : mapS xs = (0, 0, [], e) := by
  unfold mapS
  simp only [h1, h2, h3, hN, h4, h5, endS_err _ _ he]
  rw [if_pos he]
theorem mapS_6 {xs ts : List Int} {a1 a2 a3 a4 a5 N : Nat} {W H : Int} (h1 : signS xs [84, 71] 0 0 = (a1, 0)) (h2 : rdV false xs 1 128 a1 0 = (W, a2, 0)) (h3 : rdV false xs 1 128 a2 0 = (H, a3, 0)) (hN : (W * H).toNat = N) (h4 : tileS xs N a3 0 = (ts, a4, 0)) (h5 : hashS xs a4 0 = (a5, 0)) : mapS xs = if a5 < xs.length then (0, 0, [], 1) else (W, H, ts, 0) := by
  unfold mapS
  simp only [h1, h2, h3, hN, h4, h5, endS]
  by_cases h : a5 < xs.length
  · simp [h]
  · simp [h]
theorem tileS_stay {xs : List Int} {k at_ a' : Nat} {e e' : Int} (h : (tileS xs k at_ e).2 = (a', e')) (he : e' ≠ 0) (m : Nat) : (tileS xs (k + m) at_ e).2 = (a', e') := by
  induction m with
  | zero => exact h
  | succ m ih => show (byteS xs 0 5 (tileS xs (k + m) at_ e).2.1 (tileS xs (k + m) at_ e).2.2).2 = _; rw [ih]; simp only [byteS_err he]
theorem tileS_stop {xs ts : List Int} {k N at_ a1 : Nat} {e : Int} (hk : k < N) (h : tileS xs k at_ 0 = (ts, a1, 0)) (hb : (byteS xs 0 5 a1 0).2 = (a1, e)) (he : e ≠ 0) : (tileS xs N at_ 0).2 = (a1, e) := by
  have h1 : (tileS xs (k + 1) at_ 0).2 = (a1, e) := by simp only [tileS, h]; exact hb
  have h2 := tileS_stay h1 he (N - (k + 1))
  rwa [show k + 1 + (N - (k + 1)) = N by omega] at h2
theorem signS_stop {xs L : List Int} {k at_ a1 : Nat} {e x : Int} (hk : k < L.length) (h : signS xs (L.take k) at_ 0 = (a1, 0)) (hx : L.getD k 0 = x) (hb : (byteS xs x x a1 0).2 = (a1, e)) (he : e ≠ 0) : signS xs L at_ 0 = (a1, e) := by
  have h1 : L = L.take k ++ (x :: L.drop (k + 1)) := by
    rw [← hx]
    have h2 : L.getD k 0 = L[k] := by simp [List.getD, List.getElem?_eq_getElem hk]
    rw [h2, List.getElem_cons_drop, List.take_append_drop]
  rw [h1, signS_append]
  have h3 : (L.take k ++ (x :: L.drop (k + 1))).take k = L.take k := by rw [← h1]
  rw [h]
  show signS xs (L.drop (k + 1)) (byteS xs x x a1 0).2.1 (byteS xs x x a1 0).2.2 = _
  rw [hb]
  exact signS_err _ _ _ he
theorem signS_go {xs L : List Int} {k at_ a1 : Nat} {x : Int} (hk : k < L.length) (h : signS xs (L.take k) at_ 0 = (a1, 0)) (hx : L.getD k 0 = x) (hl : a1 < xs.length) (hb : xs.getD a1 0 = x) : signS xs (L.take (k + 1)) at_ 0 = (a1 + 1, 0) := by
  rw [take_get hk, hx, signS_append, h, signS_one, byteS_hit hl hb (by omega) (by omega)]
theorem tileS_go {xs ts : List Int} {k at_ a1 : Nat} {x : Int} (h : tileS xs k at_ 0 = (ts, a1, 0)) (hl : a1 < xs.length) (hb : xs.getD a1 0 = x) (h0 : 0 ≤ x) (h5 : x ≤ 5) : tileS xs (k + 1) at_ 0 = (ts ++ [x], a1 + 1, 0) := by
  simp only [tileS, h, byteS_hit hl hb h0 h5]
/-- A side of a map: the number, its bytes, the error. -/
def sideS (xs : List Int) : Int × Int × Int := if (Wr.getS xs).2.2 = 0 ∧ ((Wr.getS xs).1 < 1 ∨ 128 < (Wr.getS xs).1) then (0, 0, 1) else Wr.getS xs
theorem side_rd {xs : List Int} (hx : ∀ b ∈ xs, Fn.Byt b) {at_ : Nat} {n k e : Int} (h : sideS (xs.drop at_) = (n, k, e)) : rdV false xs 1 128 at_ 0 = (n, at_ + k.toNat, e) ∧ 0 ≤ n ∧ n ≤ 128 ∧ 0 ≤ k ∧ k ≤ (xs.drop at_).length := by
  have hb := Wr.getS_bd (xs := xs.drop at_) (fun b hb => hx b (List.mem_of_mem_drop hb))
  unfold sideS at h
  unfold rdV stpC
  obtain ⟨G, hG⟩ : ∃ G, Wr.getS (xs.drop at_) = G := ⟨_, rfl⟩
  obtain ⟨N, K, E⟩ := G
  rw [hG] at h hb ⊢
  obtain ⟨b1, b2, b3, b4, b5, b6⟩ := hb
  simp only [Bool.false_eq_true, if_false] at h ⊢
  rw [if_neg (by omega)]
  by_cases q : E = 0 ∧ (N < 1 ∨ 128 < N)
  · rw [if_pos q] at h
    simp only [Prod.mk.injEq] at h
    obtain ⟨rfl, rfl, rfl⟩ := h
    rw [if_neg (by omega), if_pos q.2]
    simp
  · rw [if_neg q] at h
    simp only [Prod.mk.injEq] at h
    obtain ⟨rfl, rfl, rfl⟩ := h
    by_cases qe : E = 0
    · subst qe
      rw [if_neg (by omega), if_neg (by omega)]
      exact ⟨rfl, by omega, by omega, b3, b4⟩
    · rw [if_pos (by omega)]
      rcases b6 with b6 | ⟨b7, rfl, rfl⟩
      · exact absurd b6.1 qe
      · exact ⟨by simp, by omega, by omega, by omega, by omega⟩
theorem rside_as (N K E : Int) (a : Option Addr) (n c : Nat) (xs : List Int) (w : World) (h : By w w.heap.size a n xs) (hn : n ≤ 1099511627776) (S : Hk (sideS xs = (N, K, E))) :
    Calls Try.prog 35 #[.slice a n c] w fun e w' => e = .returned (.tuple #[.int .i64 N, .int .i64 K, .int .i64 E]) ∧ w = w' := by
  have HY := Hk.mk h
  clear h
  obtain ⟨G, hG⟩ : ∃ G, Wr.getS xs = G := ⟨_, rfl⟩
  obtain ⟨N0, K0, E0⟩ := G
  have HG := Hk.mk hG
  have hs := S.out
  unfold sideS at hs
  rw [hG] at hs
  clear S hG
  simp only at hs
  by_cases qe : E0 = 0
  · subst qe
    by_cases q1 : N0 < 1
    · have z1 : decide (N0 < 1) = true := by simpa using q1
      rw [if_pos ⟨rfl, .inl q1⟩] at hs
      simp only [Prod.mk.injEq] at hs
      obtain ⟨rfl, rfl, rfl⟩ := hs
      go_enter Try.func35, Try.ntmps35
      go_wp2_with (go_at_call 44; (with_reducible refine (rgetnum_any a n c xs _ HY.out hn).mono ?_); rw [HG.out]; rintro e w' ⟨rfl, rfl⟩)
      go_ret3
      exact ⟨rfl, rfl⟩
    · have z1 : decide (N0 < 1) = false := by simpa using q1
      by_cases q2 : 128 < N0
      · have z2 : decide (128 < N0) = true := by simpa using q2
        rw [if_pos ⟨rfl, .inr q2⟩] at hs
        simp only [Prod.mk.injEq] at hs
        obtain ⟨rfl, rfl, rfl⟩ := hs
        go_enter Try.func35, Try.ntmps35
        go_wp2_with (go_at_call 44; (with_reducible refine (rgetnum_any a n c xs _ HY.out hn).mono ?_); rw [HG.out]; rintro e w' ⟨rfl, rfl⟩)
        go_ret3
        exact ⟨rfl, rfl⟩
      · have z2 : decide (128 < N0) = false := by simpa using q2
        rw [if_neg (by omega)] at hs
        simp only [Prod.mk.injEq] at hs
        obtain ⟨rfl, rfl, rfl⟩ := hs
        go_enter Try.func35, Try.ntmps35
        go_wp2_with (go_at_call 44; (with_reducible refine (rgetnum_any a n c xs _ HY.out hn).mono ?_); rw [HG.out]; rintro e w' ⟨rfl, rfl⟩)
        go_ret3
        exact ⟨rfl, rfl⟩
  · have z0 : (E0 == 0) = false := by simpa using qe
    rw [if_neg (by omega)] at hs
    simp only [Prod.mk.injEq] at hs
    obtain ⟨rfl, rfl, rfl⟩ := hs
    go_enter Try.func35, Try.ntmps35
    go_wp2_with (go_at_call 44; (with_reducible refine (rgetnum_any a n c xs _ HY.out hn).mono ?_); rw [HG.out]; rintro e w' ⟨rfl, rfl⟩)
    go_ret3
    exact ⟨rfl, rfl⟩
end Go.Proofs.Ytmkehmeoglpkeaa
