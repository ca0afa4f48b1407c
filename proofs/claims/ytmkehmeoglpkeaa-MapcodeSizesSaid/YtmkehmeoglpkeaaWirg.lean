/- Layer 4: bytes compared that are known to differ; how many bytes a number has. -/
import Derived.Test.YtmkehmeoglpkeaaWirf
namespace Go.Proofs.Ytmkehmeoglpkeaa
open Go.RowKit
set_option linter.unusedVariables false
theorem eqb_no (a a' : Option Addr) (n n' c c' : Nat) (xs ys : List Int) (w : World) (h : By w w.heap.size a n xs) (h' : By w w.heap.size a' n' ys) (hn : n ≤ 1099511627776) (hn' : n' ≤ 1099511627776) (hne : xs ≠ ys) :
    Calls Try.prog 12 #[.slice a n c, .slice a' n' c'] w fun e w' => e = .returned (.bool false) ∧ ∃ m, w' = w.drewN m := by
  have H := Hk.mk h
  have H' := Hk.mk h'
  have HNE := Hk.mk hne
  clear h h' hne
  by_cases hl : n = n'
  · subst hl
    go_enter Try.func12, Try.ntmps12
    go_wp2
    go_loopw [5] (fun i wr => ∃ k : Nat, k ≤ n ∧ i = .int .i64 k ∧ Hk (∃ m, wr = w.drewN m) ∧ Hk (∀ j, j < k → xs.getD j 0 = ys.getD j 0)) (fun i _ => n - (intOf i).toNat)
    case atStart => exact ⟨0, Nat.zero_le _, rfl, ⟨0, rfl⟩, ⟨fun j hj => absurd hj (by omega)⟩⟩
    case round =>
      obtain ⟨k, hk, rfl, HB, HS⟩ := hrel
      by_cases hlt : k < n
      · obtain ⟨b, off, rfl, hbl, hc⟩ := H.out.at_ (by omega)
        obtain ⟨b', off', rfl, hbl', hc'⟩ := H'.out.at_ (by omega)
        have hcx : wr.cell? ⟨b, off + k, none⟩ = some (.int .u8 (xs.getD k 0)) := by obtain ⟨m, rfl⟩ := HB.out; exact hc k hlt
        have hcy : wr.cell? ⟨b', off' + k, none⟩ = some (.int .u8 (ys.getD k 0)) := by obtain ⟨m, rfl⟩ := HB.out; exact hc' k hlt
        clear hc hc'
        obtain ⟨x, hx⟩ : ∃ x, xs.getD k 0 = x := ⟨_, rfl⟩
        obtain ⟨y, hy⟩ : ∃ y, ys.getD k 0 = y := ⟨_, rfl⟩
        rw [hx] at hcx
        rw [hy] at hcy
        have HX := Hk.mk hx
        have HY := Hk.mk hy
        clear hx hy
        have i1 : (0 : Int) ≤ (k : Int) := by omega
        have i2 : (k : Int) < (n : Int) := by omega
        by_cases hxy : x = y
        · subst hxy
          go_wp2
          go_quiet (fail)
          go_wp2
          go_roundw
          case rel => exact ⟨k + 1, by omega, by go_num, ⟨by obtain ⟨m, rfl⟩ := HB.out; exact ⟨_, by rw [World.drewN_drewN]⟩⟩, ⟨fun j hj => by
            by_cases e : j = k
            · subst e; rw [HX.out, HY.out]
            · exact HS.out j (by omega)⟩⟩
          case measure => simp [intOf]; omega
        · have q1 : (x == y) = false := by simpa using hxy
          have q2 : (x != y) = true := by simpa using hxy
          clear hxy
          go_wp2
          go_quiet (fail)
          go_wp2
          go_ret
          exact ⟨rfl, by obtain ⟨m, rfl⟩ := HB.out; exact ⟨_, by rw [World.drewN_drewN]⟩⟩
      · have hkn : k = n := by omega
        subst hkn
        exfalso
        exact HNE.out (eq_of_getD (H.out.len.trans H'.out.len.symm) (fun j hj => HS.out j (by rw [H.out.len] at hj; exact hj)))
  · have q1 : ((n : Int) == (n' : Int)) = false := by simp; omega
    have q2 : ((n : Int) != (n' : Int)) = true := by simp; omega
    go_enter Try.func12, Try.ntmps12
    go_wp2
    go_ret
    exact ⟨rfl, 0, rfl⟩
theorem Wr.numL_len_eq {n k : Nat} (h : n < 128 ^ (k + 1)) (h2 : k = 0 ∨ 128 ^ k ≤ n) : (Wr.numL n).length = k + 1 := by
  induction k generalizing n with
  | zero => rw [Wr.numL_low (by simpa using h)]; rfl
  | succ k ih =>
    have h3 : 128 ^ (k + 1) ≤ n := by rcases h2 with h2 | h2; omega; exact h2
    have hp : 0 < 128 ^ k := Nat.pow_pos (by omega)
    have e1 : 128 ^ (k + 1) = 128 ^ k * 128 := Nat.pow_succ ..
    have e2 : 128 ^ (k + 1 + 1) = 128 ^ (k + 1) * 128 := Nat.pow_succ ..
    rw [Wr.numL_high (by omega)]
    simp only [List.length_cons]
    rw [ih (n := n / 128) (by omega) (by right; omega)]
theorem Wr.numL_mono {m n : Nat} (h : m ≤ n) : (Wr.numL m).length ≤ (Wr.numL n).length := by
  induction n using Nat.strongRecOn generalizing m with
  | _ n ih =>
    rcases Nat.lt_or_ge m 128 with h1 | h1
    · rw [Wr.numL_low h1]; exact Wr.numL_pos n
    · rw [Wr.numL_high h1, Wr.numL_high (n := n) (by omega)]
      simp only [List.length_cons]
      have := @ih (n / 128) (by omega) (m / 128) (by omega)
      omega
end Go.Proofs.Ytmkehmeoglpkeaa
