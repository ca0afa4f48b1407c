/- Numbers as bytes: what is read as a number are just its bytes. -/
import Derived.Test.YtmkehmeoglpkeaaPw
namespace Go.Proofs.Ytmkehmeoglpkeaa
namespace Wr
theorem getG_bytes (xs : List Int) (hx : ∀ b ∈ xs, Fn.Byt b) : ∀ (fuel i : Nat) (acc n k : Int), getG xs fuel i acc = (n, k, 0) → ∃ m : Nat, n = acc + (m : Int) * 2 ^ (7 * i) ∧ (i : Int) < k ∧ (xs.drop i).take (k.toNat - i) = numL m ∧ (0 < i → 0 < m) := by
  intro fuel
  induction fuel with
  | zero =>
    intro i acc n k h
    unfold getG at h
    injection h with h1 h2; injection h2 with h2 h3
    split at h3 <;> omega
  | succ fuel ih =>
    intro i acc n k h
    unfold getG at h
    by_cases hi : i < xs.length
    · rw [if_pos hi] at h
      have hd : xs.drop i = xs.getD i 0 :: xs.drop (i + 1) := by
        rw [List.drop_eq_getElem_cons hi]; simp [List.getD, List.getElem?_eq_getElem hi]
      have hb : Fn.Byt (xs.getD i 0) := hx _ (by
        have : xs.getD i 0 = xs[i] := by simp [List.getD, List.getElem?_eq_getElem hi]
        rw [this]; exact List.getElem_mem hi)
      unfold Fn.Byt at hb
      generalize xs.getD i 0 = x at *
      by_cases hl : x < 128
      · rw [if_pos hl] at h
        by_cases h0 : x = 0 ∧ 0 < i
        · rw [if_pos h0] at h
          injection h with h1 h2; injection h2 with h2 h3; omega
        · rw [if_neg h0] at h
          injection h with h1 h2
          injection h2 with h2 h3
          refine ⟨x.toNat, ?_, by omega, ?_, by omega⟩
          · rw [← h1, show (x.toNat : Int) = x % 128 by omega]
          · rw [hd, ← h2, show ((i : Int) + 1).toNat - i = 1 by omega, numL_low (by omega)]
            simp; omega
      · rw [if_neg hl] at h
        obtain ⟨m, hm1, hm2, hm3, hm4⟩ := ih (i + 1) _ n k h
        have hm0 := hm4 (by omega)
        refine ⟨(x % 128).toNat + 128 * m, ?_, by omega, ?_, by omega⟩
        · rw [hm1, show 7 * (i + 1) = 7 * i + 7 by omega, Int.pow_add]
          have e : (((x % 128).toNat + 128 * m : Nat) : Int) = x % 128 + 128 * m := by omega
          rw [e]
          grind
        · rw [hd, show k.toNat - i = (k.toNat - (i + 1)) + 1 by omega, List.take_succ_cons, hm3, numL_high (n := (x % 128).toNat + 128 * m) (by omega)]
          rw [show ((x % 128).toNat + 128 * m) / 128 = m by omega]
          congr 1
          omega
    · rw [if_neg hi] at h
      injection h with h1 h2; injection h2 with h2 h3
      split at h3 <;> omega
theorem getS_bytes {xs : List Int} (hx : ∀ b ∈ xs, Fn.Byt b) {n k : Int} (h : getS xs = (n, k, 0)) : xs.take k.toNat = numL n.toNat ∧ 0 ≤ n := by
  obtain ⟨m, h1, h2, h3, h4⟩ := getG_bytes xs hx 9 0 0 n k h
  simp at h1 h3
  subst h1
  exact ⟨by simpa using h3, by omega⟩
theorem zig_unzig {n : Int} (h : 0 ≤ n) : zig (unzig n) = n.toNat := by unfold zig unzig; (repeat' split) <;> omega
end Wr
end Go.Proofs.Ytmkehmeoglpkeaa
