/- Layer 4: bytes with their number ahead. -/
import Derived.Test.YtmkehmeoglpkeaaWirc
import Derived.Test.YtmkehmeoglpkeaaByd
import Derived.Test.YtmkehmeoglpkeaaFnvb
namespace Go.Proofs.Ytmkehmeoglpkeaa
open Go.RowKit
set_option linter.unusedVariables false
def rawL (xs : List Int) : List Int := Wr.numL xs.length ++ xs
def rawErr (xs : List Int) : Int := if (Wr.getS xs).2.2 = 0 then (if 1048576 < (Wr.getS xs).1 then 1 else if (xs.length : Int) - (Wr.getS xs).2.1 < (Wr.getS xs).1 then 11 else 0) else (Wr.getS xs).2.2
theorem raw_cases (xs : List Int) (hx : ∀ b ∈ xs, Fn.Byt b) : ∃ (N K : Nat) (E : Int), Hk (Wr.getS xs = ((N : Int), (K : Int), E)) ∧ K ≤ xs.length ∧ (N : Int) ≤ 9223372036854775807 ∧
    ((E ≠ 0 ∧ rawErr xs = E) ∨ (E = 0 ∧ 1 ≤ K ∧ 1048576 < N ∧ rawErr xs = 1) ∨ (E = 0 ∧ 1 ≤ K ∧ N ≤ 1048576 ∧ xs.length - K < N ∧ rawErr xs = 11) ∨ (E = 0 ∧ 1 ≤ K ∧ N ≤ 1048576 ∧ K + N ≤ xs.length ∧ rawErr xs = 0)) := by
  have hb := Wr.getS_bd hx
  unfold rawErr
  obtain ⟨R, hR⟩ : ∃ R, Wr.getS xs = R := ⟨_, rfl⟩
  rw [hR] at hb ⊢
  obtain ⟨N, K, E⟩ := R
  unfold Wr.GetOk at hb
  obtain ⟨h1, h2, h3, h4, h5, h6⟩ := hb
  simp only at h1 h2 h3 h4 h5 h6 ⊢
  obtain ⟨N, rfl⟩ := Int.eq_ofNat_of_zero_le h1
  obtain ⟨K, rfl⟩ := Int.eq_ofNat_of_zero_le h3
  refine ⟨N, K, E, ⟨rfl⟩, by omega, h2, ?_⟩
  by_cases he : E = 0
  · subst he
    rw [if_pos rfl]
    by_cases g1 : 1048576 < (N : Int)
    · rw [if_pos g1]; right; left; exact ⟨rfl, by omega, by omega, rfl⟩
    · rw [if_neg g1]
      by_cases g2 : (xs.length : Int) - (K : Int) < (N : Int)
      · rw [if_pos g2]; right; right; left; exact ⟨rfl, by omega, by omega, by omega, rfl⟩
      · rw [if_neg g2]; right; right; right; exact ⟨rfl, by omega, by omega, by omega, rfl⟩
  · rw [if_neg he]; exact .inl ⟨he, rfl⟩
def rawK (xs : List Int) : Int := (Wr.getS xs).2.1 + (Wr.getS xs).1
def rawN (xs : List Int) : Nat := (Wr.getS xs).1.toNat
def rawX (xs : List Int) : List Int := (xs.drop (Wr.getS xs).2.1.toNat).take (Wr.getS xs).1.toNat
end Go.Proofs.Ytmkehmeoglpkeaa
