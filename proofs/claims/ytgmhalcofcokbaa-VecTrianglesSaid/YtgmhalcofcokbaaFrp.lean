/- What is made shorter, as numbers. -/
import Derived.Test.YtgmhalcofcokbaaFs
namespace Go.Proofs.Ytgmhalcofcokbaa.Fx
set_option linter.unusedVariables false
/-- A part of a number: c times m by n, towards 0. -/
def partS (c m n : Int) : Int := if c < 0 then -(sz c * m / n) else sz c * m / n
theorem part_q {c m n : Int} (hc : I64 c) (hm : 0 ≤ m) (hn : m < n) : 0 ≤ sz c * m / n ∧ sz c * m / n ≤ sz c := by
  have hs := sz_bd hc
  have hp := Int.mul_nonneg hs.1 hm
  refine ⟨Int.ediv_nonneg hp (by omega), ?_⟩
  have h1 : sz c * m ≤ sz c * n := Int.mul_le_mul_of_nonneg_left (by omega) hs.1
  have h2 := Int.ediv_le_ediv (c := n) (by omega) h1
  rwa [Int.mul_ediv_cancel _ (by omega)] at h2
theorem part_bd {c m n : Int} (hc : I64 c) (hm : 0 ≤ m) (hn : m < n) : -9223372036854775807 ≤ partS c m n ∧ partS c m n ≤ 9223372036854775807 := by
  have h := part_q hc hm hn
  have hs := sz_bd hc
  unfold partS; split <;> omega
theorem part_i64 {c m n : Int} (hc : I64 c) (hm : 0 ≤ m) (hn : m < n) : I64 (partS c m n) := i64_bd (part_bd hc hm hn)
theorem sgS_part {c m n : Int} (hc : I64 c) (hm : 0 ≤ m) (hn : m < n) : sgS (ovQ (sz c * m) n) (decide (c < 0)) false = partS c m n := by
  have h := part_q hc hm hn
  have hs := sz_bd hc
  have e1 : ovQ (sz c * m) n = sz c * m / n := by unfold ovQ; rw [if_neg (by omega)]
  rw [e1]
  unfold sgS partS Most
  generalize sz c * m / n = q at *
  by_cases h0 : c < 0
  · rw [if_pos (by simpa using h0), if_neg (by simp), if_neg (by omega), if_pos h0]
  · rw [if_neg (by simpa using h0), if_neg (by omega), if_neg h0]
theorem sz_cnt {a : Int} (h : I64 a) : sz (cnt a) = sz a := by
  have h1 := cnt_bd h
  unfold sz; rw [cnt_in h1.1]
theorem SQ_cnt {a b : Int} (ha : I64 a) (hb : I64 b) : SQ (cnt a) (cnt b) = SQ a b := by unfold SQ; rw [sz_cnt ha, sz_cnt hb]
theorem lenS_cnt {a b : Int} (ha : I64 a) (hb : I64 b) : lenS (cnt a) (cnt b) = lenS a b := by unfold lenS; rw [SQ_cnt ha hb]
theorem part_cnt {c m n : Int} (hc : I64 c) : partS (cnt c) m n = partS c m n := by
  have := cnt_sign hc
  unfold partS; rw [sz_cnt hc]
  by_cases h : c < 0
  · rw [if_pos h, if_pos (by omega)]
  · rw [if_neg h, if_neg (by omega)]
def most0 (k : Int) : Int := if k < 0 then 0 else k
noncomputable def clampX (a b k : Int) : Int := if lenS a b ≤ most0 k then cnt a else partS a (most0 k) (lenS a b)
noncomputable def clampY (a b k : Int) : Int := if lenS a b ≤ most0 k then cnt b else partS b (most0 k) (lenS a b)
end Go.Proofs.Ytgmhalcofcokbaa.Fx
