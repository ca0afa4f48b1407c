import Derived.Test.YtdpblimhfmfbnaaZsp
import Derived.IntWalk
set_option linter.unusedVariables false
set_option linter.unusedSimpArgs false
namespace Go.Proofs.Ytdpblimhfmfbnaa.Fx
def under (a : Int) : Int := if a < 0 then 0 else a * 65536
theorem under_nonneg (a : Int) : 0 ≤ under a := by unfold under; split <;> omega
noncomputable def sqrtS (a : Int) : Int := Classical.choose (root_ex (under_nonneg a))
end Go.Proofs.Ytdpblimhfmfbnaa.Fx
namespace Go.Proofs.Ytdpblimhfmfbnaa.Fx
theorem neg_div (p d : Int) (hd : 1 ≤ d) : (-p) / d = -(p / d) - (if 0 < p % d then 1 else 0) := by
 have h := Int.mul_ediv_add_emod p d
 have h0 : 0 ≤ p % d := Int.emod_nonneg _ (by omega)
 have h1 : p % d < d := Int.emod_lt_of_pos _ (by omega)
 by_cases hr : 0 < p % d
 ·rw [if_pos hr]
  refine ((Int.ediv_emod_unique (r := d - p % d) (by omega)).2 ⟨?_, by omega, by omega⟩).1
  rw [Int.mul_sub, Int.mul_neg, Int.mul_one]; omega
 ·rw [if_neg hr]
  refine ((Int.ediv_emod_unique (r := 0) (by omega)).2 ⟨?_, by omega, by omega⟩).1
  rw [Int.mul_sub, Int.mul_neg, Int.mul_zero]; omega
theorem endS_f (p d : Int) (hd : 1 ≤ d) (hp : 0 ≤ p) : endS (p / d) false (p % d) = clampM (p / d) := by
 have h0 : 0 ≤ p / d := Int.ediv_nonneg hp (by omega)
 unfold endS clampM Most; simp; split <;> (try split) <;> omega
theorem endS_t (p d : Int) (hd : 1 ≤ d) (hp : 0 ≤ p) : endS (p / d) true (p % d) = clampM ((-p) / d) := by
 have h0 : 0 ≤ p / d := Int.ediv_nonneg hp (by omega)
 have h1 : 0 ≤ p % d := Int.emod_nonneg _ (by omega)
 rw [neg_div p d hd]
 unfold endS clampM Most
 by_cases hr : 0 < p % d
 ·simp [hr]; (repeat' split) <;> omega
 ·simp [hr]; (repeat' split) <;> omega
theorem sz_cases {a : Int} (h : I64 a) : (decide (a < 0) = true ∧ sz a = -(cnt a) ∧ cnt a < 0) ∨ (decide (a < 0) = false ∧ sz a = cnt a ∧ 0 ≤ cnt a) := by
 have := cnt_sign h
 unfold sz
 by_cases hn : a < 0
 ·left; exact ⟨by simpa using hn, by rw [if_pos (by omega)], by omega⟩
 ·right; exact ⟨by simpa using hn, by rw [if_neg (by omega)], by omega⟩
theorem mulS_floor {a b : Int} (ha : I64 a) (hb : I64 b) : mulS a b = clampM (cnt a * cnt b / 65536) := by
 have hp := (prod_bd (sz_bd ha) (sz_bd hb)).1
 unfold mulS
 rcases sz_cases ha with ⟨sa, ea, _⟩ | ⟨sa, ea, _⟩ <;> rcases sz_cases hb with ⟨sb, eb, _⟩ | ⟨sb, eb, _⟩ <;> rw [sa, sb, ea, eb] <;> rw [ea, eb] at hp
 ·simp only [bne_self_eq_false]; rw [endS_f _ _ (by omega) hp, Int.neg_mul_neg]
 ·rw [show (true != false) = true from rfl, endS_t _ _ (by omega) hp, Int.neg_mul, Int.neg_neg]
 ·rw [show (false != true) = true from rfl, endS_t _ _ (by omega) hp, Int.mul_neg, Int.neg_neg]
 ·simp only [bne_self_eq_false]; rw [endS_f _ _ (by omega) hp]
theorem clamp_in {x : Int} (h : -9223372036854775807 ≤ x ∧ x ≤ 9223372036854775807) : clampM x = x := by unfold clampM Most; (repeat' split) <;> omega
theorem cnt_in {x : Int} (h : -9223372036854775807 ≤ x) : cnt x = x := by unfold cnt Most; rw [if_neg (by omega)]
theorem one_i64 : I64 65536 := by unfold I64; omega
theorem cnt_one : cnt 65536 = 65536 := by decide
theorem mul_one {a : Int} (ha : I64 a) : mulS a 65536 = cnt a := by
 have h1 := cnt_bd ha
 rw [mulS_floor ha one_i64, cnt_one, Int.mul_ediv_cancel _ (by omega)]; exact clamp_in h1
theorem add_comm (a b : Int) : addS a b = addS b a := by unfold addS; rw [Int.add_comm]
theorem mul_comm {a b : Int} (ha : I64 a) (hb : I64 b) : mulS a b = mulS b a := by rw [mulS_floor ha hb, mulS_floor hb ha, Int.mul_comm]
end Go.Proofs.Ytdpblimhfmfbnaa.Fx
namespace Go.Proofs.Ytdpblimhfmfbnaa.Fx
end Go.Proofs.Ytdpblimhfmfbnaa.Fx
namespace Go.Proofs.Ytdpblimhfmfbnaa.Fx
theorem add_zero {a : Int} (h : I64 a) : addS a 0 = cnt a := by
 have h1 := cnt_bd h
 unfold addS; rw [show cnt 0 = 0 by decide, Int.add_zero]; exact clamp_in h1
def SQ (a b : Int) : Int := sz a * sz a + sz b * sz b
structure IsRootUpto (T m R : Int) : Prop where
 R0 : 0 ≤ R
 top : R ≤ m
 lo : R * R ≤ T
 hi : T < (R + 1) * (R + 1) ∨ R = m
def vlessS (a b c d : Int) : Bool := decide (cmpS a c < 0) || (decide (cmpS a c = 0) && decide (cmpS b d < 0))
noncomputable def rootS (T : Int) : Int := if h : 0 ≤ T then Classical.choose (root_ex h) else 0
noncomputable def lenS (a b : Int) : Int := if 9223372036854775807 < rootS (SQ a b) then 9223372036854775807 else rootS (SQ a b)
end Go.Proofs.Ytdpblimhfmfbnaa.Fx
namespace Go.Proofs.Ytdpblimhfmfbnaa.Fx
end Go.Proofs.Ytdpblimhfmfbnaa.Fx
namespace Go.Proofs.Ytdpblimhfmfbnaa.Fx
def withinS (a b c d r : Int) : Bool := decide (0 ≤ r) && decide (SQ (subS a c) (subS b d) < r * r)
theorem sub_self {a : Int} (h : I64 a) : subS a a = 0 := by
 have h1 := cnt_bd h
 unfold subS addS negS
 rw [cnt_in (x := -cnt a) (by omega), show cnt a + -cnt a = 0 by omega]
 decide
end Go.Proofs.Ytdpblimhfmfbnaa.Fx
