/- Plain arithmetic for layer 2 (vec): squares, lengths, orders. -/
import Derived.Test.YtgmhalcofcokbaaFv
namespace Go.Proofs.Ytgmhalcofcokbaa.Fx
set_option linter.unusedVariables false
theorem add_zero {a : Int} (h : I64 a) : addS a 0 = cnt a := by
  have h1 := cnt_bd h
  unfold addS; rw [show cnt 0 = 0 by decide, Int.add_zero]; exact clamp_in h1
def SQ (a b : Int) : Int := sz a * sz a + sz b * sz b
theorem SQ_bd {a b : Int} (ha : I64 a) (hb : I64 b) : 0 ≤ SQ a b ∧ SQ a b ≤ 170141183460469231694793815568465002498 := by
  have h1 := prod_bd (sz_bd ha) (sz_bd ha)
  have h2 := prod_bd (sz_bd hb) (sz_bd hb)
  unfold SQ; omega
theorem SQ_parts (x y : Int) (hx : 0 ≤ x) (hy : 0 ≤ y) : x / 18446744073709551616 + y / 18446744073709551616 + (x % 18446744073709551616 + y % 18446744073709551616) / 18446744073709551616 = (x + y) / 18446744073709551616 ∧
    (x % 18446744073709551616 + y % 18446744073709551616) % 18446744073709551616 = (x + y) % 18446744073709551616 := by omega
/-- The greatest number up to m whose square is at most T. -/
structure IsRootUpto (T m R : Int) : Prop where
  R0 : 0 ≤ R
  top : R ≤ m
  lo : R * R ≤ T
  hi : T < (R + 1) * (R + 1) ∨ R = m
theorem upto_lt {T m S N : Int} (h : IsRootUpto T m S) (n0 : 0 ≤ N) (hT : T < N * N) : S < N := sq_lt h.R0 (Int.lt_of_le_of_lt h.lo hT) n0
theorem upto_ge {T m S N B : Int} (h : IsRootUpto T m S) (n0 : 0 ≤ N) (nB : N ≤ B) (Bm : B ≤ m) (hT : ¬ T < N * N) : N ≤ S := by
  rcases h.hi with hh | hh
  · have := sq_lt n0 (Int.lt_of_le_of_lt (by omega) hh) (by have := h.R0; omega)
    omega
  · omega
def vlessS (a b c d : Int) : Bool := decide (cmpS a c < 0) || (decide (cmpS a c = 0) && decide (cmpS b d < 0))
noncomputable def rootS (T : Int) : Int := if h : 0 ≤ T then Classical.choose (root_ex h) else 0
theorem rootS_root {T : Int} (h : 0 ≤ T) : IsRoot T (rootS T) := by
  unfold rootS; rw [dif_pos h]; exact Classical.choose_spec (root_ex h)
theorem rootS_of {T R : Int} (h : IsRoot T R) : rootS T = R := by
  have h0 : 0 ≤ T := Int.le_trans (Int.mul_nonneg h.R0 h.R0) h.lo
  exact (rootS_root h0).uniq h
noncomputable def lenS (a b : Int) : Int := if 9223372036854775807 < rootS (SQ a b) then 9223372036854775807 else rootS (SQ a b)
theorem rootS_bd {a b : Int} (ha : I64 a) (hb : I64 b) : 0 ≤ rootS (SQ a b) ∧ rootS (SQ a b) ≤ 18446744073709551615 := by
  have hs := SQ_bd ha hb
  have hr := rootS_root hs.1
  refine ⟨hr.R0, ?_⟩
  have := sq_lt hr.R0 (b := 18446744073709551616) (by have := hr.lo; omega) (by omega)
  omega
theorem lenS_bd {a b : Int} (ha : I64 a) (hb : I64 b) : 0 ≤ lenS a b ∧ lenS a b ≤ 9223372036854775807 := by
  have := rootS_bd ha hb
  unfold lenS; split <;> omega
end Go.Proofs.Ytgmhalcofcokbaa.Fx
