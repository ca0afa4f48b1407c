import Derived.Test.YtcgilmjhbdehpaaZbe
import Derived.IntWalk
import Derived.Test.YtcgilmjhbdehpaaZbb
import Derived.WalkKit
import Derived.WalkSpells
import Derived.WalkLawsBesides
import Derived.Test.YtcgilmjhbdehpaaRows
/- Plain arithmetic for layer 2 (vec): squares, lengths, orders. -/
namespace Go.Proofs.Ytcgilmjhbdehpaa.Fx
set_option linter.unusedVariables false
theorem add_zero {a : Int} (h : I64 a) : addS a 0 = cnt a := by
  have h1 := cnt_bd h
  unfold addS; rw [show cnt 0 = 0 by decide, Int.add_zero]; exact clamp_in h1
def SQ (a b : Int) : Int := sz a * sz a + sz b * sz b
theorem SQ_bd {a b : Int} (ha : I64 a) (hb : I64 b) : 0 ≤ SQ a b ∧ SQ a b ≤ 170141183460469231694793815568465002498 := by
  have h1 := prod_bd (sz_bd ha) (sz_bd ha)
  have h2 := prod_bd (sz_bd hb) (sz_bd hb)
  unfold SQ; omega
theorem SQ_parts (x y : Int) (hx : 0 ≤ x) (hy : 0 ≤ y) : x / 18446744073709551616 + y / 18446744073709551616 + (x % 18446744073709551616 + y % 18446744073709551616) / 18446744073709551616 = (x + y) / 18446744073709551616 ∧
    (x % 18446744073709551616 + y % 18446744073709551616) % 18446744073709551616 = (x + y) % 18446744073709551616 := by omega
/-- The greatest number up to m whose square is at most T. -/
structure IsRootUpto (T m R : Int) : Prop where
  R0 : 0 ≤ R
  top : R ≤ m
  lo : R * R ≤ T
  hi : T < (R + 1) * (R + 1) ∨ R = m
theorem upto_lt {T m S N : Int} (h : IsRootUpto T m S) (n0 : 0 ≤ N) (hT : T < N * N) : S < N := sq_lt h.R0 (Int.lt_of_le_of_lt h.lo hT) n0
theorem upto_ge {T m S N B : Int} (h : IsRootUpto T m S) (n0 : 0 ≤ N) (nB : N ≤ B) (Bm : B ≤ m) (hT : ¬ T < N * N) : N ≤ S := by
  rcases h.hi with hh | hh
  · have := sq_lt n0 (Int.lt_of_le_of_lt (by omega) hh) (by have := h.R0; omega)
    omega
  · omega
def vlessS (a b c d : Int) : Bool := decide (cmpS a c < 0) || (decide (cmpS a c = 0) && decide (cmpS b d < 0))
noncomputable def rootS (T : Int) : Int := if h : 0 ≤ T then Classical.choose (root_ex h) else 0
theorem rootS_root {T : Int} (h : 0 ≤ T) : IsRoot T (rootS T) := by
  unfold rootS; rw [dif_pos h]; exact Classical.choose_spec (root_ex h)
theorem rootS_of {T R : Int} (h : IsRoot T R) : rootS T = R := by
  have h0 : 0 ≤ T := Int.le_trans (Int.mul_nonneg h.R0 h.R0) h.lo
  exact (rootS_root h0).uniq h
noncomputable def lenS (a b : Int) : Int := if 9223372036854775807 < rootS (SQ a b) then 9223372036854775807 else rootS (SQ a b)
theorem rootS_bd {a b : Int} (ha : I64 a) (hb : I64 b) : 0 ≤ rootS (SQ a b) ∧ rootS (SQ a b) ≤ 18446744073709551615 := by
  have hs := SQ_bd ha hb
  have hr := rootS_root hs.1
  refine ⟨hr.R0, ?_⟩
  have := sq_lt hr.R0 (b := 18446744073709551616) (by have := hr.lo; omega) (by omega)
  omega
theorem lenS_bd {a b : Int} (ha : I64 a) (hb : I64 b) : 0 ≤ lenS a b ∧ lenS a b ≤ 9223372036854775807 := by
  have := rootS_bd ha hb
  unfold lenS; split <;> omega
end Go.Proofs.Ytcgilmjhbdehpaa.Fx
/- Lengths as roots up to a bound; three, four, five. -/
namespace Go.Proofs.Ytcgilmjhbdehpaa.Fx
set_option linter.unusedVariables false
theorem lenS_upto {a b : Int} (ha : I64 a) (hb : I64 b) : IsRootUpto (SQ a b) 9223372036854775807 (lenS a b) := by
  have hs := SQ_bd ha hb
  have hr := rootS_root hs.1
  have hl := lenS_bd ha hb
  unfold lenS at hl ⊢
  split
  · rename_i hc
    refine ⟨by omega, by omega, ?_, .inr rfl⟩
    have := sq_le (a := 9223372036854775807) (b := rootS (SQ a b)) (by omega) (by omega)
    have := hr.lo
    omega
  · rename_i hc
    exact ⟨hr.R0, by omega, hr.lo, .inl hr.hi⟩
theorem len_five : lenS 196608 262144 = 327680 := by
  have h : rootS (SQ 196608 262144) = 327680 := rootS_of ⟨by omega, by decide, by decide⟩
  unfold lenS; rw [h]; rfl
end Go.Proofs.Ytcgilmjhbdehpaa.Fx
/- Nearness, as a truth. -/
namespace Go.Proofs.Ytcgilmjhbdehpaa.Fx
set_option linter.unusedVariables false
def withinS (a b c d r : Int) : Bool := decide (0 ≤ r) && decide (SQ (subS a c) (subS b d) < r * r)
theorem sub_self {a : Int} (h : I64 a) : subS a a = 0 := by
  have h1 := cnt_bd h
  unfold subS addS negS
  rw [cnt_in (x := -cnt a) (by omega), show cnt a + -cnt a = 0 by omega]
  decide
theorem SQ_zero : SQ 0 0 = 0 := by decide
theorem within_zero {a b c d : Int} : withinS a b c d 0 = false := by
  have h1 : 0 ≤ SQ (subS a c) (subS b d) := by
    unfold SQ
    have := Int.mul_nonneg (sz_bd (sub_i64 a c)).1 (sz_bd (sub_i64 a c)).1
    have := Int.mul_nonneg (sz_bd (sub_i64 b d)).1 (sz_bd (sub_i64 b d)).1
    omega
  unfold withinS
  rw [decide_eq_false (p := SQ (subS a c) (subS b d) < 0 * 0) (by omega)]
  simp
theorem within_self {a b : Int} (ha : I64 a) (hb : I64 b) : withinS a b a b 1 = true := by
  unfold withinS; rw [sub_self ha, sub_self hb, SQ_zero]; decide
end Go.Proofs.Ytcgilmjhbdehpaa.Fx
/- Plain arithmetic of layer 17. -/
namespace Go.Proofs.Ytcgilmjhbdehpaa
def Fx.radS (r : Int) : Int := if r < 0 then 0 else if 262144 < r then 262144 else r
theorem Fx.radS_bd (r : Int) : 0 ≤ Fx.radS r ∧ Fx.radS r ≤ 262144 := by unfold Fx.radS; (repeat' split) <;> omega
def Fx.apS (a b r c d s : Int) : Bool := !Fx.withinS a b c d (Fx.radS r + Fx.radS s)
theorem Fx.sub_flip {a c : Int} (ha : Fx.I64 a) (hc : Fx.I64 c) : Fx.subS c a = -Fx.subS a c := by
  unfold Fx.I64 at ha hc
  unfold Fx.subS Fx.addS Fx.negS Fx.clampM Fx.cnt Fx.Most
  (repeat' split) <;> omega
theorem Fx.sz_neg' {x : Int} (h : -9223372036854775807 ≤ x ∧ x ≤ 9223372036854775807) : Fx.sz (-x) = Fx.sz x := by
  unfold Fx.sz Fx.cnt Fx.Most
  (repeat' split) <;> omega
theorem Fx.within_flip {a b c d r : Int} (ha : Fx.I64 a) (hb : Fx.I64 b) (hc : Fx.I64 c) (hd : Fx.I64 d) : Fx.withinS c d a b r = Fx.withinS a b c d r := by
  unfold Fx.withinS Fx.SQ
  rw [Fx.sub_flip ha hc, Fx.sub_flip hb hd, Fx.sz_neg' (x := Fx.subS a c) (Fx.clamp_bd _), Fx.sz_neg' (x := Fx.subS b d) (Fx.clamp_bd _)]
theorem Fx.apS_flip {a b r c d s : Int} (ha : Fx.I64 a) (hb : Fx.I64 b) (hc : Fx.I64 c) (hd : Fx.I64 d) : Fx.apS c d s a b r = Fx.apS a b r c d s := by
  unfold Fx.apS; rw [Fx.within_flip ha hb hc hd, Int.add_comm]
/-- How far a number lies outside of a column. -/
def bsS (x c : Int) : Int := if x < c * 65536 then c * 65536 - x else if c * 65536 + 65536 < x then x - c * 65536 - 65536 else 0
def meetsS (W t px py r : Int) : Bool := decide (bsS px (t % W) < r) && (decide (bsS py (t / W) < r) && decide (bsS px (t % W) * bsS px (t % W) + bsS py (t / W) * bsS py (t / W) < r * r))
def fmD (px py r : Int) : Bool := decide (0 ≤ r ∧ r ≤ 262144 ∧ -1099511627776 ≤ px ∧ px ≤ 1099511627776 ∧ -1099511627776 ≤ py ∧ py ≤ 1099511627776)
end Go.Proofs.Ytcgilmjhbdehpaa
/- The contracts of the simplest functions of packages fixed and wide and of the reference of layer 1: what each call answers, for all arguments. -/
namespace Go.Proofs.Ytcgilmjhbdehpaa
open Go.RowKit
set_option linter.unusedVariables false

theorem bcell {W w1 : World} (hb : Below W.heap.size W w1) : (∀ b o, b < W.heap.size → w1.cell? ⟨b, o, none⟩ = W.cell? ⟨b, o, none⟩) ∧ (∀ b o, b < W.heap.size → w1.frozen? ⟨b, o, none⟩ = W.frozen? ⟨b, o, none⟩) :=
  ⟨fun b o h => hb.cell (p := ⟨b, o, none⟩) h, fun b o h => hb.frozen (p := ⟨b, o, none⟩) h⟩
theorem pair_kept {w1 w2 : World} {x y : Value} {t : TypeId} (hb : Below (w1.alloc (.cells #[x, y] t)).heap.size (w1.alloc (.cells #[x, y] t)) w2) :
    w2.cell? ⟨w1.heap.size, 0, none⟩ = some x ∧ w2.cell? ⟨w1.heap.size, 1, none⟩ = some y ∧ w2.frozen? ⟨w1.heap.size, 0, none⟩ = false ∧ w2.frozen? ⟨w1.heap.size, 1, none⟩ = false ∧ w1.heap.size < w2.heap.size := by
  have hs := hb.size
  refine ⟨(hb.cell (p := ⟨w1.heap.size, 0, none⟩) (by simp)).trans (by go_simp), (hb.cell (p := ⟨w1.heap.size, 1, none⟩) (by simp)).trans (by go_simp), (hb.frozen (p := ⟨w1.heap.size, 0, none⟩) (by simp)).trans (by go_simp), (hb.frozen (p := ⟨w1.heap.size, 1, none⟩) (by simp)).trans (by go_simp), ?_⟩
  simp at hs; omega
theorem two_twice {w : World} {g : Nat} {a b : Value} (c0 : w.cell? ⟨g, 0, none⟩ = some a) (c1 : w.cell? ⟨g, 1, none⟩ = some b) (X Y X' Y' : Value) :
    ((((w.setCell ⟨g, 0, none⟩ X).setCell ⟨g, 1, none⟩ Y).setCell ⟨g, 0, none⟩ X').setCell ⟨g, 1, none⟩ Y').cell? ⟨g, 1, none⟩ = some Y' := by
  have n1 : ∀ (w : World) (v : Value), (w.setCell ⟨g, 0, none⟩ v).cell? ⟨g, 1, none⟩ = w.cell? ⟨g, 1, none⟩ := fun w v => World.cell?_setCell_other _ _ _ _ (by simp)
  refine World.cell?_setCell_same _ _ _ (u := Y) ?_
  rw [n1]
  refine World.cell?_setCell_same _ _ _ (u := b) ?_
  rw [n1]
  exact c1
end Go.Proofs.Ytcgilmjhbdehpaa
/- The contracts of size, Add, Sub, Neg, Cmp of package fixed and of the reference of layer 1: what each call answers, for all arguments. -/
namespace Go.Proofs.Ytcgilmjhbdehpaa
open Go.RowKit
set_option linter.unusedVariables false

end Go.Proofs.Ytcgilmjhbdehpaa
