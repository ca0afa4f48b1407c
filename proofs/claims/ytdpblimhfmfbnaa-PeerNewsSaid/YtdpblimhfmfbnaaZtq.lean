import Derived.IntWalk
import Derived.Test.YtdpblimhfmfbnaaZtp
import Derived.Test.YtdpblimhfmfbnaaZtd
import Derived.WalkKit
import Derived.WalkSpells
import Derived.WalkLawsBesides
import Derived.Test.YtdpblimhfmfbnaaRows
import Derived.Test.YtdpblimhfmfbnaaZto
import Derived.Deep.RegionHeld3
/- Plain arithmetic of layer 17. -/
namespace Go.Proofs.Ytdpblimhfmfbnaa
def Fx.radS (r : Int) : Int := if r < 0 then 0 else if 262144 < r then 262144 else r
theorem Fx.radS_bd (r : Int) : 0 ≤ Fx.radS r ∧ Fx.radS r ≤ 262144 := by unfold Fx.radS; (repeat' split) <;> omega
def Fx.apS (a b r c d s : Int) : Bool := !Fx.withinS a b c d (Fx.radS r + Fx.radS s)
theorem Fx.sub_flip {a c : Int} (ha : Fx.I64 a) (hc : Fx.I64 c) : Fx.subS c a = -Fx.subS a c := by
  unfold Fx.I64 at ha hc
  unfold Fx.subS Fx.addS Fx.negS Fx.clampM Fx.cnt Fx.Most
  (repeat' split) <;> omega
theorem Fx.sz_neg' {x : Int} (h : -9223372036854775807 ≤ x ∧ x ≤ 9223372036854775807) : Fx.sz (-x) = Fx.sz x := by
  unfold Fx.sz Fx.cnt Fx.Most
  (repeat' split) <;> omega
theorem Fx.within_flip {a b c d r : Int} (ha : Fx.I64 a) (hb : Fx.I64 b) (hc : Fx.I64 c) (hd : Fx.I64 d) : Fx.withinS c d a b r = Fx.withinS a b c d r := by
  unfold Fx.withinS Fx.SQ
  rw [Fx.sub_flip ha hc, Fx.sub_flip hb hd, Fx.sz_neg' (x := Fx.subS a c) (Fx.clamp_bd _), Fx.sz_neg' (x := Fx.subS b d) (Fx.clamp_bd _)]
theorem Fx.apS_flip {a b r c d s : Int} (ha : Fx.I64 a) (hb : Fx.I64 b) (hc : Fx.I64 c) (hd : Fx.I64 d) : Fx.apS c d s a b r = Fx.apS a b r c d s := by
  unfold Fx.apS; rw [Fx.within_flip ha hb hc hd, Int.add_comm]
/-- How far a number lies outside of a column. -/
def bsS (x c : Int) : Int := if x < c * 65536 then c * 65536 - x else if c * 65536 + 65536 < x then x - c * 65536 - 65536 else 0
def meetsS (W t px py r : Int) : Bool := decide (bsS px (t % W) < r) && (decide (bsS py (t / W) < r) && decide (bsS px (t % W) * bsS px (t % W) + bsS py (t / W) * bsS py (t / W) < r * r))
def fmD (px py r : Int) : Bool := decide (0 ≤ r ∧ r ≤ 262144 ∧ -1099511627776 ≤ px ∧ px ≤ 1099511627776 ∧ -1099511627776 ≤ py ∧ py ≤ 1099511627776)
end Go.Proofs.Ytdpblimhfmfbnaa
/- The contracts of the simplest functions of packages fixed and wide and of the reference of layer 1: what each call answers, for all arguments. -/
namespace Go.Proofs.Ytdpblimhfmfbnaa
open Go.RowKit
set_option linter.unusedVariables false

theorem bcell {W w1 : World} (hb : Below W.heap.size W w1) : (∀ b o, b < W.heap.size → w1.cell? ⟨b, o, none⟩ = W.cell? ⟨b, o, none⟩) ∧ (∀ b o, b < W.heap.size → w1.frozen? ⟨b, o, none⟩ = W.frozen? ⟨b, o, none⟩) :=
  ⟨fun b o h => hb.cell (p := ⟨b, o, none⟩) h, fun b o h => hb.frozen (p := ⟨b, o, none⟩) h⟩
theorem pair_kept {w1 w2 : World} {x y : Value} {t : TypeId} (hb : Below (w1.alloc (.cells #[x, y] t)).heap.size (w1.alloc (.cells #[x, y] t)) w2) :
    w2.cell? ⟨w1.heap.size, 0, none⟩ = some x ∧ w2.cell? ⟨w1.heap.size, 1, none⟩ = some y ∧ w2.frozen? ⟨w1.heap.size, 0, none⟩ = false ∧ w2.frozen? ⟨w1.heap.size, 1, none⟩ = false ∧ w1.heap.size < w2.heap.size := by
  have hs := hb.size
  refine ⟨(hb.cell (p := ⟨w1.heap.size, 0, none⟩) (by simp)).trans (by go_simp), (hb.cell (p := ⟨w1.heap.size, 1, none⟩) (by simp)).trans (by go_simp), (hb.frozen (p := ⟨w1.heap.size, 0, none⟩) (by simp)).trans (by go_simp), (hb.frozen (p := ⟨w1.heap.size, 1, none⟩) (by simp)).trans (by go_simp), ?_⟩
  simp at hs; omega
theorem two_twice {w : World} {g : Nat} {a b : Value} (c0 : w.cell? ⟨g, 0, none⟩ = some a) (c1 : w.cell? ⟨g, 1, none⟩ = some b) (X Y X' Y' : Value) :
    ((((w.setCell ⟨g, 0, none⟩ X).setCell ⟨g, 1, none⟩ Y).setCell ⟨g, 0, none⟩ X').setCell ⟨g, 1, none⟩ Y').cell? ⟨g, 1, none⟩ = some Y' := by
  have n1 : ∀ (w : World) (v : Value), (w.setCell ⟨g, 0, none⟩ v).cell? ⟨g, 1, none⟩ = w.cell? ⟨g, 1, none⟩ := fun w v => World.cell?_setCell_other _ _ _ _ (by simp)
  refine World.cell?_setCell_same _ _ _ (u := Y) ?_
  rw [n1]
  refine World.cell?_setCell_same _ _ _ (u := b) ?_
  rw [n1]
  exact c1
end Go.Proofs.Ytdpblimhfmfbnaa
/- The contracts of size, Add, Sub, Neg, Cmp of package fixed and of the reference of layer 1: what each call answers, for all arguments. -/
namespace Go.Proofs.Ytdpblimhfmfbnaa
open Go.RowKit
set_option linter.unusedVariables false

end Go.Proofs.Ytdpblimhfmfbnaa
/- The contracts of the reference's division of a number of 128 bits (Over) and of its end (signed). -/
namespace Go.Proofs.Ytdpblimhfmfbnaa
open Go.RowKit
set_option linter.unusedVariables false
end Go.Proofs.Ytdpblimhfmfbnaa
/- The contract of wide.Div: quotient and rest of a number of 128 bits, for every divisor from 1 to 2^63. -/
namespace Go.Proofs.Ytdpblimhfmfbnaa
open Go.RowKit
set_option linter.unusedVariables false
end Go.Proofs.Ytdpblimhfmfbnaa
/- The contract of fixed.quotient, the end of products and quotients: rounded towards minus infinity, cut off at Most. -/
namespace Go.Proofs.Ytdpblimhfmfbnaa
open Go.RowKit
set_option linter.unusedVariables false
end Go.Proofs.Ytdpblimhfmfbnaa
