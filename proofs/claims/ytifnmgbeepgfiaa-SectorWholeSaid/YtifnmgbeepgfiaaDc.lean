import Derived.WalkKit
import Derived.WalkSpells
import Derived.WalkLawsBesides
import Derived.Test.YtifnmgbeepgfiaaRows
import Derived.Test.YtifnmgbeepgfiaaDa
import Derived.Deep.RegionHeld3
/- The contracts of the simplest functions of packages fixed and wide and of the reference of layer 1: what each call answers, for all arguments. -/
namespace Go.Proofs.Ytifnmgbeepgfiaa
open Go.RowKit
set_option linter.unusedVariables false

theorem bcell {W w1 : World} (hb : Below W.heap.size W w1) : (∀ b o, b < W.heap.size → w1.cell? ⟨b, o, none⟩ = W.cell? ⟨b, o, none⟩) ∧ (∀ b o, b < W.heap.size → w1.frozen? ⟨b, o, none⟩ = W.frozen? ⟨b, o, none⟩) :=
  ⟨fun b o h => hb.cell (p := ⟨b, o, none⟩) h, fun b o h => hb.frozen (p := ⟨b, o, none⟩) h⟩
theorem pair_kept {w1 w2 : World} {x y : Value} {t : TypeId} (hb : Below (w1.alloc (.cells #[x, y] t)).heap.size (w1.alloc (.cells #[x, y] t)) w2) :
    w2.cell? ⟨w1.heap.size, 0, none⟩ = some x ∧ w2.cell? ⟨w1.heap.size, 1, none⟩ = some y ∧ w2.frozen? ⟨w1.heap.size, 0, none⟩ = false ∧ w2.frozen? ⟨w1.heap.size, 1, none⟩ = false ∧ w1.heap.size < w2.heap.size := by
  have hs := hb.size
  refine ⟨(hb.cell (p := ⟨w1.heap.size, 0, none⟩) (by simp)).trans (by go_simp), (hb.cell (p := ⟨w1.heap.size, 1, none⟩) (by simp)).trans (by go_simp), (hb.frozen (p := ⟨w1.heap.size, 0, none⟩) (by simp)).trans (by go_simp), (hb.frozen (p := ⟨w1.heap.size, 1, none⟩) (by simp)).trans (by go_simp), ?_⟩
  simp at hs; omega
theorem two_twice {w : World} {g : Nat} {a b : Value} (c0 : w.cell? ⟨g, 0, none⟩ = some a) (c1 : w.cell? ⟨g, 1, none⟩ = some b) (X Y X' Y' : Value) :
    ((((w.setCell ⟨g, 0, none⟩ X).setCell ⟨g, 1, none⟩ Y).setCell ⟨g, 0, none⟩ X').setCell ⟨g, 1, none⟩ Y').cell? ⟨g, 1, none⟩ = some Y' := by
  have n1 : ∀ (w : World) (v : Value), (w.setCell ⟨g, 0, none⟩ v).cell? ⟨g, 1, none⟩ = w.cell? ⟨g, 1, none⟩ := fun w v => World.cell?_setCell_other _ _ _ _ (by simp)
  refine World.cell?_setCell_same _ _ _ (u := Y) ?_
  rw [n1]
  refine World.cell?_setCell_same _ _ _ (u := b) ?_
  rw [n1]
  exact c1
end Go.Proofs.Ytifnmgbeepgfiaa
/- The contracts of size, Add, Sub, Neg, Cmp of package fixed and of the reference of layer 1: what each call answers, for all arguments. -/
namespace Go.Proofs.Ytifnmgbeepgfiaa
open Go.RowKit
set_option linter.unusedVariables false

end Go.Proofs.Ytifnmgbeepgfiaa
/- The contracts of the reference's division of a number of 128 bits (Over) and of its end (signed). -/
namespace Go.Proofs.Ytifnmgbeepgfiaa
open Go.RowKit
set_option linter.unusedVariables false
end Go.Proofs.Ytifnmgbeepgfiaa
/- The contract of wide.Div: quotient and rest of a number of 128 bits, for every divisor from 1 to 2^63. -/
namespace Go.Proofs.Ytifnmgbeepgfiaa
open Go.RowKit
set_option linter.unusedVariables false
end Go.Proofs.Ytifnmgbeepgfiaa
/- The contract of fixed.quotient, the end of products and quotients: rounded towards minus infinity, cut off at Most. -/
namespace Go.Proofs.Ytifnmgbeepgfiaa
open Go.RowKit
set_option linter.unusedVariables false
end Go.Proofs.Ytifnmgbeepgfiaa
/- The contracts of the products and quotients of package fixed and of the reference of layer 1. -/
namespace Go.Proofs.Ytifnmgbeepgfiaa
open Go.RowKit
set_option linter.unusedVariables false
end Go.Proofs.Ytifnmgbeepgfiaa
