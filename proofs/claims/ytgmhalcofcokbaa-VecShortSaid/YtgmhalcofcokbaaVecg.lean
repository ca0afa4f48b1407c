/- A call that makes memory leaves four cells as they were, wherever they lie. -/
import Derived.Test.YtgmhalcofcokbaaVecf
namespace Go.Proofs.Ytgmhalcofcokbaa
open Go.RowKit
set_option linter.unusedVariables false
theorem held4 {P : Program} {F : FuncId} {args : Array Value} {w w0 : World} {r : Ending} {p q : Nat} {x y u v : Value} (h : Calls P F args w fun e w' => e = r ∧ Below w.heap.size w w')
    (c0 : w.cell? ⟨p, 0, none⟩ = some x) (c1 : w.cell? ⟨p, 1, none⟩ = some y) (d0 : w.cell? ⟨q, 0, none⟩ = some u) (d1 : w.cell? ⟨q, 1, none⟩ = some v)
    (hB : Below w0.heap.size w0 w) :
    Calls P F args w fun e w' => e = r ∧ w'.cell? ⟨p, 0, none⟩ = some x ∧ w'.cell? ⟨p, 1, none⟩ = some y ∧ w'.cell? ⟨q, 0, none⟩ = some u ∧ w'.cell? ⟨q, 1, none⟩ = some v ∧ Below w0.heap.size w0 w' :=
  h.mono fun e w' ⟨h1, h2⟩ => by
    have l1 := World.block_lt_of_cell? _ _ c0
    have l2 := World.block_lt_of_cell? _ _ d0
    exact ⟨h1, (h2.cell (p := ⟨p, 0, none⟩) l1).trans c0, (h2.cell (p := ⟨p, 1, none⟩) l1).trans c1, (h2.cell (p := ⟨q, 0, none⟩) l2).trans d0, (h2.cell (p := ⟨q, 1, none⟩) l2).trans d1, hB.trans (h2.mono hB.size)⟩
end Go.Proofs.Ytgmhalcofcokbaa
