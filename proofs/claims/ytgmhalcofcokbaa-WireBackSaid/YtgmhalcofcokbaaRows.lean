/-
  No cell of these rows narrows 'for every input' (looked for: loops, veiled, ifaces, maps, wideKeys, modest, calm, conditions, laid).
  DERIVED. THE GIVEN ROWS OF THIS SEAT. 4 by the template 'for every input the law returns true; each argument reads behind the call as it read before'; 0 by the template 'total and deterministic' (their statements: YtgmhalcofcokbaaTotals.lean).
  GIVEN WITH THE SEED: the statements are not yours to turn. If you find one false, say at which input.
  Laid BY PROGRAM, IN A SANDBOX (cutbox-rows.mjs): the forced cells as the released guide's own fill.sh prints them over the translation 207f34cd72062bb3… (all of the seat's roots in one cut). By AI agents, Wed Nov 11 2026. No macro, syntax, notation, axiom, sorry.
-/
import Derived.Test.YtgmhalcofcokbaaChecked
import GoSem.Claim
import GoSem.ClaimJoined
import GoSem.ClaimMapViews
import Derived.JoinedTies
import Derived.KernelRfl
namespace Go.Proofs.Ytgmhalcofcokbaa
/- THE CELL 'sum', in the pinned program and in every row, IS THE sha256 OF THE DUMP (.gsa) THAT YtgmhalcofcokbaaProg.lean LOADS. Nothing in Lean hashes anything: it is a label: what it is worth is what the hold of that sum in a sandbox is worth. -/
noncomputable def Try.pinned : Pinned := { name := "ytgmhalcofcokbaa", sum := "207f34cd72062bb3a5542e2ad9bcbaf82e00a0f749feaa06a5a6bc095406dfc1", checked := Try.checked }
namespace Rows
def none {H : Type} : Left H := { results := [], args := [] }

/-- 'thronglaw2.VecShort': WHATEVER THE INPUT: true; the input reads as it did. -/
def vecShortSpec : ChangeSpec := { name := "vecShort", fn := fun _ => fun
  | [d] => { results := [.lit (.bool true)], args := [d] }
  | _ => none }
def vecShortRow : OpenClaim := { program := "ytgmhalcofcokbaa", sum := "207f34cd72062bb3a5542e2ad9bcbaf82e00a0f749feaa06a5a6bc095406dfc1", func := "throng/thronglaw2.VecShort", spec := "vecShort", apart := false }
def VecShortSaid : Prop := vecShortRow.holds Try.pinned (OpenSpec.ofChange vecShortSpec)

/-- ITS FALSE NEIGHBOUR: 'it returns false'. Refute it at one input. -/
def vecShortWrong : ChangeSpec := { name := "vecShort", fn := fun _ => fun
  | [d] => { results := [.lit (.bool false)], args := [d] }
  | _ => none }
def VecShortWrongFalsely : Prop := vecShortRow.holds Try.pinned (OpenSpec.ofChange vecShortWrong)

/-- 'thronglaw2.VecTriangles': WHATEVER THE INPUT: true; the input reads as it did. -/
def vecTrianglesSpec : ChangeSpec := { name := "vecTriangles", fn := fun _ => fun
  | [d] => { results := [.lit (.bool true)], args := [d] }
  | _ => none }
def vecTrianglesRow : OpenClaim := { program := "ytgmhalcofcokbaa", sum := "207f34cd72062bb3a5542e2ad9bcbaf82e00a0f749feaa06a5a6bc095406dfc1", func := "throng/thronglaw2.VecTriangles", spec := "vecTriangles", apart := false }
def VecTrianglesSaid : Prop := vecTrianglesRow.holds Try.pinned (OpenSpec.ofChange vecTrianglesSpec)

/-- ITS FALSE NEIGHBOUR: 'it returns false'. Refute it at one input. -/
def vecTrianglesWrong : ChangeSpec := { name := "vecTriangles", fn := fun _ => fun
  | [d] => { results := [.lit (.bool false)], args := [d] }
  | _ => none }
def VecTrianglesWrongFalsely : Prop := vecTrianglesRow.holds Try.pinned (OpenSpec.ofChange vecTrianglesWrong)

/-- 'thronglaw4.WireBack': WHATEVER THE INPUT: true; the input reads as it did. -/
def wireBackSpec : ChangeSpec := { name := "wireBack", fn := fun _ => fun
  | [d] => { results := [.lit (.bool true)], args := [d] }
  | _ => none }
def wireBackRow : OpenClaim := { program := "ytgmhalcofcokbaa", sum := "207f34cd72062bb3a5542e2ad9bcbaf82e00a0f749feaa06a5a6bc095406dfc1", func := "throng/thronglaw4.WireBack", spec := "wireBack", apart := false }
def WireBackSaid : Prop := wireBackRow.holds Try.pinned (OpenSpec.ofChange wireBackSpec)

/-- ITS FALSE NEIGHBOUR: 'it returns false'. Refute it at one input. -/
def wireBackWrong : ChangeSpec := { name := "wireBack", fn := fun _ => fun
  | [d] => { results := [.lit (.bool false)], args := [d] }
  | _ => none }
def WireBackWrongFalsely : Prop := wireBackRow.holds Try.pinned (OpenSpec.ofChange wireBackWrong)

/-- 'thronglaw19.SteerShort': WHATEVER THE INPUT: true; the input reads as it did. -/
def steerShortSpec : ChangeSpec := { name := "steerShort", fn := fun _ => fun
  | [d] => { results := [.lit (.bool true)], args := [d] }
  | _ => none }
def steerShortRow : OpenClaim := { program := "ytgmhalcofcokbaa", sum := "207f34cd72062bb3a5542e2ad9bcbaf82e00a0f749feaa06a5a6bc095406dfc1", func := "throng/thronglaw19.SteerShort", spec := "steerShort", apart := false }
def SteerShortSaid : Prop := steerShortRow.holds Try.pinned (OpenSpec.ofChange steerShortSpec)

/-- ITS FALSE NEIGHBOUR: 'it returns false'. Refute it at one input. -/
def steerShortWrong : ChangeSpec := { name := "steerShort", fn := fun _ => fun
  | [d] => { results := [.lit (.bool false)], args := [d] }
  | _ => none }
def SteerShortWrongFalsely : Prop := steerShortRow.holds Try.pinned (OpenSpec.ofChange steerShortWrong)

/- THE SECOND FORM. 'bulk': how many values and letters a reading holds, each counted each time it is reached (what is shared counts as often as it is met; a slice's spare places count too). A statement '..UptoSaid' is the law's where the arguments, and the package variables that the reading takes, are together of bulk at most 1048576: NARROWER than '..Said'. Prove '..Said' where nothing that the law and all that it calls make is longer than what came in: it says more and counts as full. Else prove '..UptoSaid'. A law counts once. -/
mutual
def uptoBulk {H : Type} : DataW H → Nat
  | .lit (.string bytes) => bytes.length + 1
  | .lit _ => 1
  | .nil => 1
  | .ptr d => uptoBulk d + 1
  | .slice elems spare => uptoBulkAll elems + uptoBulkAll spare + 1
  | .agg parts => uptoBulkAll parts + 1
  | .iface _ d => uptoBulk d + 1
  | .map entries => uptoBulkEntries entries + 1
  | .held _ => 1
def uptoBulkAll {H : Type} : List (DataW H) → Nat
  | [] => 0
  | d :: r => uptoBulk d + uptoBulkAll r
def uptoBulkEntries {H : Type} : List (Lit × DataW H) → Nat
  | [] => 0
  | x :: r => uptoBulkEntry x + uptoBulkEntries r
def uptoBulkEntry {H : Type} : Lit × DataW H → Nat
  | (.string bytes, d) => bytes.length + uptoBulk d + 1
  | (_, d) => uptoBulk d + 1
 end
def uptoSmall : (H : Type) → List (DataW H) → Bool := fun _ ds => decide (uptoBulkAll ds ≤ 1048576)
def OpenSpec.upto (s : _root_.Go.ChangeSpec) : _root_.Go.OpenSpec := { _root_.Go.OpenSpec.ofChange s with cond := some uptoSmall }

/-- 'thronglaw2.VecShort', WHERE WHAT IT READS IS OF BULK AT MOST 1048576: true; the input reads as it did. -/
def vecShortUptoRow : OpenClaim := { program := "ytgmhalcofcokbaa", sum := "207f34cd72062bb3a5542e2ad9bcbaf82e00a0f749feaa06a5a6bc095406dfc1", func := "throng/thronglaw2.VecShort", spec := "vecShort", apart := false, narrowed := true }
def VecShortUptoSaid : Prop := vecShortUptoRow.holds Try.pinned (OpenSpec.upto vecShortSpec)

/-- 'thronglaw2.VecTriangles', WHERE WHAT IT READS IS OF BULK AT MOST 1048576: true; the input reads as it did. -/
def vecTrianglesUptoRow : OpenClaim := { program := "ytgmhalcofcokbaa", sum := "207f34cd72062bb3a5542e2ad9bcbaf82e00a0f749feaa06a5a6bc095406dfc1", func := "throng/thronglaw2.VecTriangles", spec := "vecTriangles", apart := false, narrowed := true }
def VecTrianglesUptoSaid : Prop := vecTrianglesUptoRow.holds Try.pinned (OpenSpec.upto vecTrianglesSpec)

/-- 'thronglaw4.WireBack', WHERE WHAT IT READS IS OF BULK AT MOST 1048576: true; the input reads as it did. -/
def wireBackUptoRow : OpenClaim := { program := "ytgmhalcofcokbaa", sum := "207f34cd72062bb3a5542e2ad9bcbaf82e00a0f749feaa06a5a6bc095406dfc1", func := "throng/thronglaw4.WireBack", spec := "wireBack", apart := false, narrowed := true }
def WireBackUptoSaid : Prop := wireBackUptoRow.holds Try.pinned (OpenSpec.upto wireBackSpec)

/-- 'thronglaw19.SteerShort', WHERE WHAT IT READS IS OF BULK AT MOST 1048576: true; the input reads as it did. -/
def steerShortUptoRow : OpenClaim := { program := "ytgmhalcofcokbaa", sum := "207f34cd72062bb3a5542e2ad9bcbaf82e00a0f749feaa06a5a6bc095406dfc1", func := "throng/thronglaw19.SteerShort", spec := "steerShort", apart := false, narrowed := true }
def SteerShortUptoSaid : Prop := steerShortUptoRow.holds Try.pinned (OpenSpec.upto steerShortSpec)

end Rows
end Go.Proofs.Ytgmhalcofcokbaa
