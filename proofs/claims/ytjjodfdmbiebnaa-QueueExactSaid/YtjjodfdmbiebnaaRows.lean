/-
  No cell of these rows narrows 'for every input' (looked for: loops, veiled, ifaces, maps, wideKeys, modest, calm, conditions, laid).
  DERIVED. THE GIVEN ROWS OF THIS SEAT. 11 by the template 'for every input the law returns true; each argument reads behind the call as it read before'; 0 by the template 'total and deterministic' (their statements: YtjjodfdmbiebnaaTotals.lean).
  GIVEN WITH THE SEED: the statements are not yours to turn. If you find one false, say at which input.
  Laid BY PROGRAM, IN A SANDBOX (cutbox-rows.mjs): the forced cells as the released guide's own fill.sh prints them over the translation c08d50ca08cb257b… (all of the seat's roots in one cut). By AI agents, Wed Nov 11 2026. No macro, syntax, notation, axiom, sorry.
-/
import Derived.Test.YtjjodfdmbiebnaaChecked
import GoSem.Claim
import GoSem.ClaimJoined
import GoSem.ClaimMapViews
import Derived.JoinedTies
import Derived.KernelRfl
namespace Go.Proofs.Ytjjodfdmbiebnaa
/- THE CELL 'sum', in the pinned program and in every row, IS THE sha256 OF THE DUMP (.gsa) THAT YtjjodfdmbiebnaaProg.lean LOADS. Nothing in Lean hashes anything: it is a label: what it is worth is what the hold of that sum in a sandbox is worth. -/
noncomputable def Try.pinned : Pinned := { name := "ytjjodfdmbiebnaa", sum := "c08d50ca08cb257b73982d79469b89188eaa6cf8a68a1fd4f356adfd4d66d48f", checked := Try.checked }
namespace Rows
def none {H : Type} : Left H := { results := [], args := [] }

/-- 'thronglaw8.BuildAdds': WHATEVER THE INPUT: true; the input reads as it did. -/
def buildAddsSpec : ChangeSpec := { name := "buildAdds", fn := fun _ => fun
  | [d] => { results := [.lit (.bool true)], args := [d] }
  | _ => none }
def buildAddsRow : OpenClaim := { program := "ytjjodfdmbiebnaa", sum := "c08d50ca08cb257b73982d79469b89188eaa6cf8a68a1fd4f356adfd4d66d48f", func := "throng/thronglaw8.BuildAdds", spec := "buildAdds", inPlace := ["slices.overlaps[throng/api.Building]"], unfollowed := true, recurses := true, apart := false }
def BuildAddsSaid : Prop := buildAddsRow.holds Try.pinned (OpenSpec.ofChange buildAddsSpec)

/-- ITS FALSE NEIGHBOUR: 'it returns false'. Refute it at one input. -/
def buildAddsWrong : ChangeSpec := { name := "buildAdds", fn := fun _ => fun
  | [d] => { results := [.lit (.bool false)], args := [d] }
  | _ => none }
def BuildAddsWrongFalsely : Prop := buildAddsRow.holds Try.pinned (OpenSpec.ofChange buildAddsWrong)

/-- 'thronglaw8.BuildDrops': WHATEVER THE INPUT: true; the input reads as it did. -/
def buildDropsSpec : ChangeSpec := { name := "buildDrops", fn := fun _ => fun
  | [d] => { results := [.lit (.bool true)], args := [d] }
  | _ => none }
def buildDropsRow : OpenClaim := { program := "ytjjodfdmbiebnaa", sum := "c08d50ca08cb257b73982d79469b89188eaa6cf8a68a1fd4f356adfd4d66d48f", func := "throng/thronglaw8.BuildDrops", spec := "buildDrops", inPlace := ["slices.overlaps[throng/api.Building]"], unfollowed := true, recurses := true, apart := false }
def BuildDropsSaid : Prop := buildDropsRow.holds Try.pinned (OpenSpec.ofChange buildDropsSpec)

/-- ITS FALSE NEIGHBOUR: 'it returns false'. Refute it at one input. -/
def buildDropsWrong : ChangeSpec := { name := "buildDrops", fn := fun _ => fun
  | [d] => { results := [.lit (.bool false)], args := [d] }
  | _ => none }
def BuildDropsWrongFalsely : Prop := buildDropsRow.holds Try.pinned (OpenSpec.ofChange buildDropsWrong)

/-- 'thronglaw8.BuildCovers': WHATEVER THE INPUT: true; the input reads as it did. -/
def buildCoversSpec : ChangeSpec := { name := "buildCovers", fn := fun _ => fun
  | [d] => { results := [.lit (.bool true)], args := [d] }
  | _ => none }
def buildCoversRow : OpenClaim := { program := "ytjjodfdmbiebnaa", sum := "c08d50ca08cb257b73982d79469b89188eaa6cf8a68a1fd4f356adfd4d66d48f", func := "throng/thronglaw8.BuildCovers", spec := "buildCovers", inPlace := ["slices.overlaps[throng/api.Building]"], unfollowed := true, recurses := true, apart := false }
def BuildCoversSaid : Prop := buildCoversRow.holds Try.pinned (OpenSpec.ofChange buildCoversSpec)

/-- ITS FALSE NEIGHBOUR: 'it returns false'. Refute it at one input. -/
def buildCoversWrong : ChangeSpec := { name := "buildCovers", fn := fun _ => fun
  | [d] => { results := [.lit (.bool false)], args := [d] }
  | _ => none }
def BuildCoversWrongFalsely : Prop := buildCoversRow.holds Try.pinned (OpenSpec.ofChange buildCoversWrong)

/-- 'thronglaw8.BuildOrders': WHATEVER THE INPUT: true; the input reads as it did. -/
def buildOrdersSpec : ChangeSpec := { name := "buildOrders", fn := fun _ => fun
  | [d] => { results := [.lit (.bool true)], args := [d] }
  | _ => none }
def buildOrdersRow : OpenClaim := { program := "ytjjodfdmbiebnaa", sum := "c08d50ca08cb257b73982d79469b89188eaa6cf8a68a1fd4f356adfd4d66d48f", func := "throng/thronglaw8.BuildOrders", spec := "buildOrders", inPlace := ["slices.overlaps[throng/api.Building]"], unfollowed := true, recurses := true, apart := false }
def BuildOrdersSaid : Prop := buildOrdersRow.holds Try.pinned (OpenSpec.ofChange buildOrdersSpec)

/-- ITS FALSE NEIGHBOUR: 'it returns false'. Refute it at one input. -/
def buildOrdersWrong : ChangeSpec := { name := "buildOrders", fn := fun _ => fun
  | [d] => { results := [.lit (.bool false)], args := [d] }
  | _ => none }
def BuildOrdersWrongFalsely : Prop := buildOrdersRow.holds Try.pinned (OpenSpec.ofChange buildOrdersWrong)

/-- 'thronglaw8.BuildEdges': WHATEVER THE INPUT: true; the input reads as it did. -/
def buildEdgesSpec : ChangeSpec := { name := "buildEdges", fn := fun _ => fun
  | [d] => { results := [.lit (.bool true)], args := [d] }
  | _ => none }
def buildEdgesRow : OpenClaim := { program := "ytjjodfdmbiebnaa", sum := "c08d50ca08cb257b73982d79469b89188eaa6cf8a68a1fd4f356adfd4d66d48f", func := "throng/thronglaw8.BuildEdges", spec := "buildEdges", inPlace := ["slices.overlaps[throng/api.Building]"], unfollowed := true, recurses := true, apart := false }
def BuildEdgesSaid : Prop := buildEdgesRow.holds Try.pinned (OpenSpec.ofChange buildEdgesSpec)

/-- ITS FALSE NEIGHBOUR: 'it returns false'. Refute it at one input. -/
def buildEdgesWrong : ChangeSpec := { name := "buildEdges", fn := fun _ => fun
  | [d] => { results := [.lit (.bool false)], args := [d] }
  | _ => none }
def BuildEdgesWrongFalsely : Prop := buildEdgesRow.holds Try.pinned (OpenSpec.ofChange buildEdgesWrong)

/-- 'thronglaw10.SectorParts': WHATEVER THE INPUT: true; the input reads as it did. -/
def sectorPartsSpec : ChangeSpec := { name := "sectorParts", fn := fun _ => fun
  | [d] => { results := [.lit (.bool true)], args := [d] }
  | _ => none }
def sectorPartsRow : OpenClaim := { program := "ytjjodfdmbiebnaa", sum := "c08d50ca08cb257b73982d79469b89188eaa6cf8a68a1fd4f356adfd4d66d48f", func := "throng/thronglaw10.SectorParts", spec := "sectorParts", apart := false }
def SectorPartsSaid : Prop := sectorPartsRow.holds Try.pinned (OpenSpec.ofChange sectorPartsSpec)

/-- ITS FALSE NEIGHBOUR: 'it returns false'. Refute it at one input. -/
def sectorPartsWrong : ChangeSpec := { name := "sectorParts", fn := fun _ => fun
  | [d] => { results := [.lit (.bool false)], args := [d] }
  | _ => none }
def SectorPartsWrongFalsely : Prop := sectorPartsRow.holds Try.pinned (OpenSpec.ofChange sectorPartsWrong)

/-- 'thronglaw10.SectorRedo': WHATEVER THE INPUT: true; the input reads as it did. -/
def sectorRedoSpec : ChangeSpec := { name := "sectorRedo", fn := fun _ => fun
  | [d] => { results := [.lit (.bool true)], args := [d] }
  | _ => none }
def sectorRedoRow : OpenClaim := { program := "ytjjodfdmbiebnaa", sum := "c08d50ca08cb257b73982d79469b89188eaa6cf8a68a1fd4f356adfd4d66d48f", func := "throng/thronglaw10.SectorRedo", spec := "sectorRedo", apart := false }
def SectorRedoSaid : Prop := sectorRedoRow.holds Try.pinned (OpenSpec.ofChange sectorRedoSpec)

/-- ITS FALSE NEIGHBOUR: 'it returns false'. Refute it at one input. -/
def sectorRedoWrong : ChangeSpec := { name := "sectorRedo", fn := fun _ => fun
  | [d] => { results := [.lit (.bool false)], args := [d] }
  | _ => none }
def SectorRedoWrongFalsely : Prop := sectorRedoRow.holds Try.pinned (OpenSpec.ofChange sectorRedoWrong)

/-- 'thronglaw10.SectorWhole': WHATEVER THE INPUT: true; the input reads as it did. -/
def sectorWholeSpec : ChangeSpec := { name := "sectorWhole", fn := fun _ => fun
  | [d] => { results := [.lit (.bool true)], args := [d] }
  | _ => none }
def sectorWholeRow : OpenClaim := { program := "ytjjodfdmbiebnaa", sum := "c08d50ca08cb257b73982d79469b89188eaa6cf8a68a1fd4f356adfd4d66d48f", func := "throng/thronglaw10.SectorWhole", spec := "sectorWhole", apart := false }
def SectorWholeSaid : Prop := sectorWholeRow.holds Try.pinned (OpenSpec.ofChange sectorWholeSpec)

/-- ITS FALSE NEIGHBOUR: 'it returns false'. Refute it at one input. -/
def sectorWholeWrong : ChangeSpec := { name := "sectorWhole", fn := fun _ => fun
  | [d] => { results := [.lit (.bool false)], args := [d] }
  | _ => none }
def SectorWholeWrongFalsely : Prop := sectorWholeRow.holds Try.pinned (OpenSpec.ofChange sectorWholeWrong)

/-- 'thronglaw12.QueueExact': WHATEVER THE INPUT: true; the input reads as it did. -/
def queueExactSpec : ChangeSpec := { name := "queueExact", fn := fun _ => fun
  | [d] => { results := [.lit (.bool true)], args := [d] }
  | _ => none }
def queueExactRow : OpenClaim := { program := "ytjjodfdmbiebnaa", sum := "c08d50ca08cb257b73982d79469b89188eaa6cf8a68a1fd4f356adfd4d66d48f", func := "throng/thronglaw12.QueueExact", spec := "queueExact", apart := false }
def QueueExactSaid : Prop := queueExactRow.holds Try.pinned (OpenSpec.ofChange queueExactSpec)

/-- ITS FALSE NEIGHBOUR: 'it returns false'. Refute it at one input. -/
def queueExactWrong : ChangeSpec := { name := "queueExact", fn := fun _ => fun
  | [d] => { results := [.lit (.bool false)], args := [d] }
  | _ => none }
def QueueExactWrongFalsely : Prop := queueExactRow.holds Try.pinned (OpenSpec.ofChange queueExactWrong)

/-- 'thronglaw12.QueueRises': WHATEVER THE INPUT: true; the input reads as it did. -/
def queueRisesSpec : ChangeSpec := { name := "queueRises", fn := fun _ => fun
  | [d] => { results := [.lit (.bool true)], args := [d] }
  | _ => none }
def queueRisesRow : OpenClaim := { program := "ytjjodfdmbiebnaa", sum := "c08d50ca08cb257b73982d79469b89188eaa6cf8a68a1fd4f356adfd4d66d48f", func := "throng/thronglaw12.QueueRises", spec := "queueRises", apart := false }
def QueueRisesSaid : Prop := queueRisesRow.holds Try.pinned (OpenSpec.ofChange queueRisesSpec)

/-- ITS FALSE NEIGHBOUR: 'it returns false'. Refute it at one input. -/
def queueRisesWrong : ChangeSpec := { name := "queueRises", fn := fun _ => fun
  | [d] => { results := [.lit (.bool false)], args := [d] }
  | _ => none }
def QueueRisesWrongFalsely : Prop := queueRisesRow.holds Try.pinned (OpenSpec.ofChange queueRisesWrong)

/-- 'thronglaw12.QueueMixed': WHATEVER THE INPUT: true; the input reads as it did. -/
def queueMixedSpec : ChangeSpec := { name := "queueMixed", fn := fun _ => fun
  | [d] => { results := [.lit (.bool true)], args := [d] }
  | _ => none }
def queueMixedRow : OpenClaim := { program := "ytjjodfdmbiebnaa", sum := "c08d50ca08cb257b73982d79469b89188eaa6cf8a68a1fd4f356adfd4d66d48f", func := "throng/thronglaw12.QueueMixed", spec := "queueMixed", apart := false }
def QueueMixedSaid : Prop := queueMixedRow.holds Try.pinned (OpenSpec.ofChange queueMixedSpec)

/-- ITS FALSE NEIGHBOUR: 'it returns false'. Refute it at one input. -/
def queueMixedWrong : ChangeSpec := { name := "queueMixed", fn := fun _ => fun
  | [d] => { results := [.lit (.bool false)], args := [d] }
  | _ => none }
def QueueMixedWrongFalsely : Prop := queueMixedRow.holds Try.pinned (OpenSpec.ofChange queueMixedWrong)

/- THE SECOND FORM. 'bulk': how many values and letters a reading holds, each counted each time it is reached (what is shared counts as often as it is met; a slice's spare places count too). A statement '..UptoSaid' is the law's where the arguments, and the package variables that the reading takes, are together of bulk at most 1048576: NARROWER than '..Said'. Prove '..Said' where nothing that the law and all that it calls make is longer than what came in: it says more and counts as full. Else prove '..UptoSaid'. A law counts once. -/
mutual
def uptoBulk {H : Type} : DataW H → Nat
  | .lit (.string bytes) => bytes.length + 1
  | .lit _ => 1
  | .nil => 1
  | .ptr d => uptoBulk d + 1
  | .slice elems spare => uptoBulkAll elems + uptoBulkAll spare + 1
  | .agg parts => uptoBulkAll parts + 1
  | .iface _ d => uptoBulk d + 1
  | .map entries => uptoBulkEntries entries + 1
  | .held _ => 1
def uptoBulkAll {H : Type} : List (DataW H) → Nat
  | [] => 0
  | d :: r => uptoBulk d + uptoBulkAll r
def uptoBulkEntries {H : Type} : List (Lit × DataW H) → Nat
  | [] => 0
  | x :: r => uptoBulkEntry x + uptoBulkEntries r
def uptoBulkEntry {H : Type} : Lit × DataW H → Nat
  | (.string bytes, d) => bytes.length + uptoBulk d + 1
  | (_, d) => uptoBulk d + 1
 end
def uptoSmall : (H : Type) → List (DataW H) → Bool := fun _ ds => decide (uptoBulkAll ds ≤ 1048576)
def OpenSpec.upto (s : _root_.Go.ChangeSpec) : _root_.Go.OpenSpec := { _root_.Go.OpenSpec.ofChange s with cond := some uptoSmall }

/-- 'thronglaw8.BuildAdds', WHERE WHAT IT READS IS OF BULK AT MOST 1048576: true; the input reads as it did. -/
def buildAddsUptoRow : OpenClaim := { program := "ytjjodfdmbiebnaa", sum := "c08d50ca08cb257b73982d79469b89188eaa6cf8a68a1fd4f356adfd4d66d48f", func := "throng/thronglaw8.BuildAdds", spec := "buildAdds", inPlace := ["slices.overlaps[throng/api.Building]"], unfollowed := true, recurses := true, apart := false, narrowed := true }
def BuildAddsUptoSaid : Prop := buildAddsUptoRow.holds Try.pinned (OpenSpec.upto buildAddsSpec)

/-- 'thronglaw8.BuildDrops', WHERE WHAT IT READS IS OF BULK AT MOST 1048576: true; the input reads as it did. -/
def buildDropsUptoRow : OpenClaim := { program := "ytjjodfdmbiebnaa", sum := "c08d50ca08cb257b73982d79469b89188eaa6cf8a68a1fd4f356adfd4d66d48f", func := "throng/thronglaw8.BuildDrops", spec := "buildDrops", inPlace := ["slices.overlaps[throng/api.Building]"], unfollowed := true, recurses := true, apart := false, narrowed := true }
def BuildDropsUptoSaid : Prop := buildDropsUptoRow.holds Try.pinned (OpenSpec.upto buildDropsSpec)

/-- 'thronglaw8.BuildCovers', WHERE WHAT IT READS IS OF BULK AT MOST 1048576: true; the input reads as it did. -/
def buildCoversUptoRow : OpenClaim := { program := "ytjjodfdmbiebnaa", sum := "c08d50ca08cb257b73982d79469b89188eaa6cf8a68a1fd4f356adfd4d66d48f", func := "throng/thronglaw8.BuildCovers", spec := "buildCovers", inPlace := ["slices.overlaps[throng/api.Building]"], unfollowed := true, recurses := true, apart := false, narrowed := true }
def BuildCoversUptoSaid : Prop := buildCoversUptoRow.holds Try.pinned (OpenSpec.upto buildCoversSpec)

/-- 'thronglaw8.BuildOrders', WHERE WHAT IT READS IS OF BULK AT MOST 1048576: true; the input reads as it did. -/
def buildOrdersUptoRow : OpenClaim := { program := "ytjjodfdmbiebnaa", sum := "c08d50ca08cb257b73982d79469b89188eaa6cf8a68a1fd4f356adfd4d66d48f", func := "throng/thronglaw8.BuildOrders", spec := "buildOrders", inPlace := ["slices.overlaps[throng/api.Building]"], unfollowed := true, recurses := true, apart := false, narrowed := true }
def BuildOrdersUptoSaid : Prop := buildOrdersUptoRow.holds Try.pinned (OpenSpec.upto buildOrdersSpec)

/-- 'thronglaw8.BuildEdges', WHERE WHAT IT READS IS OF BULK AT MOST 1048576: true; the input reads as it did. -/
def buildEdgesUptoRow : OpenClaim := { program := "ytjjodfdmbiebnaa", sum := "c08d50ca08cb257b73982d79469b89188eaa6cf8a68a1fd4f356adfd4d66d48f", func := "throng/thronglaw8.BuildEdges", spec := "buildEdges", inPlace := ["slices.overlaps[throng/api.Building]"], unfollowed := true, recurses := true, apart := false, narrowed := true }
def BuildEdgesUptoSaid : Prop := buildEdgesUptoRow.holds Try.pinned (OpenSpec.upto buildEdgesSpec)

/-- 'thronglaw10.SectorParts', WHERE WHAT IT READS IS OF BULK AT MOST 1048576: true; the input reads as it did. -/
def sectorPartsUptoRow : OpenClaim := { program := "ytjjodfdmbiebnaa", sum := "c08d50ca08cb257b73982d79469b89188eaa6cf8a68a1fd4f356adfd4d66d48f", func := "throng/thronglaw10.SectorParts", spec := "sectorParts", apart := false, narrowed := true }
def SectorPartsUptoSaid : Prop := sectorPartsUptoRow.holds Try.pinned (OpenSpec.upto sectorPartsSpec)

/-- 'thronglaw10.SectorRedo', WHERE WHAT IT READS IS OF BULK AT MOST 1048576: true; the input reads as it did. -/
def sectorRedoUptoRow : OpenClaim := { program := "ytjjodfdmbiebnaa", sum := "c08d50ca08cb257b73982d79469b89188eaa6cf8a68a1fd4f356adfd4d66d48f", func := "throng/thronglaw10.SectorRedo", spec := "sectorRedo", apart := false, narrowed := true }
def SectorRedoUptoSaid : Prop := sectorRedoUptoRow.holds Try.pinned (OpenSpec.upto sectorRedoSpec)

/-- 'thronglaw10.SectorWhole', WHERE WHAT IT READS IS OF BULK AT MOST 1048576: true; the input reads as it did. -/
def sectorWholeUptoRow : OpenClaim := { program := "ytjjodfdmbiebnaa", sum := "c08d50ca08cb257b73982d79469b89188eaa6cf8a68a1fd4f356adfd4d66d48f", func := "throng/thronglaw10.SectorWhole", spec := "sectorWhole", apart := false, narrowed := true }
def SectorWholeUptoSaid : Prop := sectorWholeUptoRow.holds Try.pinned (OpenSpec.upto sectorWholeSpec)

/-- 'thronglaw12.QueueExact', WHERE WHAT IT READS IS OF BULK AT MOST 1048576: true; the input reads as it did. -/
def queueExactUptoRow : OpenClaim := { program := "ytjjodfdmbiebnaa", sum := "c08d50ca08cb257b73982d79469b89188eaa6cf8a68a1fd4f356adfd4d66d48f", func := "throng/thronglaw12.QueueExact", spec := "queueExact", apart := false, narrowed := true }
def QueueExactUptoSaid : Prop := queueExactUptoRow.holds Try.pinned (OpenSpec.upto queueExactSpec)

/-- 'thronglaw12.QueueRises', WHERE WHAT IT READS IS OF BULK AT MOST 1048576: true; the input reads as it did. -/
def queueRisesUptoRow : OpenClaim := { program := "ytjjodfdmbiebnaa", sum := "c08d50ca08cb257b73982d79469b89188eaa6cf8a68a1fd4f356adfd4d66d48f", func := "throng/thronglaw12.QueueRises", spec := "queueRises", apart := false, narrowed := true }
def QueueRisesUptoSaid : Prop := queueRisesUptoRow.holds Try.pinned (OpenSpec.upto queueRisesSpec)

/-- 'thronglaw12.QueueMixed', WHERE WHAT IT READS IS OF BULK AT MOST 1048576: true; the input reads as it did. -/
def queueMixedUptoRow : OpenClaim := { program := "ytjjodfdmbiebnaa", sum := "c08d50ca08cb257b73982d79469b89188eaa6cf8a68a1fd4f356adfd4d66d48f", func := "throng/thronglaw12.QueueMixed", spec := "queueMixed", apart := false, narrowed := true }
def QueueMixedUptoSaid : Prop := queueMixedUptoRow.holds Try.pinned (OpenSpec.upto queueMixedSpec)

end Rows
end Go.Proofs.Ytjjodfdmbiebnaa
