/-
  No cell of these rows narrows 'for every input' (looked for: loops, veiled, ifaces, maps, wideKeys, modest, calm, conditions, laid).
  DERIVED. THE GIVEN ROWS OF THIS SEAT. 8 by the template 'for every input the law returns true; each argument reads behind the call as it read before'; 0 by the template 'total and deterministic' (their statements: YtkggejdbkllaaaaTotals.lean).
  GIVEN WITH THE SEED: the statements are not yours to turn. If you find one false, say at which input.
  Laid BY PROGRAM, IN A SANDBOX (cutbox-rows.mjs): the forced cells as the released guide's own fill.sh prints them over the translation b474b2e3197816ec… (all of the seat's roots in one cut). By AI agents, Wed Nov 11 2026. No macro, syntax, notation, axiom, sorry.
-/
import Derived.Test.YtkggejdbkllaaaaChecked
import GoSem.Claim
import GoSem.ClaimJoined
import GoSem.ClaimMapViews
import Derived.JoinedTies
import Derived.KernelRfl
namespace Go.Proofs.Ytkggejdbkllaaaa
/- THE CELL 'sum', in the pinned program and in every row, IS THE sha256 OF THE DUMP (.gsa) THAT YtkggejdbkllaaaaProg.lean LOADS. Nothing in Lean hashes anything: it is a label: what it is worth is what the hold of that sum in a sandbox is worth. -/
noncomputable def Try.pinned : Pinned := { name := "ytkggejdbkllaaaa", sum := "b474b2e3197816ecf63e8d7883199908a713566daa1480dc77cb13f689e06f4f", checked := Try.checked }
namespace Rows
def none {H : Type} : Left H := { results := [], args := [] }

/-- 'thronglaw10.SectorNumbers': WHATEVER THE INPUT: true; the input reads as it did. -/
def sectorNumbersSpec : ChangeSpec := { name := "sectorNumbers", fn := fun _ => fun
  | [d] => { results := [.lit (.bool true)], args := [d] }
  | _ => none }
def sectorNumbersRow : OpenClaim := { program := "ytkggejdbkllaaaa", sum := "b474b2e3197816ecf63e8d7883199908a713566daa1480dc77cb13f689e06f4f", func := "throng/thronglaw10.SectorNumbers", spec := "sectorNumbers", apart := false }
def SectorNumbersSaid : Prop := sectorNumbersRow.holds Try.pinned (OpenSpec.ofChange sectorNumbersSpec)

/-- ITS FALSE NEIGHBOUR: 'it returns false'. Refute it at one input. -/
def sectorNumbersWrong : ChangeSpec := { name := "sectorNumbers", fn := fun _ => fun
  | [d] => { results := [.lit (.bool false)], args := [d] }
  | _ => none }
def SectorNumbersWrongFalsely : Prop := sectorNumbersRow.holds Try.pinned (OpenSpec.ofChange sectorNumbersWrong)

/-- 'thronglaw10.SectorParts': WHATEVER THE INPUT: true; the input reads as it did. -/
def sectorPartsSpec : ChangeSpec := { name := "sectorParts", fn := fun _ => fun
  | [d] => { results := [.lit (.bool true)], args := [d] }
  | _ => none }
def sectorPartsRow : OpenClaim := { program := "ytkggejdbkllaaaa", sum := "b474b2e3197816ecf63e8d7883199908a713566daa1480dc77cb13f689e06f4f", func := "throng/thronglaw10.SectorParts", spec := "sectorParts", apart := false }
def SectorPartsSaid : Prop := sectorPartsRow.holds Try.pinned (OpenSpec.ofChange sectorPartsSpec)

/-- ITS FALSE NEIGHBOUR: 'it returns false'. Refute it at one input. -/
def sectorPartsWrong : ChangeSpec := { name := "sectorParts", fn := fun _ => fun
  | [d] => { results := [.lit (.bool false)], args := [d] }
  | _ => none }
def SectorPartsWrongFalsely : Prop := sectorPartsRow.holds Try.pinned (OpenSpec.ofChange sectorPartsWrong)

/-- 'thronglaw10.SectorRedo': WHATEVER THE INPUT: true; the input reads as it did. -/
def sectorRedoSpec : ChangeSpec := { name := "sectorRedo", fn := fun _ => fun
  | [d] => { results := [.lit (.bool true)], args := [d] }
  | _ => none }
def sectorRedoRow : OpenClaim := { program := "ytkggejdbkllaaaa", sum := "b474b2e3197816ecf63e8d7883199908a713566daa1480dc77cb13f689e06f4f", func := "throng/thronglaw10.SectorRedo", spec := "sectorRedo", apart := false }
def SectorRedoSaid : Prop := sectorRedoRow.holds Try.pinned (OpenSpec.ofChange sectorRedoSpec)

/-- ITS FALSE NEIGHBOUR: 'it returns false'. Refute it at one input. -/
def sectorRedoWrong : ChangeSpec := { name := "sectorRedo", fn := fun _ => fun
  | [d] => { results := [.lit (.bool false)], args := [d] }
  | _ => none }
def SectorRedoWrongFalsely : Prop := sectorRedoRow.holds Try.pinned (OpenSpec.ofChange sectorRedoWrong)

/-- 'thronglaw10.SectorWhole': WHATEVER THE INPUT: true; the input reads as it did. -/
def sectorWholeSpec : ChangeSpec := { name := "sectorWhole", fn := fun _ => fun
  | [d] => { results := [.lit (.bool true)], args := [d] }
  | _ => none }
def sectorWholeRow : OpenClaim := { program := "ytkggejdbkllaaaa", sum := "b474b2e3197816ecf63e8d7883199908a713566daa1480dc77cb13f689e06f4f", func := "throng/thronglaw10.SectorWhole", spec := "sectorWhole", apart := false }
def SectorWholeSaid : Prop := sectorWholeRow.holds Try.pinned (OpenSpec.ofChange sectorWholeSpec)

/-- ITS FALSE NEIGHBOUR: 'it returns false'. Refute it at one input. -/
def sectorWholeWrong : ChangeSpec := { name := "sectorWhole", fn := fun _ => fun
  | [d] => { results := [.lit (.bool false)], args := [d] }
  | _ => none }
def SectorWholeWrongFalsely : Prop := sectorWholeRow.holds Try.pinned (OpenSpec.ofChange sectorWholeWrong)

/-- 'thronglaw10.SectorEdges': WHATEVER THE INPUT: true; the input reads as it did. -/
def sectorEdgesSpec : ChangeSpec := { name := "sectorEdges", fn := fun _ => fun
  | [d] => { results := [.lit (.bool true)], args := [d] }
  | _ => none }
def sectorEdgesRow : OpenClaim := { program := "ytkggejdbkllaaaa", sum := "b474b2e3197816ecf63e8d7883199908a713566daa1480dc77cb13f689e06f4f", func := "throng/thronglaw10.SectorEdges", spec := "sectorEdges", apart := false }
def SectorEdgesSaid : Prop := sectorEdgesRow.holds Try.pinned (OpenSpec.ofChange sectorEdgesSpec)

/-- ITS FALSE NEIGHBOUR: 'it returns false'. Refute it at one input. -/
def sectorEdgesWrong : ChangeSpec := { name := "sectorEdges", fn := fun _ => fun
  | [d] => { results := [.lit (.bool false)], args := [d] }
  | _ => none }
def SectorEdgesWrongFalsely : Prop := sectorEdgesRow.holds Try.pinned (OpenSpec.ofChange sectorEdgesWrong)

/-- 'thronglaw17.DiscMeets': WHATEVER THE INPUT: true; the input reads as it did. -/
def discMeetsSpec : ChangeSpec := { name := "discMeets", fn := fun _ => fun
  | [d] => { results := [.lit (.bool true)], args := [d] }
  | _ => none }
def discMeetsRow : OpenClaim := { program := "ytkggejdbkllaaaa", sum := "b474b2e3197816ecf63e8d7883199908a713566daa1480dc77cb13f689e06f4f", func := "throng/thronglaw17.DiscMeets", spec := "discMeets", apart := false }
def DiscMeetsSaid : Prop := discMeetsRow.holds Try.pinned (OpenSpec.ofChange discMeetsSpec)

/-- ITS FALSE NEIGHBOUR: 'it returns false'. Refute it at one input. -/
def discMeetsWrong : ChangeSpec := { name := "discMeets", fn := fun _ => fun
  | [d] => { results := [.lit (.bool false)], args := [d] }
  | _ => none }
def DiscMeetsWrongFalsely : Prop := discMeetsRow.holds Try.pinned (OpenSpec.ofChange discMeetsWrong)

/-- 'thronglaw17.DiscAparts': WHATEVER THE INPUT: true; the input reads as it did. -/
def discApartsSpec : ChangeSpec := { name := "discAparts", fn := fun _ => fun
  | [d] => { results := [.lit (.bool true)], args := [d] }
  | _ => none }
def discApartsRow : OpenClaim := { program := "ytkggejdbkllaaaa", sum := "b474b2e3197816ecf63e8d7883199908a713566daa1480dc77cb13f689e06f4f", func := "throng/thronglaw17.DiscAparts", spec := "discAparts", apart := false }
def DiscApartsSaid : Prop := discApartsRow.holds Try.pinned (OpenSpec.ofChange discApartsSpec)

/-- ITS FALSE NEIGHBOUR: 'it returns false'. Refute it at one input. -/
def discApartsWrong : ChangeSpec := { name := "discAparts", fn := fun _ => fun
  | [d] => { results := [.lit (.bool false)], args := [d] }
  | _ => none }
def DiscApartsWrongFalsely : Prop := discApartsRow.holds Try.pinned (OpenSpec.ofChange discApartsWrong)

/-- 'thronglaw17.DiscTouches': WHATEVER THE INPUT: true; the input reads as it did. -/
def discTouchesSpec : ChangeSpec := { name := "discTouches", fn := fun _ => fun
  | [d] => { results := [.lit (.bool true)], args := [d] }
  | _ => none }
def discTouchesRow : OpenClaim := { program := "ytkggejdbkllaaaa", sum := "b474b2e3197816ecf63e8d7883199908a713566daa1480dc77cb13f689e06f4f", func := "throng/thronglaw17.DiscTouches", spec := "discTouches", apart := false }
def DiscTouchesSaid : Prop := discTouchesRow.holds Try.pinned (OpenSpec.ofChange discTouchesSpec)

/-- ITS FALSE NEIGHBOUR: 'it returns false'. Refute it at one input. -/
def discTouchesWrong : ChangeSpec := { name := "discTouches", fn := fun _ => fun
  | [d] => { results := [.lit (.bool false)], args := [d] }
  | _ => none }
def DiscTouchesWrongFalsely : Prop := discTouchesRow.holds Try.pinned (OpenSpec.ofChange discTouchesWrong)

/- THE SECOND FORM. 'bulk': how many values and letters a reading holds, each counted each time it is reached (what is shared counts as often as it is met; a slice's spare places count too). A statement '..UptoSaid' is the law's where the arguments, and the package variables that the reading takes, are together of bulk at most 1048576: NARROWER than '..Said'. Prove '..Said' where nothing that the law and all that it calls make is longer than what came in: it says more and counts as full. Else prove '..UptoSaid'. A law counts once. -/
mutual
def uptoBulk {H : Type} : DataW H → Nat
  | .lit (.string bytes) => bytes.length + 1
  | .lit _ => 1
  | .nil => 1
  | .ptr d => uptoBulk d + 1
  | .slice elems spare => uptoBulkAll elems + uptoBulkAll spare + 1
  | .agg parts => uptoBulkAll parts + 1
  | .iface _ d => uptoBulk d + 1
  | .map entries => uptoBulkEntries entries + 1
  | .held _ => 1
def uptoBulkAll {H : Type} : List (DataW H) → Nat
  | [] => 0
  | d :: r => uptoBulk d + uptoBulkAll r
def uptoBulkEntries {H : Type} : List (Lit × DataW H) → Nat
  | [] => 0
  | x :: r => uptoBulkEntry x + uptoBulkEntries r
def uptoBulkEntry {H : Type} : Lit × DataW H → Nat
  | (.string bytes, d) => bytes.length + uptoBulk d + 1
  | (_, d) => uptoBulk d + 1
 end
def uptoSmall : (H : Type) → List (DataW H) → Bool := fun _ ds => decide (uptoBulkAll ds ≤ 1048576)
def OpenSpec.upto (s : _root_.Go.ChangeSpec) : _root_.Go.OpenSpec := { _root_.Go.OpenSpec.ofChange s with cond := some uptoSmall }

/-- 'thronglaw10.SectorNumbers', WHERE WHAT IT READS IS OF BULK AT MOST 1048576: true; the input reads as it did. -/
def sectorNumbersUptoRow : OpenClaim := { program := "ytkggejdbkllaaaa", sum := "b474b2e3197816ecf63e8d7883199908a713566daa1480dc77cb13f689e06f4f", func := "throng/thronglaw10.SectorNumbers", spec := "sectorNumbers", apart := false, narrowed := true }
def SectorNumbersUptoSaid : Prop := sectorNumbersUptoRow.holds Try.pinned (OpenSpec.upto sectorNumbersSpec)

/-- 'thronglaw10.SectorParts', WHERE WHAT IT READS IS OF BULK AT MOST 1048576: true; the input reads as it did. -/
def sectorPartsUptoRow : OpenClaim := { program := "ytkggejdbkllaaaa", sum := "b474b2e3197816ecf63e8d7883199908a713566daa1480dc77cb13f689e06f4f", func := "throng/thronglaw10.SectorParts", spec := "sectorParts", apart := false, narrowed := true }
def SectorPartsUptoSaid : Prop := sectorPartsUptoRow.holds Try.pinned (OpenSpec.upto sectorPartsSpec)

/-- 'thronglaw10.SectorRedo', WHERE WHAT IT READS IS OF BULK AT MOST 1048576: true; the input reads as it did. -/
def sectorRedoUptoRow : OpenClaim := { program := "ytkggejdbkllaaaa", sum := "b474b2e3197816ecf63e8d7883199908a713566daa1480dc77cb13f689e06f4f", func := "throng/thronglaw10.SectorRedo", spec := "sectorRedo", apart := false, narrowed := true }
def SectorRedoUptoSaid : Prop := sectorRedoUptoRow.holds Try.pinned (OpenSpec.upto sectorRedoSpec)

/-- 'thronglaw10.SectorWhole', WHERE WHAT IT READS IS OF BULK AT MOST 1048576: true; the input reads as it did. -/
def sectorWholeUptoRow : OpenClaim := { program := "ytkggejdbkllaaaa", sum := "b474b2e3197816ecf63e8d7883199908a713566daa1480dc77cb13f689e06f4f", func := "throng/thronglaw10.SectorWhole", spec := "sectorWhole", apart := false, narrowed := true }
def SectorWholeUptoSaid : Prop := sectorWholeUptoRow.holds Try.pinned (OpenSpec.upto sectorWholeSpec)

/-- 'thronglaw10.SectorEdges', WHERE WHAT IT READS IS OF BULK AT MOST 1048576: true; the input reads as it did. -/
def sectorEdgesUptoRow : OpenClaim := { program := "ytkggejdbkllaaaa", sum := "b474b2e3197816ecf63e8d7883199908a713566daa1480dc77cb13f689e06f4f", func := "throng/thronglaw10.SectorEdges", spec := "sectorEdges", apart := false, narrowed := true }
def SectorEdgesUptoSaid : Prop := sectorEdgesUptoRow.holds Try.pinned (OpenSpec.upto sectorEdgesSpec)

/-- 'thronglaw17.DiscMeets', WHERE WHAT IT READS IS OF BULK AT MOST 1048576: true; the input reads as it did. -/
def discMeetsUptoRow : OpenClaim := { program := "ytkggejdbkllaaaa", sum := "b474b2e3197816ecf63e8d7883199908a713566daa1480dc77cb13f689e06f4f", func := "throng/thronglaw17.DiscMeets", spec := "discMeets", apart := false, narrowed := true }
def DiscMeetsUptoSaid : Prop := discMeetsUptoRow.holds Try.pinned (OpenSpec.upto discMeetsSpec)

/-- 'thronglaw17.DiscAparts', WHERE WHAT IT READS IS OF BULK AT MOST 1048576: true; the input reads as it did. -/
def discApartsUptoRow : OpenClaim := { program := "ytkggejdbkllaaaa", sum := "b474b2e3197816ecf63e8d7883199908a713566daa1480dc77cb13f689e06f4f", func := "throng/thronglaw17.DiscAparts", spec := "discAparts", apart := false, narrowed := true }
def DiscApartsUptoSaid : Prop := discApartsUptoRow.holds Try.pinned (OpenSpec.upto discApartsSpec)

/-- 'thronglaw17.DiscTouches', WHERE WHAT IT READS IS OF BULK AT MOST 1048576: true; the input reads as it did. -/
def discTouchesUptoRow : OpenClaim := { program := "ytkggejdbkllaaaa", sum := "b474b2e3197816ecf63e8d7883199908a713566daa1480dc77cb13f689e06f4f", func := "throng/thronglaw17.DiscTouches", spec := "discTouches", apart := false, narrowed := true }
def DiscTouchesUptoSaid : Prop := discTouchesUptoRow.holds Try.pinned (OpenSpec.upto discTouchesSpec)

end Rows
end Go.Proofs.Ytkggejdbkllaaaa
