/-
  NARROWER THAN 'FOR EVERY INPUT', by the rows' own cells (each row's printed sentence says how): GroundTiles: laid · GroundPlaces: laid · GroundNears: laid · GroundBack: laid · GroundCounts: laid.
  DERIVED. THE GIVEN ROWS OF THIS SEAT. 5 by the template 'for every input the law returns true; each argument reads behind the call as it read before'; 0 by the template 'total and deterministic' (their statements: YtmkehmeoglpkeaaDoorTotals.lean).
  GIVEN WITH THE SEED: the statements are not yours to turn. If you find one false, say at which input.
  Laid BY PROGRAM, IN A SANDBOX (cutbox-rows.mjs): the forced cells as the released guide's own fill.sh prints them over the translation 29bc32730e27eece… (all of the seat's roots in one cut). By AI agents, Wed Nov 11 2026. No macro, syntax, notation, axiom, sorry.
-/
import Derived.Test.YtmkehmeoglpkeaaDoorChecked
import GoSem.Claim
import GoSem.ClaimJoined
import GoSem.ClaimMapViews
import Derived.JoinedTies
import Derived.KernelRfl
namespace Go.Proofs.YtmkehmeoglpkeaaDoor
/- THE CELL 'sum', in the pinned program and in every row, IS THE sha256 OF THE DUMP (.gsa) THAT YtmkehmeoglpkeaaDoorProg.lean LOADS. Nothing in Lean hashes anything: it is a label: what it is worth is what the hold of that sum in a sandbox is worth. -/
noncomputable def Tryd.pinned : Pinned := { name := "ytmkehmeoglpkeaadoor", sum := "29bc32730e27eece32e8b7b102ad6650b92cc6bd19753d7299c129b2ebe5a715", checked := Tryd.checked }
namespace Rows
def none {H : Type} : Left H := { results := [], args := [] }

/- WHAT THE LISTED PACKAGE-LEVEL VARIABLES READ AS WHEN THE CALL BEGINS. Each datum BY PROGRAM (the guide's laid-datum.mjs) off the statement by which the dump's own 'gosem.cut.vars' lays the variable. In a bare row this is a premise. The card (YtmkehmeoglpkeaaDoorCards.lean) ties it to the program's text. -/
def laid_throng_tiles_offsets {H : Type} : DataW H := .agg [.agg [.lit (.int .i64 0), .lit (.int .i64 (-1))], .agg [.lit (.int .i64 1), .lit (.int .i64 0)], .agg [.lit (.int .i64 0), .lit (.int .i64 1)], .agg [.lit (.int .i64 (-1)), .lit (.int .i64 0)], .agg [.lit (.int .i64 1), .lit (.int .i64 (-1))], .agg [.lit (.int .i64 1), .lit (.int .i64 1)], .agg [.lit (.int .i64 (-1)), .lit (.int .i64 1)], .agg [.lit (.int .i64 (-1)), .lit (.int .i64 (-1))]]

/-- 'thronglaw6.GroundTiles': WHATEVER THE INPUT: true; the input reads as it did. -/
def groundTilesSpec : ChangeSpec := { name := "groundTiles", fn := fun _ => fun
  | [d] => { results := [.lit (.bool true)], args := [d] }
  | _ => none }
def groundTilesRow : OpenClaim := { program := "ytmkehmeoglpkeaadoor", sum := "29bc32730e27eece32e8b7b102ad6650b92cc6bd19753d7299c129b2ebe5a715", func := "throng/thronglaw6.GroundTiles", spec := "groundTiles", named := ["throng/tiles.offsets"], apart := false, laid := [("throng/tiles.offsets", laid_throng_tiles_offsets)] }
def GroundTilesSaid : Prop := groundTilesRow.holds Tryd.pinned (OpenSpec.ofChange groundTilesSpec)

/-- ITS FALSE NEIGHBOUR: 'it returns false'. Refute it at one input. -/
def groundTilesWrong : ChangeSpec := { name := "groundTiles", fn := fun _ => fun
  | [d] => { results := [.lit (.bool false)], args := [d] }
  | _ => none }
def GroundTilesWrongFalsely : Prop := groundTilesRow.holds Tryd.pinned (OpenSpec.ofChange groundTilesWrong)

/-- 'thronglaw6.GroundPlaces': WHATEVER THE INPUT: true; the input reads as it did. -/
def groundPlacesSpec : ChangeSpec := { name := "groundPlaces", fn := fun _ => fun
  | [d] => { results := [.lit (.bool true)], args := [d] }
  | _ => none }
def groundPlacesRow : OpenClaim := { program := "ytmkehmeoglpkeaadoor", sum := "29bc32730e27eece32e8b7b102ad6650b92cc6bd19753d7299c129b2ebe5a715", func := "throng/thronglaw6.GroundPlaces", spec := "groundPlaces", named := ["throng/tiles.offsets"], apart := false, laid := [("throng/tiles.offsets", laid_throng_tiles_offsets)] }
def GroundPlacesSaid : Prop := groundPlacesRow.holds Tryd.pinned (OpenSpec.ofChange groundPlacesSpec)

/-- ITS FALSE NEIGHBOUR: 'it returns false'. Refute it at one input. -/
def groundPlacesWrong : ChangeSpec := { name := "groundPlaces", fn := fun _ => fun
  | [d] => { results := [.lit (.bool false)], args := [d] }
  | _ => none }
def GroundPlacesWrongFalsely : Prop := groundPlacesRow.holds Tryd.pinned (OpenSpec.ofChange groundPlacesWrong)

/-- 'thronglaw6.GroundNears': WHATEVER THE INPUT: true; the input reads as it did. -/
def groundNearsSpec : ChangeSpec := { name := "groundNears", fn := fun _ => fun
  | [d] => { results := [.lit (.bool true)], args := [d] }
  | _ => none }
def groundNearsRow : OpenClaim := { program := "ytmkehmeoglpkeaadoor", sum := "29bc32730e27eece32e8b7b102ad6650b92cc6bd19753d7299c129b2ebe5a715", func := "throng/thronglaw6.GroundNears", spec := "groundNears", named := ["throng/tiles.offsets"], apart := false, laid := [("throng/tiles.offsets", laid_throng_tiles_offsets)] }
def GroundNearsSaid : Prop := groundNearsRow.holds Tryd.pinned (OpenSpec.ofChange groundNearsSpec)

/-- ITS FALSE NEIGHBOUR: 'it returns false'. Refute it at one input. -/
def groundNearsWrong : ChangeSpec := { name := "groundNears", fn := fun _ => fun
  | [d] => { results := [.lit (.bool false)], args := [d] }
  | _ => none }
def GroundNearsWrongFalsely : Prop := groundNearsRow.holds Tryd.pinned (OpenSpec.ofChange groundNearsWrong)

/-- 'thronglaw6.GroundBack': WHATEVER THE INPUT: true; the input reads as it did. -/
def groundBackSpec : ChangeSpec := { name := "groundBack", fn := fun _ => fun
  | [d] => { results := [.lit (.bool true)], args := [d] }
  | _ => none }
def groundBackRow : OpenClaim := { program := "ytmkehmeoglpkeaadoor", sum := "29bc32730e27eece32e8b7b102ad6650b92cc6bd19753d7299c129b2ebe5a715", func := "throng/thronglaw6.GroundBack", spec := "groundBack", named := ["throng/tiles.offsets"], apart := false, laid := [("throng/tiles.offsets", laid_throng_tiles_offsets)] }
def GroundBackSaid : Prop := groundBackRow.holds Tryd.pinned (OpenSpec.ofChange groundBackSpec)

/-- ITS FALSE NEIGHBOUR: 'it returns false'. Refute it at one input. -/
def groundBackWrong : ChangeSpec := { name := "groundBack", fn := fun _ => fun
  | [d] => { results := [.lit (.bool false)], args := [d] }
  | _ => none }
def GroundBackWrongFalsely : Prop := groundBackRow.holds Tryd.pinned (OpenSpec.ofChange groundBackWrong)

/-- 'thronglaw6.GroundCounts': WHATEVER THE INPUT: true; the input reads as it did. -/
def groundCountsSpec : ChangeSpec := { name := "groundCounts", fn := fun _ => fun
  | [d] => { results := [.lit (.bool true)], args := [d] }
  | _ => none }
def groundCountsRow : OpenClaim := { program := "ytmkehmeoglpkeaadoor", sum := "29bc32730e27eece32e8b7b102ad6650b92cc6bd19753d7299c129b2ebe5a715", func := "throng/thronglaw6.GroundCounts", spec := "groundCounts", named := ["throng/tiles.offsets"], apart := false, laid := [("throng/tiles.offsets", laid_throng_tiles_offsets)] }
def GroundCountsSaid : Prop := groundCountsRow.holds Tryd.pinned (OpenSpec.ofChange groundCountsSpec)

/-- ITS FALSE NEIGHBOUR: 'it returns false'. Refute it at one input. -/
def groundCountsWrong : ChangeSpec := { name := "groundCounts", fn := fun _ => fun
  | [d] => { results := [.lit (.bool false)], args := [d] }
  | _ => none }
def GroundCountsWrongFalsely : Prop := groundCountsRow.holds Tryd.pinned (OpenSpec.ofChange groundCountsWrong)

/- THE SECOND FORM. 'bulk': how many values and letters a reading holds, each counted each time it is reached (what is shared counts as often as it is met; a slice's spare places count too). A statement '..UptoSaid' is the law's where the arguments, and the package variables that the reading takes, are together of bulk at most 1048576: NARROWER than '..Said'. Prove '..Said' where nothing that the law and all that it calls make is longer than what came in: it says more and counts as full. Else prove '..UptoSaid'. A law counts once. -/
mutual
def uptoBulk {H : Type} : DataW H → Nat
  | .lit (.string bytes) => bytes.length + 1
  | .lit _ => 1
  | .nil => 1
  | .ptr d => uptoBulk d + 1
  | .slice elems spare => uptoBulkAll elems + uptoBulkAll spare + 1
  | .agg parts => uptoBulkAll parts + 1
  | .iface _ d => uptoBulk d + 1
  | .map entries => uptoBulkEntries entries + 1
  | .held _ => 1
def uptoBulkAll {H : Type} : List (DataW H) → Nat
  | [] => 0
  | d :: r => uptoBulk d + uptoBulkAll r
def uptoBulkEntries {H : Type} : List (Lit × DataW H) → Nat
  | [] => 0
  | x :: r => uptoBulkEntry x + uptoBulkEntries r
def uptoBulkEntry {H : Type} : Lit × DataW H → Nat
  | (.string bytes, d) => bytes.length + uptoBulk d + 1
  | (_, d) => uptoBulk d + 1
 end
def uptoSmall : (H : Type) → List (DataW H) → Bool := fun _ ds => decide (uptoBulkAll ds ≤ 1048576)
def OpenSpec.upto (s : _root_.Go.ChangeSpec) : _root_.Go.OpenSpec := { _root_.Go.OpenSpec.ofChange s with cond := some uptoSmall }

/-- 'thronglaw6.GroundTiles', WHERE WHAT IT READS IS OF BULK AT MOST 1048576: true; the input reads as it did. -/
def groundTilesUptoRow : OpenClaim := { program := "ytmkehmeoglpkeaadoor", sum := "29bc32730e27eece32e8b7b102ad6650b92cc6bd19753d7299c129b2ebe5a715", func := "throng/thronglaw6.GroundTiles", spec := "groundTiles", named := ["throng/tiles.offsets"], apart := false, laid := [("throng/tiles.offsets", laid_throng_tiles_offsets)], narrowed := true }
def GroundTilesUptoSaid : Prop := groundTilesUptoRow.holds Tryd.pinned (OpenSpec.upto groundTilesSpec)

/-- 'thronglaw6.GroundPlaces', WHERE WHAT IT READS IS OF BULK AT MOST 1048576: true; the input reads as it did. -/
def groundPlacesUptoRow : OpenClaim := { program := "ytmkehmeoglpkeaadoor", sum := "29bc32730e27eece32e8b7b102ad6650b92cc6bd19753d7299c129b2ebe5a715", func := "throng/thronglaw6.GroundPlaces", spec := "groundPlaces", named := ["throng/tiles.offsets"], apart := false, laid := [("throng/tiles.offsets", laid_throng_tiles_offsets)], narrowed := true }
def GroundPlacesUptoSaid : Prop := groundPlacesUptoRow.holds Tryd.pinned (OpenSpec.upto groundPlacesSpec)

/-- 'thronglaw6.GroundNears', WHERE WHAT IT READS IS OF BULK AT MOST 1048576: true; the input reads as it did. -/
def groundNearsUptoRow : OpenClaim := { program := "ytmkehmeoglpkeaadoor", sum := "29bc32730e27eece32e8b7b102ad6650b92cc6bd19753d7299c129b2ebe5a715", func := "throng/thronglaw6.GroundNears", spec := "groundNears", named := ["throng/tiles.offsets"], apart := false, laid := [("throng/tiles.offsets", laid_throng_tiles_offsets)], narrowed := true }
def GroundNearsUptoSaid : Prop := groundNearsUptoRow.holds Tryd.pinned (OpenSpec.upto groundNearsSpec)

/-- 'thronglaw6.GroundBack', WHERE WHAT IT READS IS OF BULK AT MOST 1048576: true; the input reads as it did. -/
def groundBackUptoRow : OpenClaim := { program := "ytmkehmeoglpkeaadoor", sum := "29bc32730e27eece32e8b7b102ad6650b92cc6bd19753d7299c129b2ebe5a715", func := "throng/thronglaw6.GroundBack", spec := "groundBack", named := ["throng/tiles.offsets"], apart := false, laid := [("throng/tiles.offsets", laid_throng_tiles_offsets)], narrowed := true }
def GroundBackUptoSaid : Prop := groundBackUptoRow.holds Tryd.pinned (OpenSpec.upto groundBackSpec)

/-- 'thronglaw6.GroundCounts', WHERE WHAT IT READS IS OF BULK AT MOST 1048576: true; the input reads as it did. -/
def groundCountsUptoRow : OpenClaim := { program := "ytmkehmeoglpkeaadoor", sum := "29bc32730e27eece32e8b7b102ad6650b92cc6bd19753d7299c129b2ebe5a715", func := "throng/thronglaw6.GroundCounts", spec := "groundCounts", named := ["throng/tiles.offsets"], apart := false, laid := [("throng/tiles.offsets", laid_throng_tiles_offsets)], narrowed := true }
def GroundCountsUptoSaid : Prop := groundCountsUptoRow.holds Tryd.pinned (OpenSpec.upto groundCountsSpec)

end Rows
end Go.Proofs.YtmkehmeoglpkeaaDoor
