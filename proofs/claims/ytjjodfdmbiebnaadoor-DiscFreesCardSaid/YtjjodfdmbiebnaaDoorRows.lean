/-
  NARROWER THAN 'FOR EVERY INPUT', by the rows' own cells (each row's printed sentence says how): GroundBack: laid · GroundCounts: laid · ClearOpens: laid · ClearGrids: laid · ClearSquares: laid · ClearBuilt: laid · ClearWalls: laid · DiscFrees: laid · DiscFits: laid · DiscGrows: laid.
  DERIVED. THE GIVEN ROWS OF THIS SEAT. 10 by the template 'for every input the law returns true; each argument reads behind the call as it read before'; 0 by the template 'total and deterministic' (their statements: YtjjodfdmbiebnaaDoorTotals.lean).
  GIVEN WITH THE SEED: the statements are not yours to turn. If you find one false, say at which input.
  Laid BY PROGRAM, IN A SANDBOX (cutbox-rows.mjs): the forced cells as the released guide's own fill.sh prints them over the translation 0ca707e0608c895c… (all of the seat's roots in one cut). By AI agents, Wed Nov 11 2026. No macro, syntax, notation, axiom, sorry.
-/
import Derived.Test.YtjjodfdmbiebnaaDoorChecked
import GoSem.Claim
import GoSem.ClaimJoined
import GoSem.ClaimMapViews
import Derived.JoinedTies
import Derived.KernelRfl
namespace Go.Proofs.YtjjodfdmbiebnaaDoor
/- THE CELL 'sum', in the pinned program and in every row, IS THE sha256 OF THE DUMP (.gsa) THAT YtjjodfdmbiebnaaDoorProg.lean LOADS. Nothing in Lean hashes anything: it is a label: what it is worth is what the hold of that sum in a sandbox is worth. -/
noncomputable def Tryd.pinned : Pinned := { name := "ytjjodfdmbiebnaadoor", sum := "0ca707e0608c895c831b725aec4e7a4478086886f933284545be2d8e603623a5", checked := Tryd.checked }
namespace Rows
def none {H : Type} : Left H := { results := [], args := [] }

/- WHAT THE LISTED PACKAGE-LEVEL VARIABLES READ AS WHEN THE CALL BEGINS. Each datum BY PROGRAM (the guide's laid-datum.mjs) off the statement by which the dump's own 'gosem.cut.vars' lays the variable. In a bare row this is a premise. The card (YtjjodfdmbiebnaaDoorCards.lean) ties it to the program's text. -/
def laid_throng_tiles_offsets {H : Type} : DataW H := .agg [.agg [.lit (.int .i64 0), .lit (.int .i64 (-1))], .agg [.lit (.int .i64 1), .lit (.int .i64 0)], .agg [.lit (.int .i64 0), .lit (.int .i64 1)], .agg [.lit (.int .i64 (-1)), .lit (.int .i64 0)], .agg [.lit (.int .i64 1), .lit (.int .i64 (-1))], .agg [.lit (.int .i64 1), .lit (.int .i64 1)], .agg [.lit (.int .i64 (-1)), .lit (.int .i64 1)], .agg [.lit (.int .i64 (-1)), .lit (.int .i64 (-1))]]
def laid_throng_kind_costs {H : Type} : DataW H := .agg [.agg [.lit (.int .i64 2), .lit (.int .i64 1), .lit (.int .i64 3), .lit (.int .i64 5), .lit (.int .i64 0), .lit (.int .i64 0)], .agg [.lit (.int .i64 2), .lit (.int .i64 1), .lit (.int .i64 6), .lit (.int .i64 0), .lit (.int .i64 0), .lit (.int .i64 0)], .agg [.lit (.int .i64 2), .lit (.int .i64 1), .lit (.int .i64 0), .lit (.int .i64 3), .lit (.int .i64 2), .lit (.int .i64 0)]]

/-- 'thronglaw6.GroundBack': WHATEVER THE INPUT: true; the input reads as it did. -/
def groundBackSpec : ChangeSpec := { name := "groundBack", fn := fun _ => fun
  | [d] => { results := [.lit (.bool true)], args := [d] }
  | _ => none }
def groundBackRow : OpenClaim := { program := "ytjjodfdmbiebnaadoor", sum := "0ca707e0608c895c831b725aec4e7a4478086886f933284545be2d8e603623a5", func := "throng/thronglaw6.GroundBack", spec := "groundBack", named := ["throng/tiles.offsets"], apart := false, laid := [("throng/tiles.offsets", laid_throng_tiles_offsets)] }
def GroundBackSaid : Prop := groundBackRow.holds Tryd.pinned (OpenSpec.ofChange groundBackSpec)

/-- ITS FALSE NEIGHBOUR: 'it returns false'. Refute it at one input. -/
def groundBackWrong : ChangeSpec := { name := "groundBack", fn := fun _ => fun
  | [d] => { results := [.lit (.bool false)], args := [d] }
  | _ => none }
def GroundBackWrongFalsely : Prop := groundBackRow.holds Tryd.pinned (OpenSpec.ofChange groundBackWrong)

/-- 'thronglaw6.GroundCounts': WHATEVER THE INPUT: true; the input reads as it did. -/
def groundCountsSpec : ChangeSpec := { name := "groundCounts", fn := fun _ => fun
  | [d] => { results := [.lit (.bool true)], args := [d] }
  | _ => none }
def groundCountsRow : OpenClaim := { program := "ytjjodfdmbiebnaadoor", sum := "0ca707e0608c895c831b725aec4e7a4478086886f933284545be2d8e603623a5", func := "throng/thronglaw6.GroundCounts", spec := "groundCounts", named := ["throng/tiles.offsets"], apart := false, laid := [("throng/tiles.offsets", laid_throng_tiles_offsets)] }
def GroundCountsSaid : Prop := groundCountsRow.holds Tryd.pinned (OpenSpec.ofChange groundCountsSpec)

/-- ITS FALSE NEIGHBOUR: 'it returns false'. Refute it at one input. -/
def groundCountsWrong : ChangeSpec := { name := "groundCounts", fn := fun _ => fun
  | [d] => { results := [.lit (.bool false)], args := [d] }
  | _ => none }
def GroundCountsWrongFalsely : Prop := groundCountsRow.holds Tryd.pinned (OpenSpec.ofChange groundCountsWrong)

/-- 'thronglaw9.ClearOpens': WHATEVER THE INPUT: true; the input reads as it did. -/
def clearOpensSpec : ChangeSpec := { name := "clearOpens", fn := fun _ => fun
  | [d] => { results := [.lit (.bool true)], args := [d] }
  | _ => none }
def clearOpensRow : OpenClaim := { program := "ytjjodfdmbiebnaadoor", sum := "0ca707e0608c895c831b725aec4e7a4478086886f933284545be2d8e603623a5", func := "throng/thronglaw9.ClearOpens", spec := "clearOpens", unfollowed := true, recurses := true, named := ["throng/kind.costs"], apart := false, laid := [("throng/kind.costs", laid_throng_kind_costs)] }
def ClearOpensSaid : Prop := clearOpensRow.holds Tryd.pinned (OpenSpec.ofChange clearOpensSpec)

/-- ITS FALSE NEIGHBOUR: 'it returns false'. Refute it at one input. -/
def clearOpensWrong : ChangeSpec := { name := "clearOpens", fn := fun _ => fun
  | [d] => { results := [.lit (.bool false)], args := [d] }
  | _ => none }
def ClearOpensWrongFalsely : Prop := clearOpensRow.holds Tryd.pinned (OpenSpec.ofChange clearOpensWrong)

/-- 'thronglaw9.ClearGrids': WHATEVER THE INPUT: true; the input reads as it did. -/
def clearGridsSpec : ChangeSpec := { name := "clearGrids", fn := fun _ => fun
  | [d] => { results := [.lit (.bool true)], args := [d] }
  | _ => none }
def clearGridsRow : OpenClaim := { program := "ytjjodfdmbiebnaadoor", sum := "0ca707e0608c895c831b725aec4e7a4478086886f933284545be2d8e603623a5", func := "throng/thronglaw9.ClearGrids", spec := "clearGrids", unfollowed := true, recurses := true, named := ["throng/kind.costs"], apart := false, laid := [("throng/kind.costs", laid_throng_kind_costs)] }
def ClearGridsSaid : Prop := clearGridsRow.holds Tryd.pinned (OpenSpec.ofChange clearGridsSpec)

/-- ITS FALSE NEIGHBOUR: 'it returns false'. Refute it at one input. -/
def clearGridsWrong : ChangeSpec := { name := "clearGrids", fn := fun _ => fun
  | [d] => { results := [.lit (.bool false)], args := [d] }
  | _ => none }
def ClearGridsWrongFalsely : Prop := clearGridsRow.holds Tryd.pinned (OpenSpec.ofChange clearGridsWrong)

/-- 'thronglaw9.ClearSquares': WHATEVER THE INPUT: true; the input reads as it did. -/
def clearSquaresSpec : ChangeSpec := { name := "clearSquares", fn := fun _ => fun
  | [d] => { results := [.lit (.bool true)], args := [d] }
  | _ => none }
def clearSquaresRow : OpenClaim := { program := "ytjjodfdmbiebnaadoor", sum := "0ca707e0608c895c831b725aec4e7a4478086886f933284545be2d8e603623a5", func := "throng/thronglaw9.ClearSquares", spec := "clearSquares", unfollowed := true, recurses := true, named := ["throng/kind.costs"], apart := false, laid := [("throng/kind.costs", laid_throng_kind_costs)] }
def ClearSquaresSaid : Prop := clearSquaresRow.holds Tryd.pinned (OpenSpec.ofChange clearSquaresSpec)

/-- ITS FALSE NEIGHBOUR: 'it returns false'. Refute it at one input. -/
def clearSquaresWrong : ChangeSpec := { name := "clearSquares", fn := fun _ => fun
  | [d] => { results := [.lit (.bool false)], args := [d] }
  | _ => none }
def ClearSquaresWrongFalsely : Prop := clearSquaresRow.holds Tryd.pinned (OpenSpec.ofChange clearSquaresWrong)

/-- 'thronglaw9.ClearBuilt': WHATEVER THE INPUT: true; the input reads as it did. -/
def clearBuiltSpec : ChangeSpec := { name := "clearBuilt", fn := fun _ => fun
  | [d] => { results := [.lit (.bool true)], args := [d] }
  | _ => none }
def clearBuiltRow : OpenClaim := { program := "ytjjodfdmbiebnaadoor", sum := "0ca707e0608c895c831b725aec4e7a4478086886f933284545be2d8e603623a5", func := "throng/thronglaw9.ClearBuilt", spec := "clearBuilt", unfollowed := true, recurses := true, named := ["throng/kind.costs"], apart := false, laid := [("throng/kind.costs", laid_throng_kind_costs)] }
def ClearBuiltSaid : Prop := clearBuiltRow.holds Tryd.pinned (OpenSpec.ofChange clearBuiltSpec)

/-- ITS FALSE NEIGHBOUR: 'it returns false'. Refute it at one input. -/
def clearBuiltWrong : ChangeSpec := { name := "clearBuilt", fn := fun _ => fun
  | [d] => { results := [.lit (.bool false)], args := [d] }
  | _ => none }
def ClearBuiltWrongFalsely : Prop := clearBuiltRow.holds Tryd.pinned (OpenSpec.ofChange clearBuiltWrong)

/-- 'thronglaw9.ClearWalls': WHATEVER THE INPUT: true; the input reads as it did. -/
def clearWallsSpec : ChangeSpec := { name := "clearWalls", fn := fun _ => fun
  | [d] => { results := [.lit (.bool true)], args := [d] }
  | _ => none }
def clearWallsRow : OpenClaim := { program := "ytjjodfdmbiebnaadoor", sum := "0ca707e0608c895c831b725aec4e7a4478086886f933284545be2d8e603623a5", func := "throng/thronglaw9.ClearWalls", spec := "clearWalls", unfollowed := true, recurses := true, named := ["throng/kind.costs"], apart := false, laid := [("throng/kind.costs", laid_throng_kind_costs)] }
def ClearWallsSaid : Prop := clearWallsRow.holds Tryd.pinned (OpenSpec.ofChange clearWallsSpec)

/-- ITS FALSE NEIGHBOUR: 'it returns false'. Refute it at one input. -/
def clearWallsWrong : ChangeSpec := { name := "clearWalls", fn := fun _ => fun
  | [d] => { results := [.lit (.bool false)], args := [d] }
  | _ => none }
def ClearWallsWrongFalsely : Prop := clearWallsRow.holds Tryd.pinned (OpenSpec.ofChange clearWallsWrong)

/-- 'thronglaw17.DiscFrees': WHATEVER THE INPUT: true; the input reads as it did. -/
def discFreesSpec : ChangeSpec := { name := "discFrees", fn := fun _ => fun
  | [d] => { results := [.lit (.bool true)], args := [d] }
  | _ => none }
def discFreesRow : OpenClaim := { program := "ytjjodfdmbiebnaadoor", sum := "0ca707e0608c895c831b725aec4e7a4478086886f933284545be2d8e603623a5", func := "throng/thronglaw17.DiscFrees", spec := "discFrees", unfollowed := true, recurses := true, named := ["throng/kind.costs"], apart := false, laid := [("throng/kind.costs", laid_throng_kind_costs)] }
def DiscFreesSaid : Prop := discFreesRow.holds Tryd.pinned (OpenSpec.ofChange discFreesSpec)

/-- ITS FALSE NEIGHBOUR: 'it returns false'. Refute it at one input. -/
def discFreesWrong : ChangeSpec := { name := "discFrees", fn := fun _ => fun
  | [d] => { results := [.lit (.bool false)], args := [d] }
  | _ => none }
def DiscFreesWrongFalsely : Prop := discFreesRow.holds Tryd.pinned (OpenSpec.ofChange discFreesWrong)

/-- 'thronglaw17.DiscFits': WHATEVER THE INPUT: true; the input reads as it did. -/
def discFitsSpec : ChangeSpec := { name := "discFits", fn := fun _ => fun
  | [d] => { results := [.lit (.bool true)], args := [d] }
  | _ => none }
def discFitsRow : OpenClaim := { program := "ytjjodfdmbiebnaadoor", sum := "0ca707e0608c895c831b725aec4e7a4478086886f933284545be2d8e603623a5", func := "throng/thronglaw17.DiscFits", spec := "discFits", unfollowed := true, recurses := true, named := ["throng/kind.costs"], apart := false, laid := [("throng/kind.costs", laid_throng_kind_costs)] }
def DiscFitsSaid : Prop := discFitsRow.holds Tryd.pinned (OpenSpec.ofChange discFitsSpec)

/-- ITS FALSE NEIGHBOUR: 'it returns false'. Refute it at one input. -/
def discFitsWrong : ChangeSpec := { name := "discFits", fn := fun _ => fun
  | [d] => { results := [.lit (.bool false)], args := [d] }
  | _ => none }
def DiscFitsWrongFalsely : Prop := discFitsRow.holds Tryd.pinned (OpenSpec.ofChange discFitsWrong)

/-- 'thronglaw17.DiscGrows': WHATEVER THE INPUT: true; the input reads as it did. -/
def discGrowsSpec : ChangeSpec := { name := "discGrows", fn := fun _ => fun
  | [d] => { results := [.lit (.bool true)], args := [d] }
  | _ => none }
def discGrowsRow : OpenClaim := { program := "ytjjodfdmbiebnaadoor", sum := "0ca707e0608c895c831b725aec4e7a4478086886f933284545be2d8e603623a5", func := "throng/thronglaw17.DiscGrows", spec := "discGrows", unfollowed := true, recurses := true, named := ["throng/kind.costs"], apart := false, laid := [("throng/kind.costs", laid_throng_kind_costs)] }
def DiscGrowsSaid : Prop := discGrowsRow.holds Tryd.pinned (OpenSpec.ofChange discGrowsSpec)

/-- ITS FALSE NEIGHBOUR: 'it returns false'. Refute it at one input. -/
def discGrowsWrong : ChangeSpec := { name := "discGrows", fn := fun _ => fun
  | [d] => { results := [.lit (.bool false)], args := [d] }
  | _ => none }
def DiscGrowsWrongFalsely : Prop := discGrowsRow.holds Tryd.pinned (OpenSpec.ofChange discGrowsWrong)

/- THE SECOND FORM. 'bulk': how many values and letters a reading holds, each counted each time it is reached (what is shared counts as often as it is met; a slice's spare places count too). A statement '..UptoSaid' is the law's where the arguments, and the package variables that the reading takes, are together of bulk at most 1048576: NARROWER than '..Said'. Prove '..Said' where nothing that the law and all that it calls make is longer than what came in: it says more and counts as full. Else prove '..UptoSaid'. A law counts once. -/
mutual
def uptoBulk {H : Type} : DataW H → Nat
  | .lit (.string bytes) => bytes.length + 1
  | .lit _ => 1
  | .nil => 1
  | .ptr d => uptoBulk d + 1
  | .slice elems spare => uptoBulkAll elems + uptoBulkAll spare + 1
  | .agg parts => uptoBulkAll parts + 1
  | .iface _ d => uptoBulk d + 1
  | .map entries => uptoBulkEntries entries + 1
  | .held _ => 1
def uptoBulkAll {H : Type} : List (DataW H) → Nat
  | [] => 0
  | d :: r => uptoBulk d + uptoBulkAll r
def uptoBulkEntries {H : Type} : List (Lit × DataW H) → Nat
  | [] => 0
  | x :: r => uptoBulkEntry x + uptoBulkEntries r
def uptoBulkEntry {H : Type} : Lit × DataW H → Nat
  | (.string bytes, d) => bytes.length + uptoBulk d + 1
  | (_, d) => uptoBulk d + 1
 end
def uptoSmall : (H : Type) → List (DataW H) → Bool := fun _ ds => decide (uptoBulkAll ds ≤ 1048576)
def OpenSpec.upto (s : _root_.Go.ChangeSpec) : _root_.Go.OpenSpec := { _root_.Go.OpenSpec.ofChange s with cond := some uptoSmall }

/-- 'thronglaw6.GroundBack', WHERE WHAT IT READS IS OF BULK AT MOST 1048576: true; the input reads as it did. -/
def groundBackUptoRow : OpenClaim := { program := "ytjjodfdmbiebnaadoor", sum := "0ca707e0608c895c831b725aec4e7a4478086886f933284545be2d8e603623a5", func := "throng/thronglaw6.GroundBack", spec := "groundBack", named := ["throng/tiles.offsets"], apart := false, laid := [("throng/tiles.offsets", laid_throng_tiles_offsets)], narrowed := true }
def GroundBackUptoSaid : Prop := groundBackUptoRow.holds Tryd.pinned (OpenSpec.upto groundBackSpec)

/-- 'thronglaw6.GroundCounts', WHERE WHAT IT READS IS OF BULK AT MOST 1048576: true; the input reads as it did. -/
def groundCountsUptoRow : OpenClaim := { program := "ytjjodfdmbiebnaadoor", sum := "0ca707e0608c895c831b725aec4e7a4478086886f933284545be2d8e603623a5", func := "throng/thronglaw6.GroundCounts", spec := "groundCounts", named := ["throng/tiles.offsets"], apart := false, laid := [("throng/tiles.offsets", laid_throng_tiles_offsets)], narrowed := true }
def GroundCountsUptoSaid : Prop := groundCountsUptoRow.holds Tryd.pinned (OpenSpec.upto groundCountsSpec)

/-- 'thronglaw9.ClearOpens', WHERE WHAT IT READS IS OF BULK AT MOST 1048576: true; the input reads as it did. -/
def clearOpensUptoRow : OpenClaim := { program := "ytjjodfdmbiebnaadoor", sum := "0ca707e0608c895c831b725aec4e7a4478086886f933284545be2d8e603623a5", func := "throng/thronglaw9.ClearOpens", spec := "clearOpens", unfollowed := true, recurses := true, named := ["throng/kind.costs"], apart := false, laid := [("throng/kind.costs", laid_throng_kind_costs)], narrowed := true }
def ClearOpensUptoSaid : Prop := clearOpensUptoRow.holds Tryd.pinned (OpenSpec.upto clearOpensSpec)

/-- 'thronglaw9.ClearGrids', WHERE WHAT IT READS IS OF BULK AT MOST 1048576: true; the input reads as it did. -/
def clearGridsUptoRow : OpenClaim := { program := "ytjjodfdmbiebnaadoor", sum := "0ca707e0608c895c831b725aec4e7a4478086886f933284545be2d8e603623a5", func := "throng/thronglaw9.ClearGrids", spec := "clearGrids", unfollowed := true, recurses := true, named := ["throng/kind.costs"], apart := false, laid := [("throng/kind.costs", laid_throng_kind_costs)], narrowed := true }
def ClearGridsUptoSaid : Prop := clearGridsUptoRow.holds Tryd.pinned (OpenSpec.upto clearGridsSpec)

/-- 'thronglaw9.ClearSquares', WHERE WHAT IT READS IS OF BULK AT MOST 1048576: true; the input reads as it did. -/
def clearSquaresUptoRow : OpenClaim := { program := "ytjjodfdmbiebnaadoor", sum := "0ca707e0608c895c831b725aec4e7a4478086886f933284545be2d8e603623a5", func := "throng/thronglaw9.ClearSquares", spec := "clearSquares", unfollowed := true, recurses := true, named := ["throng/kind.costs"], apart := false, laid := [("throng/kind.costs", laid_throng_kind_costs)], narrowed := true }
def ClearSquaresUptoSaid : Prop := clearSquaresUptoRow.holds Tryd.pinned (OpenSpec.upto clearSquaresSpec)

/-- 'thronglaw9.ClearBuilt', WHERE WHAT IT READS IS OF BULK AT MOST 1048576: true; the input reads as it did. -/
def clearBuiltUptoRow : OpenClaim := { program := "ytjjodfdmbiebnaadoor", sum := "0ca707e0608c895c831b725aec4e7a4478086886f933284545be2d8e603623a5", func := "throng/thronglaw9.ClearBuilt", spec := "clearBuilt", unfollowed := true, recurses := true, named := ["throng/kind.costs"], apart := false, laid := [("throng/kind.costs", laid_throng_kind_costs)], narrowed := true }
def ClearBuiltUptoSaid : Prop := clearBuiltUptoRow.holds Tryd.pinned (OpenSpec.upto clearBuiltSpec)

/-- 'thronglaw9.ClearWalls', WHERE WHAT IT READS IS OF BULK AT MOST 1048576: true; the input reads as it did. -/
def clearWallsUptoRow : OpenClaim := { program := "ytjjodfdmbiebnaadoor", sum := "0ca707e0608c895c831b725aec4e7a4478086886f933284545be2d8e603623a5", func := "throng/thronglaw9.ClearWalls", spec := "clearWalls", unfollowed := true, recurses := true, named := ["throng/kind.costs"], apart := false, laid := [("throng/kind.costs", laid_throng_kind_costs)], narrowed := true }
def ClearWallsUptoSaid : Prop := clearWallsUptoRow.holds Tryd.pinned (OpenSpec.upto clearWallsSpec)

/-- 'thronglaw17.DiscFrees', WHERE WHAT IT READS IS OF BULK AT MOST 1048576: true; the input reads as it did. -/
def discFreesUptoRow : OpenClaim := { program := "ytjjodfdmbiebnaadoor", sum := "0ca707e0608c895c831b725aec4e7a4478086886f933284545be2d8e603623a5", func := "throng/thronglaw17.DiscFrees", spec := "discFrees", unfollowed := true, recurses := true, named := ["throng/kind.costs"], apart := false, laid := [("throng/kind.costs", laid_throng_kind_costs)], narrowed := true }
def DiscFreesUptoSaid : Prop := discFreesUptoRow.holds Tryd.pinned (OpenSpec.upto discFreesSpec)

/-- 'thronglaw17.DiscFits', WHERE WHAT IT READS IS OF BULK AT MOST 1048576: true; the input reads as it did. -/
def discFitsUptoRow : OpenClaim := { program := "ytjjodfdmbiebnaadoor", sum := "0ca707e0608c895c831b725aec4e7a4478086886f933284545be2d8e603623a5", func := "throng/thronglaw17.DiscFits", spec := "discFits", unfollowed := true, recurses := true, named := ["throng/kind.costs"], apart := false, laid := [("throng/kind.costs", laid_throng_kind_costs)], narrowed := true }
def DiscFitsUptoSaid : Prop := discFitsUptoRow.holds Tryd.pinned (OpenSpec.upto discFitsSpec)

/-- 'thronglaw17.DiscGrows', WHERE WHAT IT READS IS OF BULK AT MOST 1048576: true; the input reads as it did. -/
def discGrowsUptoRow : OpenClaim := { program := "ytjjodfdmbiebnaadoor", sum := "0ca707e0608c895c831b725aec4e7a4478086886f933284545be2d8e603623a5", func := "throng/thronglaw17.DiscGrows", spec := "discGrows", unfollowed := true, recurses := true, named := ["throng/kind.costs"], apart := false, laid := [("throng/kind.costs", laid_throng_kind_costs)], narrowed := true }
def DiscGrowsUptoSaid : Prop := discGrowsUptoRow.holds Tryd.pinned (OpenSpec.upto discGrowsSpec)

end Rows
end Go.Proofs.YtjjodfdmbiebnaaDoor
