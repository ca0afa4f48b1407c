/-
  NARROWER THAN 'FOR EVERY INPUT', by the rows' own cells (each row's printed sentence says how): FieldGoods: laid · FieldMakes: laid · FieldDirs: laid · FieldGoes: laid · FieldTurned: laid · FieldSizes: laid · FieldPlain: laid · FieldRoads: laid · RouteWays: laid · RouteTurned: laid · RouteSteps: laid · SlotsFinds: laid · SlotsApart: laid · SlotsRings: laid.
  DERIVED. THE GIVEN ROWS OF THIS SEAT. 14 by the template 'for every input the law returns true; each argument reads behind the call as it read before'; 0 by the template 'total and deterministic' (their statements: YthabjihpjdlmoaaDoorTotals.lean).
  GIVEN WITH THE SEED: the statements are not yours to turn. If you find one false, say at which input.
  Laid BY PROGRAM, IN A SANDBOX (cutbox-rows.mjs): the forced cells as the released guide's own fill.sh prints them over the translation ecd31fb99ee25ef4… (all of the seat's roots in one cut). By AI agents, Wed Nov 11 2026. No macro, syntax, notation, axiom, sorry.
-/
import Derived.Test.YthabjihpjdlmoaaDoorChecked
import GoSem.Claim
import GoSem.ClaimJoined
import GoSem.ClaimMapViews
import Derived.JoinedTies
import Derived.KernelRfl
namespace Go.Proofs.YthabjihpjdlmoaaDoor
/- THE CELL 'sum', in the pinned program and in every row, IS THE sha256 OF THE DUMP (.gsa) THAT YthabjihpjdlmoaaDoorProg.lean LOADS. Nothing in Lean hashes anything: it is a label: what it is worth is what the hold of that sum in a sandbox is worth. -/
noncomputable def Tryd.pinned : Pinned := { name := "ythabjihpjdlmoaadoor", sum := "ecd31fb99ee25ef48651a2e8a6d96b23155b99f5081fef1f34cd9ef2143c9982", checked := Tryd.checked }
namespace Rows
def none {H : Type} : Left H := { results := [], args := [] }

/- WHAT THE LISTED PACKAGE-LEVEL VARIABLES READ AS WHEN THE CALL BEGINS. Each datum BY PROGRAM (the guide's laid-datum.mjs) off the statement by which the dump's own 'gosem.cut.vars' lays the variable. In a bare row this is a premise. The card (YthabjihpjdlmoaaDoorCards.lean) ties it to the program's text. -/
def laid_throng_kind_costs {H : Type} : DataW H := .agg [.agg [.lit (.int .i64 2), .lit (.int .i64 1), .lit (.int .i64 3), .lit (.int .i64 5), .lit (.int .i64 0), .lit (.int .i64 0)], .agg [.lit (.int .i64 2), .lit (.int .i64 1), .lit (.int .i64 6), .lit (.int .i64 0), .lit (.int .i64 0), .lit (.int .i64 0)], .agg [.lit (.int .i64 2), .lit (.int .i64 1), .lit (.int .i64 0), .lit (.int .i64 3), .lit (.int .i64 2), .lit (.int .i64 0)]]
def laid_throng_tiles_offsets {H : Type} : DataW H := .agg [.agg [.lit (.int .i64 0), .lit (.int .i64 (-1))], .agg [.lit (.int .i64 1), .lit (.int .i64 0)], .agg [.lit (.int .i64 0), .lit (.int .i64 1)], .agg [.lit (.int .i64 (-1)), .lit (.int .i64 0)], .agg [.lit (.int .i64 1), .lit (.int .i64 (-1))], .agg [.lit (.int .i64 1), .lit (.int .i64 1)], .agg [.lit (.int .i64 (-1)), .lit (.int .i64 1)], .agg [.lit (.int .i64 (-1)), .lit (.int .i64 (-1))]]
def laid_throng_step_sides {H : Type} : DataW H := .agg [.agg [.lit (.int .i64 0), .lit (.int .i64 1)], .agg [.lit (.int .i64 2), .lit (.int .i64 1)], .agg [.lit (.int .i64 2), .lit (.int .i64 3)], .agg [.lit (.int .i64 0), .lit (.int .i64 3)]]

/-- 'thronglaw13.FieldGoods': WHATEVER THE INPUT: true; the input reads as it did. -/
def fieldGoodsSpec : ChangeSpec := { name := "fieldGoods", fn := fun _ => fun
  | [d] => { results := [.lit (.bool true)], args := [d] }
  | _ => none }
def fieldGoodsRow : OpenClaim := { program := "ythabjihpjdlmoaadoor", sum := "ecd31fb99ee25ef48651a2e8a6d96b23155b99f5081fef1f34cd9ef2143c9982", func := "throng/thronglaw13.FieldGoods", spec := "fieldGoods", unfollowed := true, recurses := true, named := ["throng/kind.costs", "throng/step.sides", "throng/tiles.offsets"], apart := false, laid := [("throng/kind.costs", laid_throng_kind_costs), ("throng/tiles.offsets", laid_throng_tiles_offsets), ("throng/step.sides", laid_throng_step_sides)] }
def FieldGoodsSaid : Prop := fieldGoodsRow.holds Tryd.pinned (OpenSpec.ofChange fieldGoodsSpec)

/-- ITS FALSE NEIGHBOUR: 'it returns false'. Refute it at one input. -/
def fieldGoodsWrong : ChangeSpec := { name := "fieldGoods", fn := fun _ => fun
  | [d] => { results := [.lit (.bool false)], args := [d] }
  | _ => none }
def FieldGoodsWrongFalsely : Prop := fieldGoodsRow.holds Tryd.pinned (OpenSpec.ofChange fieldGoodsWrong)

/-- 'thronglaw13.FieldMakes': WHATEVER THE INPUT: true; the input reads as it did. -/
def fieldMakesSpec : ChangeSpec := { name := "fieldMakes", fn := fun _ => fun
  | [d] => { results := [.lit (.bool true)], args := [d] }
  | _ => none }
def fieldMakesRow : OpenClaim := { program := "ythabjihpjdlmoaadoor", sum := "ecd31fb99ee25ef48651a2e8a6d96b23155b99f5081fef1f34cd9ef2143c9982", func := "throng/thronglaw13.FieldMakes", spec := "fieldMakes", unfollowed := true, recurses := true, named := ["throng/kind.costs", "throng/step.sides", "throng/tiles.offsets"], apart := false, laid := [("throng/kind.costs", laid_throng_kind_costs), ("throng/tiles.offsets", laid_throng_tiles_offsets), ("throng/step.sides", laid_throng_step_sides)] }
def FieldMakesSaid : Prop := fieldMakesRow.holds Tryd.pinned (OpenSpec.ofChange fieldMakesSpec)

/-- ITS FALSE NEIGHBOUR: 'it returns false'. Refute it at one input. -/
def fieldMakesWrong : ChangeSpec := { name := "fieldMakes", fn := fun _ => fun
  | [d] => { results := [.lit (.bool false)], args := [d] }
  | _ => none }
def FieldMakesWrongFalsely : Prop := fieldMakesRow.holds Tryd.pinned (OpenSpec.ofChange fieldMakesWrong)

/-- 'thronglaw13.FieldDirs': WHATEVER THE INPUT: true; the input reads as it did. -/
def fieldDirsSpec : ChangeSpec := { name := "fieldDirs", fn := fun _ => fun
  | [d] => { results := [.lit (.bool true)], args := [d] }
  | _ => none }
def fieldDirsRow : OpenClaim := { program := "ythabjihpjdlmoaadoor", sum := "ecd31fb99ee25ef48651a2e8a6d96b23155b99f5081fef1f34cd9ef2143c9982", func := "throng/thronglaw13.FieldDirs", spec := "fieldDirs", unfollowed := true, recurses := true, named := ["throng/kind.costs", "throng/step.sides", "throng/tiles.offsets"], apart := false, laid := [("throng/kind.costs", laid_throng_kind_costs), ("throng/tiles.offsets", laid_throng_tiles_offsets), ("throng/step.sides", laid_throng_step_sides)] }
def FieldDirsSaid : Prop := fieldDirsRow.holds Tryd.pinned (OpenSpec.ofChange fieldDirsSpec)

/-- ITS FALSE NEIGHBOUR: 'it returns false'. Refute it at one input. -/
def fieldDirsWrong : ChangeSpec := { name := "fieldDirs", fn := fun _ => fun
  | [d] => { results := [.lit (.bool false)], args := [d] }
  | _ => none }
def FieldDirsWrongFalsely : Prop := fieldDirsRow.holds Tryd.pinned (OpenSpec.ofChange fieldDirsWrong)

/-- 'thronglaw13.FieldGoes': WHATEVER THE INPUT: true; the input reads as it did. -/
def fieldGoesSpec : ChangeSpec := { name := "fieldGoes", fn := fun _ => fun
  | [d] => { results := [.lit (.bool true)], args := [d] }
  | _ => none }
def fieldGoesRow : OpenClaim := { program := "ythabjihpjdlmoaadoor", sum := "ecd31fb99ee25ef48651a2e8a6d96b23155b99f5081fef1f34cd9ef2143c9982", func := "throng/thronglaw13.FieldGoes", spec := "fieldGoes", unfollowed := true, recurses := true, named := ["throng/kind.costs", "throng/step.sides", "throng/tiles.offsets"], apart := false, laid := [("throng/kind.costs", laid_throng_kind_costs), ("throng/tiles.offsets", laid_throng_tiles_offsets), ("throng/step.sides", laid_throng_step_sides)] }
def FieldGoesSaid : Prop := fieldGoesRow.holds Tryd.pinned (OpenSpec.ofChange fieldGoesSpec)

/-- ITS FALSE NEIGHBOUR: 'it returns false'. Refute it at one input. -/
def fieldGoesWrong : ChangeSpec := { name := "fieldGoes", fn := fun _ => fun
  | [d] => { results := [.lit (.bool false)], args := [d] }
  | _ => none }
def FieldGoesWrongFalsely : Prop := fieldGoesRow.holds Tryd.pinned (OpenSpec.ofChange fieldGoesWrong)

/-- 'thronglaw13.FieldTurned': WHATEVER THE INPUT: true; the input reads as it did. -/
def fieldTurnedSpec : ChangeSpec := { name := "fieldTurned", fn := fun _ => fun
  | [d] => { results := [.lit (.bool true)], args := [d] }
  | _ => none }
def fieldTurnedRow : OpenClaim := { program := "ythabjihpjdlmoaadoor", sum := "ecd31fb99ee25ef48651a2e8a6d96b23155b99f5081fef1f34cd9ef2143c9982", func := "throng/thronglaw13.FieldTurned", spec := "fieldTurned", unfollowed := true, recurses := true, named := ["throng/kind.costs", "throng/step.sides", "throng/tiles.offsets"], apart := false, laid := [("throng/kind.costs", laid_throng_kind_costs), ("throng/tiles.offsets", laid_throng_tiles_offsets), ("throng/step.sides", laid_throng_step_sides)] }
def FieldTurnedSaid : Prop := fieldTurnedRow.holds Tryd.pinned (OpenSpec.ofChange fieldTurnedSpec)

/-- ITS FALSE NEIGHBOUR: 'it returns false'. Refute it at one input. -/
def fieldTurnedWrong : ChangeSpec := { name := "fieldTurned", fn := fun _ => fun
  | [d] => { results := [.lit (.bool false)], args := [d] }
  | _ => none }
def FieldTurnedWrongFalsely : Prop := fieldTurnedRow.holds Tryd.pinned (OpenSpec.ofChange fieldTurnedWrong)

/-- 'thronglaw13.FieldSizes': WHATEVER THE INPUT: true; the input reads as it did. -/
def fieldSizesSpec : ChangeSpec := { name := "fieldSizes", fn := fun _ => fun
  | [d] => { results := [.lit (.bool true)], args := [d] }
  | _ => none }
def fieldSizesRow : OpenClaim := { program := "ythabjihpjdlmoaadoor", sum := "ecd31fb99ee25ef48651a2e8a6d96b23155b99f5081fef1f34cd9ef2143c9982", func := "throng/thronglaw13.FieldSizes", spec := "fieldSizes", unfollowed := true, recurses := true, named := ["throng/kind.costs", "throng/step.sides", "throng/tiles.offsets"], apart := false, laid := [("throng/kind.costs", laid_throng_kind_costs), ("throng/tiles.offsets", laid_throng_tiles_offsets), ("throng/step.sides", laid_throng_step_sides)] }
def FieldSizesSaid : Prop := fieldSizesRow.holds Tryd.pinned (OpenSpec.ofChange fieldSizesSpec)

/-- ITS FALSE NEIGHBOUR: 'it returns false'. Refute it at one input. -/
def fieldSizesWrong : ChangeSpec := { name := "fieldSizes", fn := fun _ => fun
  | [d] => { results := [.lit (.bool false)], args := [d] }
  | _ => none }
def FieldSizesWrongFalsely : Prop := fieldSizesRow.holds Tryd.pinned (OpenSpec.ofChange fieldSizesWrong)

/-- 'thronglaw13.FieldPlain': WHATEVER THE INPUT: true; the input reads as it did. -/
def fieldPlainSpec : ChangeSpec := { name := "fieldPlain", fn := fun _ => fun
  | [d] => { results := [.lit (.bool true)], args := [d] }
  | _ => none }
def fieldPlainRow : OpenClaim := { program := "ythabjihpjdlmoaadoor", sum := "ecd31fb99ee25ef48651a2e8a6d96b23155b99f5081fef1f34cd9ef2143c9982", func := "throng/thronglaw13.FieldPlain", spec := "fieldPlain", unfollowed := true, recurses := true, named := ["throng/kind.costs", "throng/step.sides", "throng/tiles.offsets"], apart := false, laid := [("throng/kind.costs", laid_throng_kind_costs), ("throng/tiles.offsets", laid_throng_tiles_offsets), ("throng/step.sides", laid_throng_step_sides)] }
def FieldPlainSaid : Prop := fieldPlainRow.holds Tryd.pinned (OpenSpec.ofChange fieldPlainSpec)

/-- ITS FALSE NEIGHBOUR: 'it returns false'. Refute it at one input. -/
def fieldPlainWrong : ChangeSpec := { name := "fieldPlain", fn := fun _ => fun
  | [d] => { results := [.lit (.bool false)], args := [d] }
  | _ => none }
def FieldPlainWrongFalsely : Prop := fieldPlainRow.holds Tryd.pinned (OpenSpec.ofChange fieldPlainWrong)

/-- 'thronglaw13.FieldRoads': WHATEVER THE INPUT: true; the input reads as it did. -/
def fieldRoadsSpec : ChangeSpec := { name := "fieldRoads", fn := fun _ => fun
  | [d] => { results := [.lit (.bool true)], args := [d] }
  | _ => none }
def fieldRoadsRow : OpenClaim := { program := "ythabjihpjdlmoaadoor", sum := "ecd31fb99ee25ef48651a2e8a6d96b23155b99f5081fef1f34cd9ef2143c9982", func := "throng/thronglaw13.FieldRoads", spec := "fieldRoads", unfollowed := true, recurses := true, named := ["throng/kind.costs", "throng/step.sides", "throng/tiles.offsets"], apart := false, laid := [("throng/kind.costs", laid_throng_kind_costs), ("throng/tiles.offsets", laid_throng_tiles_offsets), ("throng/step.sides", laid_throng_step_sides)] }
def FieldRoadsSaid : Prop := fieldRoadsRow.holds Tryd.pinned (OpenSpec.ofChange fieldRoadsSpec)

/-- ITS FALSE NEIGHBOUR: 'it returns false'. Refute it at one input. -/
def fieldRoadsWrong : ChangeSpec := { name := "fieldRoads", fn := fun _ => fun
  | [d] => { results := [.lit (.bool false)], args := [d] }
  | _ => none }
def FieldRoadsWrongFalsely : Prop := fieldRoadsRow.holds Tryd.pinned (OpenSpec.ofChange fieldRoadsWrong)

/-- 'thronglaw14.RouteWays': WHATEVER THE INPUT: true; the input reads as it did. -/
def routeWaysSpec : ChangeSpec := { name := "routeWays", fn := fun _ => fun
  | [d] => { results := [.lit (.bool true)], args := [d] }
  | _ => none }
def routeWaysRow : OpenClaim := { program := "ythabjihpjdlmoaadoor", sum := "ecd31fb99ee25ef48651a2e8a6d96b23155b99f5081fef1f34cd9ef2143c9982", func := "throng/thronglaw14.RouteWays", spec := "routeWays", unfollowed := true, recurses := true, named := ["throng/kind.costs", "throng/step.sides", "throng/tiles.offsets"], apart := false, laid := [("throng/kind.costs", laid_throng_kind_costs), ("throng/tiles.offsets", laid_throng_tiles_offsets), ("throng/step.sides", laid_throng_step_sides)] }
def RouteWaysSaid : Prop := routeWaysRow.holds Tryd.pinned (OpenSpec.ofChange routeWaysSpec)

/-- ITS FALSE NEIGHBOUR: 'it returns false'. Refute it at one input. -/
def routeWaysWrong : ChangeSpec := { name := "routeWays", fn := fun _ => fun
  | [d] => { results := [.lit (.bool false)], args := [d] }
  | _ => none }
def RouteWaysWrongFalsely : Prop := routeWaysRow.holds Tryd.pinned (OpenSpec.ofChange routeWaysWrong)

/-- 'thronglaw14.RouteTurned': WHATEVER THE INPUT: true; the input reads as it did. -/
def routeTurnedSpec : ChangeSpec := { name := "routeTurned", fn := fun _ => fun
  | [d] => { results := [.lit (.bool true)], args := [d] }
  | _ => none }
def routeTurnedRow : OpenClaim := { program := "ythabjihpjdlmoaadoor", sum := "ecd31fb99ee25ef48651a2e8a6d96b23155b99f5081fef1f34cd9ef2143c9982", func := "throng/thronglaw14.RouteTurned", spec := "routeTurned", unfollowed := true, recurses := true, named := ["throng/kind.costs", "throng/step.sides", "throng/tiles.offsets"], apart := false, laid := [("throng/kind.costs", laid_throng_kind_costs), ("throng/tiles.offsets", laid_throng_tiles_offsets), ("throng/step.sides", laid_throng_step_sides)] }
def RouteTurnedSaid : Prop := routeTurnedRow.holds Tryd.pinned (OpenSpec.ofChange routeTurnedSpec)

/-- ITS FALSE NEIGHBOUR: 'it returns false'. Refute it at one input. -/
def routeTurnedWrong : ChangeSpec := { name := "routeTurned", fn := fun _ => fun
  | [d] => { results := [.lit (.bool false)], args := [d] }
  | _ => none }
def RouteTurnedWrongFalsely : Prop := routeTurnedRow.holds Tryd.pinned (OpenSpec.ofChange routeTurnedWrong)

/-- 'thronglaw14.RouteSteps': WHATEVER THE INPUT: true; the input reads as it did. -/
def routeStepsSpec : ChangeSpec := { name := "routeSteps", fn := fun _ => fun
  | [d] => { results := [.lit (.bool true)], args := [d] }
  | _ => none }
def routeStepsRow : OpenClaim := { program := "ythabjihpjdlmoaadoor", sum := "ecd31fb99ee25ef48651a2e8a6d96b23155b99f5081fef1f34cd9ef2143c9982", func := "throng/thronglaw14.RouteSteps", spec := "routeSteps", unfollowed := true, recurses := true, named := ["throng/kind.costs", "throng/step.sides", "throng/tiles.offsets"], apart := false, laid := [("throng/kind.costs", laid_throng_kind_costs), ("throng/tiles.offsets", laid_throng_tiles_offsets), ("throng/step.sides", laid_throng_step_sides)] }
def RouteStepsSaid : Prop := routeStepsRow.holds Tryd.pinned (OpenSpec.ofChange routeStepsSpec)

/-- ITS FALSE NEIGHBOUR: 'it returns false'. Refute it at one input. -/
def routeStepsWrong : ChangeSpec := { name := "routeSteps", fn := fun _ => fun
  | [d] => { results := [.lit (.bool false)], args := [d] }
  | _ => none }
def RouteStepsWrongFalsely : Prop := routeStepsRow.holds Tryd.pinned (OpenSpec.ofChange routeStepsWrong)

/-- 'thronglaw20.SlotsFinds': WHATEVER THE INPUT: true; the input reads as it did. -/
def slotsFindsSpec : ChangeSpec := { name := "slotsFinds", fn := fun _ => fun
  | [d] => { results := [.lit (.bool true)], args := [d] }
  | _ => none }
def slotsFindsRow : OpenClaim := { program := "ythabjihpjdlmoaadoor", sum := "ecd31fb99ee25ef48651a2e8a6d96b23155b99f5081fef1f34cd9ef2143c9982", func := "throng/thronglaw20.SlotsFinds", spec := "slotsFinds", unfollowed := true, recurses := true, named := ["throng/kind.costs"], apart := false, laid := [("throng/kind.costs", laid_throng_kind_costs)] }
def SlotsFindsSaid : Prop := slotsFindsRow.holds Tryd.pinned (OpenSpec.ofChange slotsFindsSpec)

/-- ITS FALSE NEIGHBOUR: 'it returns false'. Refute it at one input. -/
def slotsFindsWrong : ChangeSpec := { name := "slotsFinds", fn := fun _ => fun
  | [d] => { results := [.lit (.bool false)], args := [d] }
  | _ => none }
def SlotsFindsWrongFalsely : Prop := slotsFindsRow.holds Tryd.pinned (OpenSpec.ofChange slotsFindsWrong)

/-- 'thronglaw20.SlotsApart': WHATEVER THE INPUT: true; the input reads as it did. -/
def slotsApartSpec : ChangeSpec := { name := "slotsApart", fn := fun _ => fun
  | [d] => { results := [.lit (.bool true)], args := [d] }
  | _ => none }
def slotsApartRow : OpenClaim := { program := "ythabjihpjdlmoaadoor", sum := "ecd31fb99ee25ef48651a2e8a6d96b23155b99f5081fef1f34cd9ef2143c9982", func := "throng/thronglaw20.SlotsApart", spec := "slotsApart", unfollowed := true, recurses := true, named := ["throng/kind.costs"], apart := false, laid := [("throng/kind.costs", laid_throng_kind_costs)] }
def SlotsApartSaid : Prop := slotsApartRow.holds Tryd.pinned (OpenSpec.ofChange slotsApartSpec)

/-- ITS FALSE NEIGHBOUR: 'it returns false'. Refute it at one input. -/
def slotsApartWrong : ChangeSpec := { name := "slotsApart", fn := fun _ => fun
  | [d] => { results := [.lit (.bool false)], args := [d] }
  | _ => none }
def SlotsApartWrongFalsely : Prop := slotsApartRow.holds Tryd.pinned (OpenSpec.ofChange slotsApartWrong)

/-- 'thronglaw20.SlotsRings': WHATEVER THE INPUT: true; the input reads as it did. -/
def slotsRingsSpec : ChangeSpec := { name := "slotsRings", fn := fun _ => fun
  | [d] => { results := [.lit (.bool true)], args := [d] }
  | _ => none }
def slotsRingsRow : OpenClaim := { program := "ythabjihpjdlmoaadoor", sum := "ecd31fb99ee25ef48651a2e8a6d96b23155b99f5081fef1f34cd9ef2143c9982", func := "throng/thronglaw20.SlotsRings", spec := "slotsRings", unfollowed := true, recurses := true, named := ["throng/kind.costs"], apart := false, laid := [("throng/kind.costs", laid_throng_kind_costs)] }
def SlotsRingsSaid : Prop := slotsRingsRow.holds Tryd.pinned (OpenSpec.ofChange slotsRingsSpec)

/-- ITS FALSE NEIGHBOUR: 'it returns false'. Refute it at one input. -/
def slotsRingsWrong : ChangeSpec := { name := "slotsRings", fn := fun _ => fun
  | [d] => { results := [.lit (.bool false)], args := [d] }
  | _ => none }
def SlotsRingsWrongFalsely : Prop := slotsRingsRow.holds Tryd.pinned (OpenSpec.ofChange slotsRingsWrong)

/- THE SECOND FORM. 'bulk': how many values and letters a reading holds, each counted each time it is reached (what is shared counts as often as it is met; a slice's spare places count too). A statement '..UptoSaid' is the law's where the arguments, and the package variables that the reading takes, are together of bulk at most 1048576: NARROWER than '..Said'. Prove '..Said' where nothing that the law and all that it calls make is longer than what came in: it says more and counts as full. Else prove '..UptoSaid'. A law counts once. -/
mutual
def uptoBulk {H : Type} : DataW H → Nat
  | .lit (.string bytes) => bytes.length + 1
  | .lit _ => 1
  | .nil => 1
  | .ptr d => uptoBulk d + 1
  | .slice elems spare => uptoBulkAll elems + uptoBulkAll spare + 1
  | .agg parts => uptoBulkAll parts + 1
  | .iface _ d => uptoBulk d + 1
  | .map entries => uptoBulkEntries entries + 1
  | .held _ => 1
def uptoBulkAll {H : Type} : List (DataW H) → Nat
  | [] => 0
  | d :: r => uptoBulk d + uptoBulkAll r
def uptoBulkEntries {H : Type} : List (Lit × DataW H) → Nat
  | [] => 0
  | x :: r => uptoBulkEntry x + uptoBulkEntries r
def uptoBulkEntry {H : Type} : Lit × DataW H → Nat
  | (.string bytes, d) => bytes.length + uptoBulk d + 1
  | (_, d) => uptoBulk d + 1
 end
def uptoSmall : (H : Type) → List (DataW H) → Bool := fun _ ds => decide (uptoBulkAll ds ≤ 1048576)
def OpenSpec.upto (s : _root_.Go.ChangeSpec) : _root_.Go.OpenSpec := { _root_.Go.OpenSpec.ofChange s with cond := some uptoSmall }

/-- 'thronglaw13.FieldGoods', WHERE WHAT IT READS IS OF BULK AT MOST 1048576: true; the input reads as it did. -/
def fieldGoodsUptoRow : OpenClaim := { program := "ythabjihpjdlmoaadoor", sum := "ecd31fb99ee25ef48651a2e8a6d96b23155b99f5081fef1f34cd9ef2143c9982", func := "throng/thronglaw13.FieldGoods", spec := "fieldGoods", unfollowed := true, recurses := true, named := ["throng/kind.costs", "throng/step.sides", "throng/tiles.offsets"], apart := false, laid := [("throng/kind.costs", laid_throng_kind_costs), ("throng/tiles.offsets", laid_throng_tiles_offsets), ("throng/step.sides", laid_throng_step_sides)], narrowed := true }
def FieldGoodsUptoSaid : Prop := fieldGoodsUptoRow.holds Tryd.pinned (OpenSpec.upto fieldGoodsSpec)

/-- 'thronglaw13.FieldMakes', WHERE WHAT IT READS IS OF BULK AT MOST 1048576: true; the input reads as it did. -/
def fieldMakesUptoRow : OpenClaim := { program := "ythabjihpjdlmoaadoor", sum := "ecd31fb99ee25ef48651a2e8a6d96b23155b99f5081fef1f34cd9ef2143c9982", func := "throng/thronglaw13.FieldMakes", spec := "fieldMakes", unfollowed := true, recurses := true, named := ["throng/kind.costs", "throng/step.sides", "throng/tiles.offsets"], apart := false, laid := [("throng/kind.costs", laid_throng_kind_costs), ("throng/tiles.offsets", laid_throng_tiles_offsets), ("throng/step.sides", laid_throng_step_sides)], narrowed := true }
def FieldMakesUptoSaid : Prop := fieldMakesUptoRow.holds Tryd.pinned (OpenSpec.upto fieldMakesSpec)

/-- 'thronglaw13.FieldDirs', WHERE WHAT IT READS IS OF BULK AT MOST 1048576: true; the input reads as it did. -/
def fieldDirsUptoRow : OpenClaim := { program := "ythabjihpjdlmoaadoor", sum := "ecd31fb99ee25ef48651a2e8a6d96b23155b99f5081fef1f34cd9ef2143c9982", func := "throng/thronglaw13.FieldDirs", spec := "fieldDirs", unfollowed := true, recurses := true, named := ["throng/kind.costs", "throng/step.sides", "throng/tiles.offsets"], apart := false, laid := [("throng/kind.costs", laid_throng_kind_costs), ("throng/tiles.offsets", laid_throng_tiles_offsets), ("throng/step.sides", laid_throng_step_sides)], narrowed := true }
def FieldDirsUptoSaid : Prop := fieldDirsUptoRow.holds Tryd.pinned (OpenSpec.upto fieldDirsSpec)

/-- 'thronglaw13.FieldGoes', WHERE WHAT IT READS IS OF BULK AT MOST 1048576: true; the input reads as it did. -/
def fieldGoesUptoRow : OpenClaim := { program := "ythabjihpjdlmoaadoor", sum := "ecd31fb99ee25ef48651a2e8a6d96b23155b99f5081fef1f34cd9ef2143c9982", func := "throng/thronglaw13.FieldGoes", spec := "fieldGoes", unfollowed := true, recurses := true, named := ["throng/kind.costs", "throng/step.sides", "throng/tiles.offsets"], apart := false, laid := [("throng/kind.costs", laid_throng_kind_costs), ("throng/tiles.offsets", laid_throng_tiles_offsets), ("throng/step.sides", laid_throng_step_sides)], narrowed := true }
def FieldGoesUptoSaid : Prop := fieldGoesUptoRow.holds Tryd.pinned (OpenSpec.upto fieldGoesSpec)

/-- 'thronglaw13.FieldTurned', WHERE WHAT IT READS IS OF BULK AT MOST 1048576: true; the input reads as it did. -/
def fieldTurnedUptoRow : OpenClaim := { program := "ythabjihpjdlmoaadoor", sum := "ecd31fb99ee25ef48651a2e8a6d96b23155b99f5081fef1f34cd9ef2143c9982", func := "throng/thronglaw13.FieldTurned", spec := "fieldTurned", unfollowed := true, recurses := true, named := ["throng/kind.costs", "throng/step.sides", "throng/tiles.offsets"], apart := false, laid := [("throng/kind.costs", laid_throng_kind_costs), ("throng/tiles.offsets", laid_throng_tiles_offsets), ("throng/step.sides", laid_throng_step_sides)], narrowed := true }
def FieldTurnedUptoSaid : Prop := fieldTurnedUptoRow.holds Tryd.pinned (OpenSpec.upto fieldTurnedSpec)

/-- 'thronglaw13.FieldSizes', WHERE WHAT IT READS IS OF BULK AT MOST 1048576: true; the input reads as it did. -/
def fieldSizesUptoRow : OpenClaim := { program := "ythabjihpjdlmoaadoor", sum := "ecd31fb99ee25ef48651a2e8a6d96b23155b99f5081fef1f34cd9ef2143c9982", func := "throng/thronglaw13.FieldSizes", spec := "fieldSizes", unfollowed := true, recurses := true, named := ["throng/kind.costs", "throng/step.sides", "throng/tiles.offsets"], apart := false, laid := [("throng/kind.costs", laid_throng_kind_costs), ("throng/tiles.offsets", laid_throng_tiles_offsets), ("throng/step.sides", laid_throng_step_sides)], narrowed := true }
def FieldSizesUptoSaid : Prop := fieldSizesUptoRow.holds Tryd.pinned (OpenSpec.upto fieldSizesSpec)

/-- 'thronglaw13.FieldPlain', WHERE WHAT IT READS IS OF BULK AT MOST 1048576: true; the input reads as it did. -/
def fieldPlainUptoRow : OpenClaim := { program := "ythabjihpjdlmoaadoor", sum := "ecd31fb99ee25ef48651a2e8a6d96b23155b99f5081fef1f34cd9ef2143c9982", func := "throng/thronglaw13.FieldPlain", spec := "fieldPlain", unfollowed := true, recurses := true, named := ["throng/kind.costs", "throng/step.sides", "throng/tiles.offsets"], apart := false, laid := [("throng/kind.costs", laid_throng_kind_costs), ("throng/tiles.offsets", laid_throng_tiles_offsets), ("throng/step.sides", laid_throng_step_sides)], narrowed := true }
def FieldPlainUptoSaid : Prop := fieldPlainUptoRow.holds Tryd.pinned (OpenSpec.upto fieldPlainSpec)

/-- 'thronglaw13.FieldRoads', WHERE WHAT IT READS IS OF BULK AT MOST 1048576: true; the input reads as it did. -/
def fieldRoadsUptoRow : OpenClaim := { program := "ythabjihpjdlmoaadoor", sum := "ecd31fb99ee25ef48651a2e8a6d96b23155b99f5081fef1f34cd9ef2143c9982", func := "throng/thronglaw13.FieldRoads", spec := "fieldRoads", unfollowed := true, recurses := true, named := ["throng/kind.costs", "throng/step.sides", "throng/tiles.offsets"], apart := false, laid := [("throng/kind.costs", laid_throng_kind_costs), ("throng/tiles.offsets", laid_throng_tiles_offsets), ("throng/step.sides", laid_throng_step_sides)], narrowed := true }
def FieldRoadsUptoSaid : Prop := fieldRoadsUptoRow.holds Tryd.pinned (OpenSpec.upto fieldRoadsSpec)

/-- 'thronglaw14.RouteWays', WHERE WHAT IT READS IS OF BULK AT MOST 1048576: true; the input reads as it did. -/
def routeWaysUptoRow : OpenClaim := { program := "ythabjihpjdlmoaadoor", sum := "ecd31fb99ee25ef48651a2e8a6d96b23155b99f5081fef1f34cd9ef2143c9982", func := "throng/thronglaw14.RouteWays", spec := "routeWays", unfollowed := true, recurses := true, named := ["throng/kind.costs", "throng/step.sides", "throng/tiles.offsets"], apart := false, laid := [("throng/kind.costs", laid_throng_kind_costs), ("throng/tiles.offsets", laid_throng_tiles_offsets), ("throng/step.sides", laid_throng_step_sides)], narrowed := true }
def RouteWaysUptoSaid : Prop := routeWaysUptoRow.holds Tryd.pinned (OpenSpec.upto routeWaysSpec)

/-- 'thronglaw14.RouteTurned', WHERE WHAT IT READS IS OF BULK AT MOST 1048576: true; the input reads as it did. -/
def routeTurnedUptoRow : OpenClaim := { program := "ythabjihpjdlmoaadoor", sum := "ecd31fb99ee25ef48651a2e8a6d96b23155b99f5081fef1f34cd9ef2143c9982", func := "throng/thronglaw14.RouteTurned", spec := "routeTurned", unfollowed := true, recurses := true, named := ["throng/kind.costs", "throng/step.sides", "throng/tiles.offsets"], apart := false, laid := [("throng/kind.costs", laid_throng_kind_costs), ("throng/tiles.offsets", laid_throng_tiles_offsets), ("throng/step.sides", laid_throng_step_sides)], narrowed := true }
def RouteTurnedUptoSaid : Prop := routeTurnedUptoRow.holds Tryd.pinned (OpenSpec.upto routeTurnedSpec)

/-- 'thronglaw14.RouteSteps', WHERE WHAT IT READS IS OF BULK AT MOST 1048576: true; the input reads as it did. -/
def routeStepsUptoRow : OpenClaim := { program := "ythabjihpjdlmoaadoor", sum := "ecd31fb99ee25ef48651a2e8a6d96b23155b99f5081fef1f34cd9ef2143c9982", func := "throng/thronglaw14.RouteSteps", spec := "routeSteps", unfollowed := true, recurses := true, named := ["throng/kind.costs", "throng/step.sides", "throng/tiles.offsets"], apart := false, laid := [("throng/kind.costs", laid_throng_kind_costs), ("throng/tiles.offsets", laid_throng_tiles_offsets), ("throng/step.sides", laid_throng_step_sides)], narrowed := true }
def RouteStepsUptoSaid : Prop := routeStepsUptoRow.holds Tryd.pinned (OpenSpec.upto routeStepsSpec)

/-- 'thronglaw20.SlotsFinds', WHERE WHAT IT READS IS OF BULK AT MOST 1048576: true; the input reads as it did. -/
def slotsFindsUptoRow : OpenClaim := { program := "ythabjihpjdlmoaadoor", sum := "ecd31fb99ee25ef48651a2e8a6d96b23155b99f5081fef1f34cd9ef2143c9982", func := "throng/thronglaw20.SlotsFinds", spec := "slotsFinds", unfollowed := true, recurses := true, named := ["throng/kind.costs"], apart := false, laid := [("throng/kind.costs", laid_throng_kind_costs)], narrowed := true }
def SlotsFindsUptoSaid : Prop := slotsFindsUptoRow.holds Tryd.pinned (OpenSpec.upto slotsFindsSpec)

/-- 'thronglaw20.SlotsApart', WHERE WHAT IT READS IS OF BULK AT MOST 1048576: true; the input reads as it did. -/
def slotsApartUptoRow : OpenClaim := { program := "ythabjihpjdlmoaadoor", sum := "ecd31fb99ee25ef48651a2e8a6d96b23155b99f5081fef1f34cd9ef2143c9982", func := "throng/thronglaw20.SlotsApart", spec := "slotsApart", unfollowed := true, recurses := true, named := ["throng/kind.costs"], apart := false, laid := [("throng/kind.costs", laid_throng_kind_costs)], narrowed := true }
def SlotsApartUptoSaid : Prop := slotsApartUptoRow.holds Tryd.pinned (OpenSpec.upto slotsApartSpec)

/-- 'thronglaw20.SlotsRings', WHERE WHAT IT READS IS OF BULK AT MOST 1048576: true; the input reads as it did. -/
def slotsRingsUptoRow : OpenClaim := { program := "ythabjihpjdlmoaadoor", sum := "ecd31fb99ee25ef48651a2e8a6d96b23155b99f5081fef1f34cd9ef2143c9982", func := "throng/thronglaw20.SlotsRings", spec := "slotsRings", unfollowed := true, recurses := true, named := ["throng/kind.costs"], apart := false, laid := [("throng/kind.costs", laid_throng_kind_costs)], narrowed := true }
def SlotsRingsUptoSaid : Prop := slotsRingsUptoRow.holds Tryd.pinned (OpenSpec.upto slotsRingsSpec)

end Rows
end Go.Proofs.YthabjihpjdlmoaaDoor
