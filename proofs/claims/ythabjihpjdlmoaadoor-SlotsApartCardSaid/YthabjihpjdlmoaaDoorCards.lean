/-
  DERIVED. GIVEN WITH THE SEED: THE CARDS: each row of YthabjihpjdlmoaaDoorRows.lean that lists a variable, with what it lists TIED to the program's text (the seventh form; the later family's looks); each row that meets fmt, with fmt's text TOLD by the authors' own Lean function (tested against real Go, not proved from fmt's source: count such statements apart). THE CARD IS WHAT COUNTS. Prove the row's statement (the work); the ties are given (YthabjihpjdlmoaaDoorTie.lean); close each card by the builder's one call (the guide's Derived/Test/ToyasCard.lean, 'card_holds'). Laid BY PROGRAM, IN A SANDBOX (cutbox-door.mjs). By AI agents, Wed Nov 11 2026. No macro, syntax, notation, axiom, sorry.
-/
import Derived.Test.YthabjihpjdlmoaaDoorRows
import GoSem.ClaimSeven
namespace Go.Proofs.YthabjihpjdlmoaaDoor
namespace Rows

/-- THE TIED CARD OF 'thronglaw13.FieldGoods'. -/
def fieldGoodsCard : Claim7 := { stood := { row := fieldGoodsRow, standIns := [], harness := (true, "90ed51393f35b406bdee0705b6f0a8d051456ef454f3ffd6e600d1670cebcd34"), looks := false }, kinds := [], alts := [], laidByText := true, laidKinds := [.data, .data, .data], laidTests := true, laidLooks := .later }
def FieldGoodsCardSaid : Prop := Claim7.holds Tryd.pinned (.plain (OpenSpec.ofChange fieldGoodsSpec)) fieldGoodsCard

/-- THE TIED CARD OF 'thronglaw13.FieldMakes'. -/
def fieldMakesCard : Claim7 := { stood := { row := fieldMakesRow, standIns := [], harness := (true, "90ed51393f35b406bdee0705b6f0a8d051456ef454f3ffd6e600d1670cebcd34"), looks := false }, kinds := [], alts := [], laidByText := true, laidKinds := [.data, .data, .data], laidTests := true, laidLooks := .later }
def FieldMakesCardSaid : Prop := Claim7.holds Tryd.pinned (.plain (OpenSpec.ofChange fieldMakesSpec)) fieldMakesCard

/-- THE TIED CARD OF 'thronglaw13.FieldDirs'. -/
def fieldDirsCard : Claim7 := { stood := { row := fieldDirsRow, standIns := [], harness := (true, "90ed51393f35b406bdee0705b6f0a8d051456ef454f3ffd6e600d1670cebcd34"), looks := false }, kinds := [], alts := [], laidByText := true, laidKinds := [.data, .data, .data], laidTests := true, laidLooks := .later }
def FieldDirsCardSaid : Prop := Claim7.holds Tryd.pinned (.plain (OpenSpec.ofChange fieldDirsSpec)) fieldDirsCard

/-- THE TIED CARD OF 'thronglaw13.FieldGoes'. -/
def fieldGoesCard : Claim7 := { stood := { row := fieldGoesRow, standIns := [], harness := (true, "90ed51393f35b406bdee0705b6f0a8d051456ef454f3ffd6e600d1670cebcd34"), looks := false }, kinds := [], alts := [], laidByText := true, laidKinds := [.data, .data, .data], laidTests := true, laidLooks := .later }
def FieldGoesCardSaid : Prop := Claim7.holds Tryd.pinned (.plain (OpenSpec.ofChange fieldGoesSpec)) fieldGoesCard

/-- THE TIED CARD OF 'thronglaw13.FieldTurned'. -/
def fieldTurnedCard : Claim7 := { stood := { row := fieldTurnedRow, standIns := [], harness := (true, "90ed51393f35b406bdee0705b6f0a8d051456ef454f3ffd6e600d1670cebcd34"), looks := false }, kinds := [], alts := [], laidByText := true, laidKinds := [.data, .data, .data], laidTests := true, laidLooks := .later }
def FieldTurnedCardSaid : Prop := Claim7.holds Tryd.pinned (.plain (OpenSpec.ofChange fieldTurnedSpec)) fieldTurnedCard

/-- THE TIED CARD OF 'thronglaw13.FieldSizes'. -/
def fieldSizesCard : Claim7 := { stood := { row := fieldSizesRow, standIns := [], harness := (true, "90ed51393f35b406bdee0705b6f0a8d051456ef454f3ffd6e600d1670cebcd34"), looks := false }, kinds := [], alts := [], laidByText := true, laidKinds := [.data, .data, .data], laidTests := true, laidLooks := .later }
def FieldSizesCardSaid : Prop := Claim7.holds Tryd.pinned (.plain (OpenSpec.ofChange fieldSizesSpec)) fieldSizesCard

/-- THE TIED CARD OF 'thronglaw13.FieldPlain'. -/
def fieldPlainCard : Claim7 := { stood := { row := fieldPlainRow, standIns := [], harness := (true, "90ed51393f35b406bdee0705b6f0a8d051456ef454f3ffd6e600d1670cebcd34"), looks := false }, kinds := [], alts := [], laidByText := true, laidKinds := [.data, .data, .data], laidTests := true, laidLooks := .later }
def FieldPlainCardSaid : Prop := Claim7.holds Tryd.pinned (.plain (OpenSpec.ofChange fieldPlainSpec)) fieldPlainCard

/-- THE TIED CARD OF 'thronglaw13.FieldRoads'. -/
def fieldRoadsCard : Claim7 := { stood := { row := fieldRoadsRow, standIns := [], harness := (true, "90ed51393f35b406bdee0705b6f0a8d051456ef454f3ffd6e600d1670cebcd34"), looks := false }, kinds := [], alts := [], laidByText := true, laidKinds := [.data, .data, .data], laidTests := true, laidLooks := .later }
def FieldRoadsCardSaid : Prop := Claim7.holds Tryd.pinned (.plain (OpenSpec.ofChange fieldRoadsSpec)) fieldRoadsCard

/-- THE TIED CARD OF 'thronglaw14.RouteWays'. -/
def routeWaysCard : Claim7 := { stood := { row := routeWaysRow, standIns := [], harness := (true, "90ed51393f35b406bdee0705b6f0a8d051456ef454f3ffd6e600d1670cebcd34"), looks := false }, kinds := [], alts := [], laidByText := true, laidKinds := [.data, .data, .data], laidTests := true, laidLooks := .later }
def RouteWaysCardSaid : Prop := Claim7.holds Tryd.pinned (.plain (OpenSpec.ofChange routeWaysSpec)) routeWaysCard

/-- THE TIED CARD OF 'thronglaw14.RouteTurned'. -/
def routeTurnedCard : Claim7 := { stood := { row := routeTurnedRow, standIns := [], harness := (true, "90ed51393f35b406bdee0705b6f0a8d051456ef454f3ffd6e600d1670cebcd34"), looks := false }, kinds := [], alts := [], laidByText := true, laidKinds := [.data, .data, .data], laidTests := true, laidLooks := .later }
def RouteTurnedCardSaid : Prop := Claim7.holds Tryd.pinned (.plain (OpenSpec.ofChange routeTurnedSpec)) routeTurnedCard

/-- THE TIED CARD OF 'thronglaw14.RouteSteps'. -/
def routeStepsCard : Claim7 := { stood := { row := routeStepsRow, standIns := [], harness := (true, "90ed51393f35b406bdee0705b6f0a8d051456ef454f3ffd6e600d1670cebcd34"), looks := false }, kinds := [], alts := [], laidByText := true, laidKinds := [.data, .data, .data], laidTests := true, laidLooks := .later }
def RouteStepsCardSaid : Prop := Claim7.holds Tryd.pinned (.plain (OpenSpec.ofChange routeStepsSpec)) routeStepsCard

/-- THE TIED CARD OF 'thronglaw20.SlotsFinds'. -/
def slotsFindsCard : Claim7 := { stood := { row := slotsFindsRow, standIns := [], harness := (true, "90ed51393f35b406bdee0705b6f0a8d051456ef454f3ffd6e600d1670cebcd34"), looks := false }, kinds := [], alts := [], laidByText := true, laidKinds := [.data], laidTests := true, laidLooks := .later }
def SlotsFindsCardSaid : Prop := Claim7.holds Tryd.pinned (.plain (OpenSpec.ofChange slotsFindsSpec)) slotsFindsCard

/-- THE TIED CARD OF 'thronglaw20.SlotsApart'. -/
def slotsApartCard : Claim7 := { stood := { row := slotsApartRow, standIns := [], harness := (true, "90ed51393f35b406bdee0705b6f0a8d051456ef454f3ffd6e600d1670cebcd34"), looks := false }, kinds := [], alts := [], laidByText := true, laidKinds := [.data], laidTests := true, laidLooks := .later }
def SlotsApartCardSaid : Prop := Claim7.holds Tryd.pinned (.plain (OpenSpec.ofChange slotsApartSpec)) slotsApartCard

/-- THE TIED CARD OF 'thronglaw20.SlotsRings'. -/
def slotsRingsCard : Claim7 := { stood := { row := slotsRingsRow, standIns := [], harness := (true, "90ed51393f35b406bdee0705b6f0a8d051456ef454f3ffd6e600d1670cebcd34"), looks := false }, kinds := [], alts := [], laidByText := true, laidKinds := [.data], laidTests := true, laidLooks := .later }
def SlotsRingsCardSaid : Prop := Claim7.holds Tryd.pinned (.plain (OpenSpec.ofChange slotsRingsSpec)) slotsRingsCard

/-- THE SECOND FORM's CARD OF 'thronglaw13.FieldGoods'. -/
def fieldGoodsUptoCard : Claim7 := { stood := { row := fieldGoodsUptoRow, standIns := [], harness := (true, "90ed51393f35b406bdee0705b6f0a8d051456ef454f3ffd6e600d1670cebcd34"), looks := false }, kinds := [], alts := [], laidByText := true, laidKinds := [.data, .data, .data], laidTests := true, laidLooks := .later }
def FieldGoodsUptoCardSaid : Prop := Claim7.holds Tryd.pinned (.plain (OpenSpec.upto fieldGoodsSpec)) fieldGoodsUptoCard

/-- THE SECOND FORM's CARD OF 'thronglaw13.FieldMakes'. -/
def fieldMakesUptoCard : Claim7 := { stood := { row := fieldMakesUptoRow, standIns := [], harness := (true, "90ed51393f35b406bdee0705b6f0a8d051456ef454f3ffd6e600d1670cebcd34"), looks := false }, kinds := [], alts := [], laidByText := true, laidKinds := [.data, .data, .data], laidTests := true, laidLooks := .later }
def FieldMakesUptoCardSaid : Prop := Claim7.holds Tryd.pinned (.plain (OpenSpec.upto fieldMakesSpec)) fieldMakesUptoCard

/-- THE SECOND FORM's CARD OF 'thronglaw13.FieldDirs'. -/
def fieldDirsUptoCard : Claim7 := { stood := { row := fieldDirsUptoRow, standIns := [], harness := (true, "90ed51393f35b406bdee0705b6f0a8d051456ef454f3ffd6e600d1670cebcd34"), looks := false }, kinds := [], alts := [], laidByText := true, laidKinds := [.data, .data, .data], laidTests := true, laidLooks := .later }
def FieldDirsUptoCardSaid : Prop := Claim7.holds Tryd.pinned (.plain (OpenSpec.upto fieldDirsSpec)) fieldDirsUptoCard

/-- THE SECOND FORM's CARD OF 'thronglaw13.FieldGoes'. -/
def fieldGoesUptoCard : Claim7 := { stood := { row := fieldGoesUptoRow, standIns := [], harness := (true, "90ed51393f35b406bdee0705b6f0a8d051456ef454f3ffd6e600d1670cebcd34"), looks := false }, kinds := [], alts := [], laidByText := true, laidKinds := [.data, .data, .data], laidTests := true, laidLooks := .later }
def FieldGoesUptoCardSaid : Prop := Claim7.holds Tryd.pinned (.plain (OpenSpec.upto fieldGoesSpec)) fieldGoesUptoCard

/-- THE SECOND FORM's CARD OF 'thronglaw13.FieldTurned'. -/
def fieldTurnedUptoCard : Claim7 := { stood := { row := fieldTurnedUptoRow, standIns := [], harness := (true, "90ed51393f35b406bdee0705b6f0a8d051456ef454f3ffd6e600d1670cebcd34"), looks := false }, kinds := [], alts := [], laidByText := true, laidKinds := [.data, .data, .data], laidTests := true, laidLooks := .later }
def FieldTurnedUptoCardSaid : Prop := Claim7.holds Tryd.pinned (.plain (OpenSpec.upto fieldTurnedSpec)) fieldTurnedUptoCard

/-- THE SECOND FORM's CARD OF 'thronglaw13.FieldSizes'. -/
def fieldSizesUptoCard : Claim7 := { stood := { row := fieldSizesUptoRow, standIns := [], harness := (true, "90ed51393f35b406bdee0705b6f0a8d051456ef454f3ffd6e600d1670cebcd34"), looks := false }, kinds := [], alts := [], laidByText := true, laidKinds := [.data, .data, .data], laidTests := true, laidLooks := .later }
def FieldSizesUptoCardSaid : Prop := Claim7.holds Tryd.pinned (.plain (OpenSpec.upto fieldSizesSpec)) fieldSizesUptoCard

/-- THE SECOND FORM's CARD OF 'thronglaw13.FieldPlain'. -/
def fieldPlainUptoCard : Claim7 := { stood := { row := fieldPlainUptoRow, standIns := [], harness := (true, "90ed51393f35b406bdee0705b6f0a8d051456ef454f3ffd6e600d1670cebcd34"), looks := false }, kinds := [], alts := [], laidByText := true, laidKinds := [.data, .data, .data], laidTests := true, laidLooks := .later }
def FieldPlainUptoCardSaid : Prop := Claim7.holds Tryd.pinned (.plain (OpenSpec.upto fieldPlainSpec)) fieldPlainUptoCard

/-- THE SECOND FORM's CARD OF 'thronglaw13.FieldRoads'. -/
def fieldRoadsUptoCard : Claim7 := { stood := { row := fieldRoadsUptoRow, standIns := [], harness := (true, "90ed51393f35b406bdee0705b6f0a8d051456ef454f3ffd6e600d1670cebcd34"), looks := false }, kinds := [], alts := [], laidByText := true, laidKinds := [.data, .data, .data], laidTests := true, laidLooks := .later }
def FieldRoadsUptoCardSaid : Prop := Claim7.holds Tryd.pinned (.plain (OpenSpec.upto fieldRoadsSpec)) fieldRoadsUptoCard

/-- THE SECOND FORM's CARD OF 'thronglaw14.RouteWays'. -/
def routeWaysUptoCard : Claim7 := { stood := { row := routeWaysUptoRow, standIns := [], harness := (true, "90ed51393f35b406bdee0705b6f0a8d051456ef454f3ffd6e600d1670cebcd34"), looks := false }, kinds := [], alts := [], laidByText := true, laidKinds := [.data, .data, .data], laidTests := true, laidLooks := .later }
def RouteWaysUptoCardSaid : Prop := Claim7.holds Tryd.pinned (.plain (OpenSpec.upto routeWaysSpec)) routeWaysUptoCard

/-- THE SECOND FORM's CARD OF 'thronglaw14.RouteTurned'. -/
def routeTurnedUptoCard : Claim7 := { stood := { row := routeTurnedUptoRow, standIns := [], harness := (true, "90ed51393f35b406bdee0705b6f0a8d051456ef454f3ffd6e600d1670cebcd34"), looks := false }, kinds := [], alts := [], laidByText := true, laidKinds := [.data, .data, .data], laidTests := true, laidLooks := .later }
def RouteTurnedUptoCardSaid : Prop := Claim7.holds Tryd.pinned (.plain (OpenSpec.upto routeTurnedSpec)) routeTurnedUptoCard

/-- THE SECOND FORM's CARD OF 'thronglaw14.RouteSteps'. -/
def routeStepsUptoCard : Claim7 := { stood := { row := routeStepsUptoRow, standIns := [], harness := (true, "90ed51393f35b406bdee0705b6f0a8d051456ef454f3ffd6e600d1670cebcd34"), looks := false }, kinds := [], alts := [], laidByText := true, laidKinds := [.data, .data, .data], laidTests := true, laidLooks := .later }
def RouteStepsUptoCardSaid : Prop := Claim7.holds Tryd.pinned (.plain (OpenSpec.upto routeStepsSpec)) routeStepsUptoCard

/-- THE SECOND FORM's CARD OF 'thronglaw20.SlotsFinds'. -/
def slotsFindsUptoCard : Claim7 := { stood := { row := slotsFindsUptoRow, standIns := [], harness := (true, "90ed51393f35b406bdee0705b6f0a8d051456ef454f3ffd6e600d1670cebcd34"), looks := false }, kinds := [], alts := [], laidByText := true, laidKinds := [.data], laidTests := true, laidLooks := .later }
def SlotsFindsUptoCardSaid : Prop := Claim7.holds Tryd.pinned (.plain (OpenSpec.upto slotsFindsSpec)) slotsFindsUptoCard

/-- THE SECOND FORM's CARD OF 'thronglaw20.SlotsApart'. -/
def slotsApartUptoCard : Claim7 := { stood := { row := slotsApartUptoRow, standIns := [], harness := (true, "90ed51393f35b406bdee0705b6f0a8d051456ef454f3ffd6e600d1670cebcd34"), looks := false }, kinds := [], alts := [], laidByText := true, laidKinds := [.data], laidTests := true, laidLooks := .later }
def SlotsApartUptoCardSaid : Prop := Claim7.holds Tryd.pinned (.plain (OpenSpec.upto slotsApartSpec)) slotsApartUptoCard

/-- THE SECOND FORM's CARD OF 'thronglaw20.SlotsRings'. -/
def slotsRingsUptoCard : Claim7 := { stood := { row := slotsRingsUptoRow, standIns := [], harness := (true, "90ed51393f35b406bdee0705b6f0a8d051456ef454f3ffd6e600d1670cebcd34"), looks := false }, kinds := [], alts := [], laidByText := true, laidKinds := [.data], laidTests := true, laidLooks := .later }
def SlotsRingsUptoCardSaid : Prop := Claim7.holds Tryd.pinned (.plain (OpenSpec.upto slotsRingsSpec)) slotsRingsUptoCard
end Rows
end Go.Proofs.YthabjihpjdlmoaaDoor
