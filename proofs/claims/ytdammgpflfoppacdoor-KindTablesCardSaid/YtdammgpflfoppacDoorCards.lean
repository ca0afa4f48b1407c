/-
  DERIVED. GIVEN WITH THE SEED: THE CARDS: each row of YtdammgpflfoppacDoorRows.lean that lists a variable, with what it lists TIED to the program's text (the seventh form; the later family's looks); each row that meets fmt, with fmt's text TOLD by the authors' own Lean function (tested against real Go, not proved from fmt's source: count such statements apart). THE CARD IS WHAT COUNTS. Prove the row's statement (the work); the ties are given (YtdammgpflfoppacDoorTie.lean); close each card by the builder's one call (the guide's Derived/Test/ToyasCard.lean, 'card_holds'). Laid BY PROGRAM, IN A SANDBOX (cutbox-door.mjs). By AI agents, Wed Nov 11 2026. No macro, syntax, notation, axiom, sorry.
-/
import Derived.Test.YtdammgpflfoppacDoorRows
import GoSem.ClaimSeven
namespace Go.Proofs.YtdammgpflfoppacDoor
namespace Rows

/-- THE TIED CARD OF 'thronglaw5.KindTables'. -/
def kindTablesCard : Claim7 := { stood := { row := kindTablesRow, standIns := [], harness := (true, "31a5f18d96a025dd999f70b6b3645216ec008eb3fa32bc1e244dd6607278d8ba"), looks := false }, kinds := [], alts := [], laidByText := true, laidKinds := [.data, .data], laidTests := true, laidLooks := .later }
def KindTablesCardSaid : Prop := Claim7.holds Tryd.pinned (.plain (OpenSpec.ofChange kindTablesSpec)) kindTablesCard

/-- THE TIED CARD OF 'thronglaw5.KindFits'. -/
def kindFitsCard : Claim7 := { stood := { row := kindFitsRow, standIns := [], harness := (true, "31a5f18d96a025dd999f70b6b3645216ec008eb3fa32bc1e244dd6607278d8ba"), looks := false }, kinds := [], alts := [], laidByText := true, laidKinds := [.data, .data], laidTests := true, laidLooks := .later }
def KindFitsCardSaid : Prop := Claim7.holds Tryd.pinned (.plain (OpenSpec.ofChange kindFitsSpec)) kindFitsCard

/-- THE TIED CARD OF 'thronglaw5.KindOrders'. -/
def kindOrdersCard : Claim7 := { stood := { row := kindOrdersRow, standIns := [], harness := (true, "31a5f18d96a025dd999f70b6b3645216ec008eb3fa32bc1e244dd6607278d8ba"), looks := false }, kinds := [], alts := [], laidByText := true, laidKinds := [.data, .data], laidTests := true, laidLooks := .later }
def KindOrdersCardSaid : Prop := Claim7.holds Tryd.pinned (.plain (OpenSpec.ofChange kindOrdersSpec)) kindOrdersCard

/-- THE SECOND FORM's CARD OF 'thronglaw5.KindTables'. -/
def kindTablesUptoCard : Claim7 := { stood := { row := kindTablesUptoRow, standIns := [], harness := (true, "31a5f18d96a025dd999f70b6b3645216ec008eb3fa32bc1e244dd6607278d8ba"), looks := false }, kinds := [], alts := [], laidByText := true, laidKinds := [.data, .data], laidTests := true, laidLooks := .later }
def KindTablesUptoCardSaid : Prop := Claim7.holds Tryd.pinned (.plain (OpenSpec.upto kindTablesSpec)) kindTablesUptoCard

/-- THE SECOND FORM's CARD OF 'thronglaw5.KindFits'. -/
def kindFitsUptoCard : Claim7 := { stood := { row := kindFitsUptoRow, standIns := [], harness := (true, "31a5f18d96a025dd999f70b6b3645216ec008eb3fa32bc1e244dd6607278d8ba"), looks := false }, kinds := [], alts := [], laidByText := true, laidKinds := [.data, .data], laidTests := true, laidLooks := .later }
def KindFitsUptoCardSaid : Prop := Claim7.holds Tryd.pinned (.plain (OpenSpec.upto kindFitsSpec)) kindFitsUptoCard

/-- THE SECOND FORM's CARD OF 'thronglaw5.KindOrders'. -/
def kindOrdersUptoCard : Claim7 := { stood := { row := kindOrdersUptoRow, standIns := [], harness := (true, "31a5f18d96a025dd999f70b6b3645216ec008eb3fa32bc1e244dd6607278d8ba"), looks := false }, kinds := [], alts := [], laidByText := true, laidKinds := [.data, .data], laidTests := true, laidLooks := .later }
def KindOrdersUptoCardSaid : Prop := Claim7.holds Tryd.pinned (.plain (OpenSpec.upto kindOrdersSpec)) kindOrdersUptoCard
end Rows
end Go.Proofs.YtdammgpflfoppacDoor
