/-
  DERIVED. GIVEN WITH THE SEED: THE CARDS: each row of YtmkehmeoglpkeaaDoorRows.lean that lists a variable, with what it lists TIED to the program's text (the seventh form; the later family's looks); each row that meets fmt, with fmt's text TOLD by the authors' own Lean function (tested against real Go, not proved from fmt's source: count such statements apart). THE CARD IS WHAT COUNTS. Prove the row's statement (the work); the ties are given (YtmkehmeoglpkeaaDoorTie.lean); close each card by the builder's one call (the guide's Derived/Test/ToyasCard.lean, 'card_holds'). Laid BY PROGRAM, IN A SANDBOX (cutbox-door.mjs). By AI agents, Wed Nov 11 2026. No macro, syntax, notation, axiom, sorry.
-/
import Derived.Test.YtmkehmeoglpkeaaDoorRows
import GoSem.ClaimSeven
namespace Go.Proofs.YtmkehmeoglpkeaaDoor
namespace Rows

/-- THE TIED CARD OF 'thronglaw6.GroundTiles'. -/
def groundTilesCard : Claim7 := { stood := { row := groundTilesRow, standIns := [], harness := (true, "3c9e6f92a97c69175258d1789488d6137cac73239dd23350ef2bca0bd68cf65a"), looks := false }, kinds := [], alts := [], laidByText := true, laidKinds := [.data], laidTests := true, laidLooks := .later }
def GroundTilesCardSaid : Prop := Claim7.holds Tryd.pinned (.plain (OpenSpec.ofChange groundTilesSpec)) groundTilesCard

/-- THE TIED CARD OF 'thronglaw6.GroundPlaces'. -/
def groundPlacesCard : Claim7 := { stood := { row := groundPlacesRow, standIns := [], harness := (true, "3c9e6f92a97c69175258d1789488d6137cac73239dd23350ef2bca0bd68cf65a"), looks := false }, kinds := [], alts := [], laidByText := true, laidKinds := [.data], laidTests := true, laidLooks := .later }
def GroundPlacesCardSaid : Prop := Claim7.holds Tryd.pinned (.plain (OpenSpec.ofChange groundPlacesSpec)) groundPlacesCard

/-- THE TIED CARD OF 'thronglaw6.GroundNears'. -/
def groundNearsCard : Claim7 := { stood := { row := groundNearsRow, standIns := [], harness := (true, "3c9e6f92a97c69175258d1789488d6137cac73239dd23350ef2bca0bd68cf65a"), looks := false }, kinds := [], alts := [], laidByText := true, laidKinds := [.data], laidTests := true, laidLooks := .later }
def GroundNearsCardSaid : Prop := Claim7.holds Tryd.pinned (.plain (OpenSpec.ofChange groundNearsSpec)) groundNearsCard

/-- THE TIED CARD OF 'thronglaw6.GroundBack'. -/
def groundBackCard : Claim7 := { stood := { row := groundBackRow, standIns := [], harness := (true, "3c9e6f92a97c69175258d1789488d6137cac73239dd23350ef2bca0bd68cf65a"), looks := false }, kinds := [], alts := [], laidByText := true, laidKinds := [.data], laidTests := true, laidLooks := .later }
def GroundBackCardSaid : Prop := Claim7.holds Tryd.pinned (.plain (OpenSpec.ofChange groundBackSpec)) groundBackCard

/-- THE TIED CARD OF 'thronglaw6.GroundCounts'. -/
def groundCountsCard : Claim7 := { stood := { row := groundCountsRow, standIns := [], harness := (true, "3c9e6f92a97c69175258d1789488d6137cac73239dd23350ef2bca0bd68cf65a"), looks := false }, kinds := [], alts := [], laidByText := true, laidKinds := [.data], laidTests := true, laidLooks := .later }
def GroundCountsCardSaid : Prop := Claim7.holds Tryd.pinned (.plain (OpenSpec.ofChange groundCountsSpec)) groundCountsCard

/-- THE SECOND FORM's CARD OF 'thronglaw6.GroundTiles'. -/
def groundTilesUptoCard : Claim7 := { stood := { row := groundTilesUptoRow, standIns := [], harness := (true, "3c9e6f92a97c69175258d1789488d6137cac73239dd23350ef2bca0bd68cf65a"), looks := false }, kinds := [], alts := [], laidByText := true, laidKinds := [.data], laidTests := true, laidLooks := .later }
def GroundTilesUptoCardSaid : Prop := Claim7.holds Tryd.pinned (.plain (OpenSpec.upto groundTilesSpec)) groundTilesUptoCard

/-- THE SECOND FORM's CARD OF 'thronglaw6.GroundPlaces'. -/
def groundPlacesUptoCard : Claim7 := { stood := { row := groundPlacesUptoRow, standIns := [], harness := (true, "3c9e6f92a97c69175258d1789488d6137cac73239dd23350ef2bca0bd68cf65a"), looks := false }, kinds := [], alts := [], laidByText := true, laidKinds := [.data], laidTests := true, laidLooks := .later }
def GroundPlacesUptoCardSaid : Prop := Claim7.holds Tryd.pinned (.plain (OpenSpec.upto groundPlacesSpec)) groundPlacesUptoCard

/-- THE SECOND FORM's CARD OF 'thronglaw6.GroundNears'. -/
def groundNearsUptoCard : Claim7 := { stood := { row := groundNearsUptoRow, standIns := [], harness := (true, "3c9e6f92a97c69175258d1789488d6137cac73239dd23350ef2bca0bd68cf65a"), looks := false }, kinds := [], alts := [], laidByText := true, laidKinds := [.data], laidTests := true, laidLooks := .later }
def GroundNearsUptoCardSaid : Prop := Claim7.holds Tryd.pinned (.plain (OpenSpec.upto groundNearsSpec)) groundNearsUptoCard

/-- THE SECOND FORM's CARD OF 'thronglaw6.GroundBack'. -/
def groundBackUptoCard : Claim7 := { stood := { row := groundBackUptoRow, standIns := [], harness := (true, "3c9e6f92a97c69175258d1789488d6137cac73239dd23350ef2bca0bd68cf65a"), looks := false }, kinds := [], alts := [], laidByText := true, laidKinds := [.data], laidTests := true, laidLooks := .later }
def GroundBackUptoCardSaid : Prop := Claim7.holds Tryd.pinned (.plain (OpenSpec.upto groundBackSpec)) groundBackUptoCard

/-- THE SECOND FORM's CARD OF 'thronglaw6.GroundCounts'. -/
def groundCountsUptoCard : Claim7 := { stood := { row := groundCountsUptoRow, standIns := [], harness := (true, "3c9e6f92a97c69175258d1789488d6137cac73239dd23350ef2bca0bd68cf65a"), looks := false }, kinds := [], alts := [], laidByText := true, laidKinds := [.data], laidTests := true, laidLooks := .later }
def GroundCountsUptoCardSaid : Prop := Claim7.holds Tryd.pinned (.plain (OpenSpec.upto groundCountsSpec)) groundCountsUptoCard
end Rows
end Go.Proofs.YtmkehmeoglpkeaaDoor
