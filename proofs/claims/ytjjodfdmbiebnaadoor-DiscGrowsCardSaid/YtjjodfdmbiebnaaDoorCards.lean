/-
  DERIVED. GIVEN WITH THE SEED: THE CARDS: each row of YtjjodfdmbiebnaaDoorRows.lean that lists a variable, with what it lists TIED to the program's text (the seventh form; the later family's looks); each row that meets fmt, with fmt's text TOLD by the authors' own Lean function (tested against real Go, not proved from fmt's source: count such statements apart). THE CARD IS WHAT COUNTS. Prove the row's statement (the work); the ties are given (YtjjodfdmbiebnaaDoorTie.lean); close each card by the builder's one call (the guide's Derived/Test/ToyasCard.lean, 'card_holds'). Laid BY PROGRAM, IN A SANDBOX (cutbox-door.mjs). By AI agents, Wed Nov 11 2026. No macro, syntax, notation, axiom, sorry.
-/
import Derived.Test.YtjjodfdmbiebnaaDoorRows
import GoSem.ClaimSeven
namespace Go.Proofs.YtjjodfdmbiebnaaDoor
namespace Rows

/-- THE TIED CARD OF 'thronglaw6.GroundBack'. -/
def groundBackCard : Claim7 := { stood := { row := groundBackRow, standIns := [], harness := (true, "2c4bcf7ec666a06e3a39b6c766dcfdcece0d58204668e437dfc8163f308f0d77"), looks := false }, kinds := [], alts := [], laidByText := true, laidKinds := [.data], laidTests := true, laidLooks := .later }
def GroundBackCardSaid : Prop := Claim7.holds Tryd.pinned (.plain (OpenSpec.ofChange groundBackSpec)) groundBackCard

/-- THE TIED CARD OF 'thronglaw6.GroundCounts'. -/
def groundCountsCard : Claim7 := { stood := { row := groundCountsRow, standIns := [], harness := (true, "2c4bcf7ec666a06e3a39b6c766dcfdcece0d58204668e437dfc8163f308f0d77"), looks := false }, kinds := [], alts := [], laidByText := true, laidKinds := [.data], laidTests := true, laidLooks := .later }
def GroundCountsCardSaid : Prop := Claim7.holds Tryd.pinned (.plain (OpenSpec.ofChange groundCountsSpec)) groundCountsCard

/-- THE TIED CARD OF 'thronglaw9.ClearOpens'. -/
def clearOpensCard : Claim7 := { stood := { row := clearOpensRow, standIns := [], harness := (true, "2c4bcf7ec666a06e3a39b6c766dcfdcece0d58204668e437dfc8163f308f0d77"), looks := false }, kinds := [], alts := [], laidByText := true, laidKinds := [.data], laidTests := true, laidLooks := .later }
def ClearOpensCardSaid : Prop := Claim7.holds Tryd.pinned (.plain (OpenSpec.ofChange clearOpensSpec)) clearOpensCard

/-- THE TIED CARD OF 'thronglaw9.ClearGrids'. -/
def clearGridsCard : Claim7 := { stood := { row := clearGridsRow, standIns := [], harness := (true, "2c4bcf7ec666a06e3a39b6c766dcfdcece0d58204668e437dfc8163f308f0d77"), looks := false }, kinds := [], alts := [], laidByText := true, laidKinds := [.data], laidTests := true, laidLooks := .later }
def ClearGridsCardSaid : Prop := Claim7.holds Tryd.pinned (.plain (OpenSpec.ofChange clearGridsSpec)) clearGridsCard

/-- THE TIED CARD OF 'thronglaw9.ClearSquares'. -/
def clearSquaresCard : Claim7 := { stood := { row := clearSquaresRow, standIns := [], harness := (true, "2c4bcf7ec666a06e3a39b6c766dcfdcece0d58204668e437dfc8163f308f0d77"), looks := false }, kinds := [], alts := [], laidByText := true, laidKinds := [.data], laidTests := true, laidLooks := .later }
def ClearSquaresCardSaid : Prop := Claim7.holds Tryd.pinned (.plain (OpenSpec.ofChange clearSquaresSpec)) clearSquaresCard

/-- THE TIED CARD OF 'thronglaw9.ClearBuilt'. -/
def clearBuiltCard : Claim7 := { stood := { row := clearBuiltRow, standIns := [], harness := (true, "2c4bcf7ec666a06e3a39b6c766dcfdcece0d58204668e437dfc8163f308f0d77"), looks := false }, kinds := [], alts := [], laidByText := true, laidKinds := [.data], laidTests := true, laidLooks := .later }
def ClearBuiltCardSaid : Prop := Claim7.holds Tryd.pinned (.plain (OpenSpec.ofChange clearBuiltSpec)) clearBuiltCard

/-- THE TIED CARD OF 'thronglaw9.ClearWalls'. -/
def clearWallsCard : Claim7 := { stood := { row := clearWallsRow, standIns := [], harness := (true, "2c4bcf7ec666a06e3a39b6c766dcfdcece0d58204668e437dfc8163f308f0d77"), looks := false }, kinds := [], alts := [], laidByText := true, laidKinds := [.data], laidTests := true, laidLooks := .later }
def ClearWallsCardSaid : Prop := Claim7.holds Tryd.pinned (.plain (OpenSpec.ofChange clearWallsSpec)) clearWallsCard

/-- THE TIED CARD OF 'thronglaw17.DiscFrees'. -/
def discFreesCard : Claim7 := { stood := { row := discFreesRow, standIns := [], harness := (true, "2c4bcf7ec666a06e3a39b6c766dcfdcece0d58204668e437dfc8163f308f0d77"), looks := false }, kinds := [], alts := [], laidByText := true, laidKinds := [.data], laidTests := true, laidLooks := .later }
def DiscFreesCardSaid : Prop := Claim7.holds Tryd.pinned (.plain (OpenSpec.ofChange discFreesSpec)) discFreesCard

/-- THE TIED CARD OF 'thronglaw17.DiscFits'. -/
def discFitsCard : Claim7 := { stood := { row := discFitsRow, standIns := [], harness := (true, "2c4bcf7ec666a06e3a39b6c766dcfdcece0d58204668e437dfc8163f308f0d77"), looks := false }, kinds := [], alts := [], laidByText := true, laidKinds := [.data], laidTests := true, laidLooks := .later }
def DiscFitsCardSaid : Prop := Claim7.holds Tryd.pinned (.plain (OpenSpec.ofChange discFitsSpec)) discFitsCard

/-- THE TIED CARD OF 'thronglaw17.DiscGrows'. -/
def discGrowsCard : Claim7 := { stood := { row := discGrowsRow, standIns := [], harness := (true, "2c4bcf7ec666a06e3a39b6c766dcfdcece0d58204668e437dfc8163f308f0d77"), looks := false }, kinds := [], alts := [], laidByText := true, laidKinds := [.data], laidTests := true, laidLooks := .later }
def DiscGrowsCardSaid : Prop := Claim7.holds Tryd.pinned (.plain (OpenSpec.ofChange discGrowsSpec)) discGrowsCard

/-- THE SECOND FORM's CARD OF 'thronglaw6.GroundBack'. -/
def groundBackUptoCard : Claim7 := { stood := { row := groundBackUptoRow, standIns := [], harness := (true, "2c4bcf7ec666a06e3a39b6c766dcfdcece0d58204668e437dfc8163f308f0d77"), looks := false }, kinds := [], alts := [], laidByText := true, laidKinds := [.data], laidTests := true, laidLooks := .later }
def GroundBackUptoCardSaid : Prop := Claim7.holds Tryd.pinned (.plain (OpenSpec.upto groundBackSpec)) groundBackUptoCard

/-- THE SECOND FORM's CARD OF 'thronglaw6.GroundCounts'. -/
def groundCountsUptoCard : Claim7 := { stood := { row := groundCountsUptoRow, standIns := [], harness := (true, "2c4bcf7ec666a06e3a39b6c766dcfdcece0d58204668e437dfc8163f308f0d77"), looks := false }, kinds := [], alts := [], laidByText := true, laidKinds := [.data], laidTests := true, laidLooks := .later }
def GroundCountsUptoCardSaid : Prop := Claim7.holds Tryd.pinned (.plain (OpenSpec.upto groundCountsSpec)) groundCountsUptoCard

/-- THE SECOND FORM's CARD OF 'thronglaw9.ClearOpens'. -/
def clearOpensUptoCard : Claim7 := { stood := { row := clearOpensUptoRow, standIns := [], harness := (true, "2c4bcf7ec666a06e3a39b6c766dcfdcece0d58204668e437dfc8163f308f0d77"), looks := false }, kinds := [], alts := [], laidByText := true, laidKinds := [.data], laidTests := true, laidLooks := .later }
def ClearOpensUptoCardSaid : Prop := Claim7.holds Tryd.pinned (.plain (OpenSpec.upto clearOpensSpec)) clearOpensUptoCard

/-- THE SECOND FORM's CARD OF 'thronglaw9.ClearGrids'. -/
def clearGridsUptoCard : Claim7 := { stood := { row := clearGridsUptoRow, standIns := [], harness := (true, "2c4bcf7ec666a06e3a39b6c766dcfdcece0d58204668e437dfc8163f308f0d77"), looks := false }, kinds := [], alts := [], laidByText := true, laidKinds := [.data], laidTests := true, laidLooks := .later }
def ClearGridsUptoCardSaid : Prop := Claim7.holds Tryd.pinned (.plain (OpenSpec.upto clearGridsSpec)) clearGridsUptoCard

/-- THE SECOND FORM's CARD OF 'thronglaw9.ClearSquares'. -/
def clearSquaresUptoCard : Claim7 := { stood := { row := clearSquaresUptoRow, standIns := [], harness := (true, "2c4bcf7ec666a06e3a39b6c766dcfdcece0d58204668e437dfc8163f308f0d77"), looks := false }, kinds := [], alts := [], laidByText := true, laidKinds := [.data], laidTests := true, laidLooks := .later }
def ClearSquaresUptoCardSaid : Prop := Claim7.holds Tryd.pinned (.plain (OpenSpec.upto clearSquaresSpec)) clearSquaresUptoCard

/-- THE SECOND FORM's CARD OF 'thronglaw9.ClearBuilt'. -/
def clearBuiltUptoCard : Claim7 := { stood := { row := clearBuiltUptoRow, standIns := [], harness := (true, "2c4bcf7ec666a06e3a39b6c766dcfdcece0d58204668e437dfc8163f308f0d77"), looks := false }, kinds := [], alts := [], laidByText := true, laidKinds := [.data], laidTests := true, laidLooks := .later }
def ClearBuiltUptoCardSaid : Prop := Claim7.holds Tryd.pinned (.plain (OpenSpec.upto clearBuiltSpec)) clearBuiltUptoCard

/-- THE SECOND FORM's CARD OF 'thronglaw9.ClearWalls'. -/
def clearWallsUptoCard : Claim7 := { stood := { row := clearWallsUptoRow, standIns := [], harness := (true, "2c4bcf7ec666a06e3a39b6c766dcfdcece0d58204668e437dfc8163f308f0d77"), looks := false }, kinds := [], alts := [], laidByText := true, laidKinds := [.data], laidTests := true, laidLooks := .later }
def ClearWallsUptoCardSaid : Prop := Claim7.holds Tryd.pinned (.plain (OpenSpec.upto clearWallsSpec)) clearWallsUptoCard

/-- THE SECOND FORM's CARD OF 'thronglaw17.DiscFrees'. -/
def discFreesUptoCard : Claim7 := { stood := { row := discFreesUptoRow, standIns := [], harness := (true, "2c4bcf7ec666a06e3a39b6c766dcfdcece0d58204668e437dfc8163f308f0d77"), looks := false }, kinds := [], alts := [], laidByText := true, laidKinds := [.data], laidTests := true, laidLooks := .later }
def DiscFreesUptoCardSaid : Prop := Claim7.holds Tryd.pinned (.plain (OpenSpec.upto discFreesSpec)) discFreesUptoCard

/-- THE SECOND FORM's CARD OF 'thronglaw17.DiscFits'. -/
def discFitsUptoCard : Claim7 := { stood := { row := discFitsUptoRow, standIns := [], harness := (true, "2c4bcf7ec666a06e3a39b6c766dcfdcece0d58204668e437dfc8163f308f0d77"), looks := false }, kinds := [], alts := [], laidByText := true, laidKinds := [.data], laidTests := true, laidLooks := .later }
def DiscFitsUptoCardSaid : Prop := Claim7.holds Tryd.pinned (.plain (OpenSpec.upto discFitsSpec)) discFitsUptoCard

/-- THE SECOND FORM's CARD OF 'thronglaw17.DiscGrows'. -/
def discGrowsUptoCard : Claim7 := { stood := { row := discGrowsUptoRow, standIns := [], harness := (true, "2c4bcf7ec666a06e3a39b6c766dcfdcece0d58204668e437dfc8163f308f0d77"), looks := false }, kinds := [], alts := [], laidByText := true, laidKinds := [.data], laidTests := true, laidLooks := .later }
def DiscGrowsUptoCardSaid : Prop := Claim7.holds Tryd.pinned (.plain (OpenSpec.upto discGrowsSpec)) discGrowsUptoCard
end Rows
end Go.Proofs.YtjjodfdmbiebnaaDoor
