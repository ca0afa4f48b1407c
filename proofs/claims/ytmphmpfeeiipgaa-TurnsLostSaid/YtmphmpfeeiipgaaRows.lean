/-
  No cell of these rows narrows 'for every input' (looked for: loops, veiled, ifaces, maps, wideKeys, modest, calm, conditions, laid).
  DERIVED. THE GIVEN ROWS OF THIS SEAT. 7 by the template 'for every input the law returns true; each argument reads behind the call as it read before'; 0 by the template 'total and deterministic' (their statements: YtmphmpfeeiipgaaTotals.lean).
  GIVEN WITH THE SEED: the statements are not yours to turn. If you find one false, say at which input.
  Laid BY PROGRAM, IN A SANDBOX (cutbox-rows.mjs): the forced cells as the released guide's own fill.sh prints them over the translation 19ee3107fad54b60… (all of the seat's roots in one cut). By AI agents, Wed Nov 11 2026. No macro, syntax, notation, axiom, sorry.
-/
import Derived.Test.YtmphmpfeeiipgaaChecked
import GoSem.Claim
import GoSem.ClaimJoined
import GoSem.ClaimMapViews
import Derived.JoinedTies
import Derived.KernelRfl
namespace Go.Proofs.Ytmphmpfeeiipgaa
/- THE CELL 'sum', in the pinned program and in every row, IS THE sha256 OF THE DUMP (.gsa) THAT YtmphmpfeeiipgaaProg.lean LOADS. Nothing in Lean hashes anything: it is a label: what it is worth is what the hold of that sum in a sandbox is worth. -/
noncomputable def Try.pinned : Pinned := { name := "ytmphmpfeeiipgaa", sum := "19ee3107fad54b60d490b860085757b8b63c9cd3f40ee4f14e4c4921c3aa3909", checked := Try.checked }
namespace Rows
def none {H : Type} : Left H := { results := [], args := [] }

/-- 'thronglaw27.TurnsChecks': WHATEVER THE INPUT: true; the input reads as it did. -/
def turnsChecksSpec : ChangeSpec := { name := "turnsChecks", fn := fun _ => fun
  | [d] => { results := [.lit (.bool true)], args := [d] }
  | _ => none }
def turnsChecksRow : OpenClaim := { program := "ytmphmpfeeiipgaa", sum := "19ee3107fad54b60d490b860085757b8b63c9cd3f40ee4f14e4c4921c3aa3909", func := "throng/thronglaw27.TurnsChecks", spec := "turnsChecks", unfollowed := true, recurses := true, apart := false }
def TurnsChecksSaid : Prop := turnsChecksRow.holds Try.pinned (OpenSpec.ofChange turnsChecksSpec)

/-- ITS FALSE NEIGHBOUR: 'it returns false'. Refute it at one input. -/
def turnsChecksWrong : ChangeSpec := { name := "turnsChecks", fn := fun _ => fun
  | [d] => { results := [.lit (.bool false)], args := [d] }
  | _ => none }
def TurnsChecksWrongFalsely : Prop := turnsChecksRow.holds Try.pinned (OpenSpec.ofChange turnsChecksWrong)

/-- 'thronglaw27.TurnsMerges': WHATEVER THE INPUT: true; the input reads as it did. -/
def turnsMergesSpec : ChangeSpec := { name := "turnsMerges", fn := fun _ => fun
  | [d] => { results := [.lit (.bool true)], args := [d] }
  | _ => none }
def turnsMergesRow : OpenClaim := { program := "ytmphmpfeeiipgaa", sum := "19ee3107fad54b60d490b860085757b8b63c9cd3f40ee4f14e4c4921c3aa3909", func := "throng/thronglaw27.TurnsMerges", spec := "turnsMerges", unfollowed := true, recurses := true, apart := false }
def TurnsMergesSaid : Prop := turnsMergesRow.holds Try.pinned (OpenSpec.ofChange turnsMergesSpec)

/-- ITS FALSE NEIGHBOUR: 'it returns false'. Refute it at one input. -/
def turnsMergesWrong : ChangeSpec := { name := "turnsMerges", fn := fun _ => fun
  | [d] => { results := [.lit (.bool false)], args := [d] }
  | _ => none }
def TurnsMergesWrongFalsely : Prop := turnsMergesRow.holds Try.pinned (OpenSpec.ofChange turnsMergesWrong)

/-- 'thronglaw27.TurnsPuts': WHATEVER THE INPUT: true; the input reads as it did. -/
def turnsPutsSpec : ChangeSpec := { name := "turnsPuts", fn := fun _ => fun
  | [d] => { results := [.lit (.bool true)], args := [d] }
  | _ => none }
def turnsPutsRow : OpenClaim := { program := "ytmphmpfeeiipgaa", sum := "19ee3107fad54b60d490b860085757b8b63c9cd3f40ee4f14e4c4921c3aa3909", func := "throng/thronglaw27.TurnsPuts", spec := "turnsPuts", inPlace := ["slices.overlaps[throng/api.Input]"], unfollowed := true, recurses := true, apart := false }
def TurnsPutsSaid : Prop := turnsPutsRow.holds Try.pinned (OpenSpec.ofChange turnsPutsSpec)

/-- ITS FALSE NEIGHBOUR: 'it returns false'. Refute it at one input. -/
def turnsPutsWrong : ChangeSpec := { name := "turnsPuts", fn := fun _ => fun
  | [d] => { results := [.lit (.bool false)], args := [d] }
  | _ => none }
def TurnsPutsWrongFalsely : Prop := turnsPutsRow.holds Try.pinned (OpenSpec.ofChange turnsPutsWrong)

/-- 'thronglaw27.TurnsTakes': WHATEVER THE INPUT: true; the input reads as it did. -/
def turnsTakesSpec : ChangeSpec := { name := "turnsTakes", fn := fun _ => fun
  | [d] => { results := [.lit (.bool true)], args := [d] }
  | _ => none }
def turnsTakesRow : OpenClaim := { program := "ytmphmpfeeiipgaa", sum := "19ee3107fad54b60d490b860085757b8b63c9cd3f40ee4f14e4c4921c3aa3909", func := "throng/thronglaw27.TurnsTakes", spec := "turnsTakes", unfollowed := true, recurses := true, apart := false }
def TurnsTakesSaid : Prop := turnsTakesRow.holds Try.pinned (OpenSpec.ofChange turnsTakesSpec)

/-- ITS FALSE NEIGHBOUR: 'it returns false'. Refute it at one input. -/
def turnsTakesWrong : ChangeSpec := { name := "turnsTakes", fn := fun _ => fun
  | [d] => { results := [.lit (.bool false)], args := [d] }
  | _ => none }
def TurnsTakesWrongFalsely : Prop := turnsTakesRow.holds Try.pinned (OpenSpec.ofChange turnsTakesWrong)

/-- 'thronglaw27.TurnsOrders': WHATEVER THE INPUT: true; the input reads as it did. -/
def turnsOrdersSpec : ChangeSpec := { name := "turnsOrders", fn := fun _ => fun
  | [d] => { results := [.lit (.bool true)], args := [d] }
  | _ => none }
def turnsOrdersRow : OpenClaim := { program := "ytmphmpfeeiipgaa", sum := "19ee3107fad54b60d490b860085757b8b63c9cd3f40ee4f14e4c4921c3aa3909", func := "throng/thronglaw27.TurnsOrders", spec := "turnsOrders", unfollowed := true, recurses := true, apart := false }
def TurnsOrdersSaid : Prop := turnsOrdersRow.holds Try.pinned (OpenSpec.ofChange turnsOrdersSpec)

/-- ITS FALSE NEIGHBOUR: 'it returns false'. Refute it at one input. -/
def turnsOrdersWrong : ChangeSpec := { name := "turnsOrders", fn := fun _ => fun
  | [d] => { results := [.lit (.bool false)], args := [d] }
  | _ => none }
def TurnsOrdersWrongFalsely : Prop := turnsOrdersRow.holds Try.pinned (OpenSpec.ofChange turnsOrdersWrong)

/-- 'thronglaw27.TurnsLost': WHATEVER THE INPUT: true; the input reads as it did. -/
def turnsLostSpec : ChangeSpec := { name := "turnsLost", fn := fun _ => fun
  | [d] => { results := [.lit (.bool true)], args := [d] }
  | _ => none }
def turnsLostRow : OpenClaim := { program := "ytmphmpfeeiipgaa", sum := "19ee3107fad54b60d490b860085757b8b63c9cd3f40ee4f14e4c4921c3aa3909", func := "throng/thronglaw27.TurnsLost", spec := "turnsLost", inPlace := ["slices.overlaps[throng/api.Input]"], unfollowed := true, recurses := true, apart := false }
def TurnsLostSaid : Prop := turnsLostRow.holds Try.pinned (OpenSpec.ofChange turnsLostSpec)

/-- ITS FALSE NEIGHBOUR: 'it returns false'. Refute it at one input. -/
def turnsLostWrong : ChangeSpec := { name := "turnsLost", fn := fun _ => fun
  | [d] => { results := [.lit (.bool false)], args := [d] }
  | _ => none }
def TurnsLostWrongFalsely : Prop := turnsLostRow.holds Try.pinned (OpenSpec.ofChange turnsLostWrong)

/-- 'thronglaw28.PeerNews': WHATEVER THE INPUT: true; the input reads as it did. -/
def peerNewsSpec : ChangeSpec := { name := "peerNews", fn := fun _ => fun
  | [d] => { results := [.lit (.bool true)], args := [d] }
  | _ => none }
def peerNewsRow : OpenClaim := { program := "ytmphmpfeeiipgaa", sum := "19ee3107fad54b60d490b860085757b8b63c9cd3f40ee4f14e4c4921c3aa3909", func := "throng/thronglaw28.PeerNews", spec := "peerNews", unfollowed := true, recurses := true, apart := false }
def PeerNewsSaid : Prop := peerNewsRow.holds Try.pinned (OpenSpec.ofChange peerNewsSpec)

/-- ITS FALSE NEIGHBOUR: 'it returns false'. Refute it at one input. -/
def peerNewsWrong : ChangeSpec := { name := "peerNews", fn := fun _ => fun
  | [d] => { results := [.lit (.bool false)], args := [d] }
  | _ => none }
def PeerNewsWrongFalsely : Prop := peerNewsRow.holds Try.pinned (OpenSpec.ofChange peerNewsWrong)

/- THE SECOND FORM. 'bulk': how many values and letters a reading holds, each counted each time it is reached (what is shared counts as often as it is met; a slice's spare places count too). A statement '..UptoSaid' is the law's where the arguments, and the package variables that the reading takes, are together of bulk at most 1048576: NARROWER than '..Said'. Prove '..Said' where nothing that the law and all that it calls make is longer than what came in: it says more and counts as full. Else prove '..UptoSaid'. A law counts once. -/
mutual
def uptoBulk {H : Type} : DataW H → Nat
  | .lit (.string bytes) => bytes.length + 1
  | .lit _ => 1
  | .nil => 1
  | .ptr d => uptoBulk d + 1
  | .slice elems spare => uptoBulkAll elems + uptoBulkAll spare + 1
  | .agg parts => uptoBulkAll parts + 1
  | .iface _ d => uptoBulk d + 1
  | .map entries => uptoBulkEntries entries + 1
  | .held _ => 1
def uptoBulkAll {H : Type} : List (DataW H) → Nat
  | [] => 0
  | d :: r => uptoBulk d + uptoBulkAll r
def uptoBulkEntries {H : Type} : List (Lit × DataW H) → Nat
  | [] => 0
  | x :: r => uptoBulkEntry x + uptoBulkEntries r
def uptoBulkEntry {H : Type} : Lit × DataW H → Nat
  | (.string bytes, d) => bytes.length + uptoBulk d + 1
  | (_, d) => uptoBulk d + 1
 end
def uptoSmall : (H : Type) → List (DataW H) → Bool := fun _ ds => decide (uptoBulkAll ds ≤ 1048576)
def OpenSpec.upto (s : _root_.Go.ChangeSpec) : _root_.Go.OpenSpec := { _root_.Go.OpenSpec.ofChange s with cond := some uptoSmall }

/-- 'thronglaw27.TurnsChecks', WHERE WHAT IT READS IS OF BULK AT MOST 1048576: true; the input reads as it did. -/
def turnsChecksUptoRow : OpenClaim := { program := "ytmphmpfeeiipgaa", sum := "19ee3107fad54b60d490b860085757b8b63c9cd3f40ee4f14e4c4921c3aa3909", func := "throng/thronglaw27.TurnsChecks", spec := "turnsChecks", unfollowed := true, recurses := true, apart := false, narrowed := true }
def TurnsChecksUptoSaid : Prop := turnsChecksUptoRow.holds Try.pinned (OpenSpec.upto turnsChecksSpec)

/-- 'thronglaw27.TurnsMerges', WHERE WHAT IT READS IS OF BULK AT MOST 1048576: true; the input reads as it did. -/
def turnsMergesUptoRow : OpenClaim := { program := "ytmphmpfeeiipgaa", sum := "19ee3107fad54b60d490b860085757b8b63c9cd3f40ee4f14e4c4921c3aa3909", func := "throng/thronglaw27.TurnsMerges", spec := "turnsMerges", unfollowed := true, recurses := true, apart := false, narrowed := true }
def TurnsMergesUptoSaid : Prop := turnsMergesUptoRow.holds Try.pinned (OpenSpec.upto turnsMergesSpec)

/-- 'thronglaw27.TurnsPuts', WHERE WHAT IT READS IS OF BULK AT MOST 1048576: true; the input reads as it did. -/
def turnsPutsUptoRow : OpenClaim := { program := "ytmphmpfeeiipgaa", sum := "19ee3107fad54b60d490b860085757b8b63c9cd3f40ee4f14e4c4921c3aa3909", func := "throng/thronglaw27.TurnsPuts", spec := "turnsPuts", inPlace := ["slices.overlaps[throng/api.Input]"], unfollowed := true, recurses := true, apart := false, narrowed := true }
def TurnsPutsUptoSaid : Prop := turnsPutsUptoRow.holds Try.pinned (OpenSpec.upto turnsPutsSpec)

/-- 'thronglaw27.TurnsTakes', WHERE WHAT IT READS IS OF BULK AT MOST 1048576: true; the input reads as it did. -/
def turnsTakesUptoRow : OpenClaim := { program := "ytmphmpfeeiipgaa", sum := "19ee3107fad54b60d490b860085757b8b63c9cd3f40ee4f14e4c4921c3aa3909", func := "throng/thronglaw27.TurnsTakes", spec := "turnsTakes", unfollowed := true, recurses := true, apart := false, narrowed := true }
def TurnsTakesUptoSaid : Prop := turnsTakesUptoRow.holds Try.pinned (OpenSpec.upto turnsTakesSpec)

/-- 'thronglaw27.TurnsOrders', WHERE WHAT IT READS IS OF BULK AT MOST 1048576: true; the input reads as it did. -/
def turnsOrdersUptoRow : OpenClaim := { program := "ytmphmpfeeiipgaa", sum := "19ee3107fad54b60d490b860085757b8b63c9cd3f40ee4f14e4c4921c3aa3909", func := "throng/thronglaw27.TurnsOrders", spec := "turnsOrders", unfollowed := true, recurses := true, apart := false, narrowed := true }
def TurnsOrdersUptoSaid : Prop := turnsOrdersUptoRow.holds Try.pinned (OpenSpec.upto turnsOrdersSpec)

/-- 'thronglaw27.TurnsLost', WHERE WHAT IT READS IS OF BULK AT MOST 1048576: true; the input reads as it did. -/
def turnsLostUptoRow : OpenClaim := { program := "ytmphmpfeeiipgaa", sum := "19ee3107fad54b60d490b860085757b8b63c9cd3f40ee4f14e4c4921c3aa3909", func := "throng/thronglaw27.TurnsLost", spec := "turnsLost", inPlace := ["slices.overlaps[throng/api.Input]"], unfollowed := true, recurses := true, apart := false, narrowed := true }
def TurnsLostUptoSaid : Prop := turnsLostUptoRow.holds Try.pinned (OpenSpec.upto turnsLostSpec)

/-- 'thronglaw28.PeerNews', WHERE WHAT IT READS IS OF BULK AT MOST 1048576: true; the input reads as it did. -/
def peerNewsUptoRow : OpenClaim := { program := "ytmphmpfeeiipgaa", sum := "19ee3107fad54b60d490b860085757b8b63c9cd3f40ee4f14e4c4921c3aa3909", func := "throng/thronglaw28.PeerNews", spec := "peerNews", unfollowed := true, recurses := true, apart := false, narrowed := true }
def PeerNewsUptoSaid : Prop := peerNewsUptoRow.holds Try.pinned (OpenSpec.upto peerNewsSpec)

end Rows
end Go.Proofs.Ytmphmpfeeiipgaa
