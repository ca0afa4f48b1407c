/-
  No cell of these rows narrows 'for every input' (looked for: loops, veiled, ifaces, maps, wideKeys, modest, calm, conditions, laid).
  DERIVED. THE GIVEN ROWS OF THIS SEAT. 5 by the template 'for every input the law returns true; each argument reads behind the call as it read before'; 0 by the template 'total and deterministic' (their statements: YtcgilmjhbdehpaaTotals.lean).
  GIVEN WITH THE SEED: the statements are not yours to turn. If you find one false, say at which input.
  Laid BY PROGRAM, IN A SANDBOX (cutbox-rows.mjs): the forced cells as the released guide's own fill.sh prints them over the translation a4732b4b511cc89b… (all of the seat's roots in one cut). By AI agents, Wed Nov 11 2026. No macro, syntax, notation, axiom, sorry.
-/
import Derived.Test.YtcgilmjhbdehpaaChecked
import GoSem.Claim
import GoSem.ClaimJoined
import GoSem.ClaimMapViews
import Derived.JoinedTies
import Derived.KernelRfl
namespace Go.Proofs.Ytcgilmjhbdehpaa
/- THE CELL 'sum', in the pinned program and in every row, IS THE sha256 OF THE DUMP (.gsa) THAT YtcgilmjhbdehpaaProg.lean LOADS. Nothing in Lean hashes anything: it is a label: what it is worth is what the hold of that sum in a sandbox is worth. -/
noncomputable def Try.pinned : Pinned := { name := "ytcgilmjhbdehpaa", sum := "a4732b4b511cc89bb36b4b888b7757ea757291e1a3233ffe7fe53ffb501c5978", checked := Try.checked }
namespace Rows
def none {H : Type} : Left H := { results := [], args := [] }

/-- 'thronglaw11.PortalFinds': WHATEVER THE INPUT: true; the input reads as it did. -/
def portalFindsSpec : ChangeSpec := { name := "portalFinds", fn := fun _ => fun
  | [d] => { results := [.lit (.bool true)], args := [d] }
  | _ => none }
def portalFindsRow : OpenClaim := { program := "ytcgilmjhbdehpaa", sum := "a4732b4b511cc89bb36b4b888b7757ea757291e1a3233ffe7fe53ffb501c5978", func := "throng/thronglaw11.PortalFinds", spec := "portalFinds", unfollowed := true, recurses := true, apart := false }
def PortalFindsSaid : Prop := portalFindsRow.holds Try.pinned (OpenSpec.ofChange portalFindsSpec)

/-- ITS FALSE NEIGHBOUR: 'it returns false'. Refute it at one input. -/
def portalFindsWrong : ChangeSpec := { name := "portalFinds", fn := fun _ => fun
  | [d] => { results := [.lit (.bool false)], args := [d] }
  | _ => none }
def PortalFindsWrongFalsely : Prop := portalFindsRow.holds Try.pinned (OpenSpec.ofChange portalFindsWrong)

/-- 'thronglaw11.PortalPairs': WHATEVER THE INPUT: true; the input reads as it did. -/
def portalPairsSpec : ChangeSpec := { name := "portalPairs", fn := fun _ => fun
  | [d] => { results := [.lit (.bool true)], args := [d] }
  | _ => none }
def portalPairsRow : OpenClaim := { program := "ytcgilmjhbdehpaa", sum := "a4732b4b511cc89bb36b4b888b7757ea757291e1a3233ffe7fe53ffb501c5978", func := "throng/thronglaw11.PortalPairs", spec := "portalPairs", unfollowed := true, recurses := true, apart := false }
def PortalPairsSaid : Prop := portalPairsRow.holds Try.pinned (OpenSpec.ofChange portalPairsSpec)

/-- ITS FALSE NEIGHBOUR: 'it returns false'. Refute it at one input. -/
def portalPairsWrong : ChangeSpec := { name := "portalPairs", fn := fun _ => fun
  | [d] => { results := [.lit (.bool false)], args := [d] }
  | _ => none }
def PortalPairsWrongFalsely : Prop := portalPairsRow.holds Try.pinned (OpenSpec.ofChange portalPairsWrong)

/-- 'thronglaw11.PortalJoins': WHATEVER THE INPUT: true; the input reads as it did. -/
def portalJoinsSpec : ChangeSpec := { name := "portalJoins", fn := fun _ => fun
  | [d] => { results := [.lit (.bool true)], args := [d] }
  | _ => none }
def portalJoinsRow : OpenClaim := { program := "ytcgilmjhbdehpaa", sum := "a4732b4b511cc89bb36b4b888b7757ea757291e1a3233ffe7fe53ffb501c5978", func := "throng/thronglaw11.PortalJoins", spec := "portalJoins", unfollowed := true, recurses := true, apart := false }
def PortalJoinsSaid : Prop := portalJoinsRow.holds Try.pinned (OpenSpec.ofChange portalJoinsSpec)

/-- ITS FALSE NEIGHBOUR: 'it returns false'. Refute it at one input. -/
def portalJoinsWrong : ChangeSpec := { name := "portalJoins", fn := fun _ => fun
  | [d] => { results := [.lit (.bool false)], args := [d] }
  | _ => none }
def PortalJoinsWrongFalsely : Prop := portalJoinsRow.holds Try.pinned (OpenSpec.ofChange portalJoinsWrong)

/-- 'thronglaw11.PortalWalls': WHATEVER THE INPUT: true; the input reads as it did. -/
def portalWallsSpec : ChangeSpec := { name := "portalWalls", fn := fun _ => fun
  | [d] => { results := [.lit (.bool true)], args := [d] }
  | _ => none }
def portalWallsRow : OpenClaim := { program := "ytcgilmjhbdehpaa", sum := "a4732b4b511cc89bb36b4b888b7757ea757291e1a3233ffe7fe53ffb501c5978", func := "throng/thronglaw11.PortalWalls", spec := "portalWalls", unfollowed := true, recurses := true, apart := false }
def PortalWallsSaid : Prop := portalWallsRow.holds Try.pinned (OpenSpec.ofChange portalWallsSpec)

/-- ITS FALSE NEIGHBOUR: 'it returns false'. Refute it at one input. -/
def portalWallsWrong : ChangeSpec := { name := "portalWalls", fn := fun _ => fun
  | [d] => { results := [.lit (.bool false)], args := [d] }
  | _ => none }
def PortalWallsWrongFalsely : Prop := portalWallsRow.holds Try.pinned (OpenSpec.ofChange portalWallsWrong)

/-- 'thronglaw28.PeerNews': WHATEVER THE INPUT: true; the input reads as it did. -/
def peerNewsSpec : ChangeSpec := { name := "peerNews", fn := fun _ => fun
  | [d] => { results := [.lit (.bool true)], args := [d] }
  | _ => none }
def peerNewsRow : OpenClaim := { program := "ytcgilmjhbdehpaa", sum := "a4732b4b511cc89bb36b4b888b7757ea757291e1a3233ffe7fe53ffb501c5978", func := "throng/thronglaw28.PeerNews", spec := "peerNews", unfollowed := true, recurses := true, apart := false }
def PeerNewsSaid : Prop := peerNewsRow.holds Try.pinned (OpenSpec.ofChange peerNewsSpec)

/-- ITS FALSE NEIGHBOUR: 'it returns false'. Refute it at one input. -/
def peerNewsWrong : ChangeSpec := { name := "peerNews", fn := fun _ => fun
  | [d] => { results := [.lit (.bool false)], args := [d] }
  | _ => none }
def PeerNewsWrongFalsely : Prop := peerNewsRow.holds Try.pinned (OpenSpec.ofChange peerNewsWrong)

/- THE SECOND FORM. 'bulk': how many values and letters a reading holds, each counted each time it is reached (what is shared counts as often as it is met; a slice's spare places count too). A statement '..UptoSaid' is the law's where the arguments, and the package variables that the reading takes, are together of bulk at most 1048576: NARROWER than '..Said'. Prove '..Said' where nothing that the law and all that it calls make is longer than what came in: it says more and counts as full. Else prove '..UptoSaid'. A law counts once. -/
mutual
def uptoBulk {H : Type} : DataW H → Nat
  | .lit (.string bytes) => bytes.length + 1
  | .lit _ => 1
  | .nil => 1
  | .ptr d => uptoBulk d + 1
  | .slice elems spare => uptoBulkAll elems + uptoBulkAll spare + 1
  | .agg parts => uptoBulkAll parts + 1
  | .iface _ d => uptoBulk d + 1
  | .map entries => uptoBulkEntries entries + 1
  | .held _ => 1
def uptoBulkAll {H : Type} : List (DataW H) → Nat
  | [] => 0
  | d :: r => uptoBulk d + uptoBulkAll r
def uptoBulkEntries {H : Type} : List (Lit × DataW H) → Nat
  | [] => 0
  | x :: r => uptoBulkEntry x + uptoBulkEntries r
def uptoBulkEntry {H : Type} : Lit × DataW H → Nat
  | (.string bytes, d) => bytes.length + uptoBulk d + 1
  | (_, d) => uptoBulk d + 1
 end
def uptoSmall : (H : Type) → List (DataW H) → Bool := fun _ ds => decide (uptoBulkAll ds ≤ 1048576)
def OpenSpec.upto (s : _root_.Go.ChangeSpec) : _root_.Go.OpenSpec := { _root_.Go.OpenSpec.ofChange s with cond := some uptoSmall }

/-- 'thronglaw11.PortalFinds', WHERE WHAT IT READS IS OF BULK AT MOST 1048576: true; the input reads as it did. -/
def portalFindsUptoRow : OpenClaim := { program := "ytcgilmjhbdehpaa", sum := "a4732b4b511cc89bb36b4b888b7757ea757291e1a3233ffe7fe53ffb501c5978", func := "throng/thronglaw11.PortalFinds", spec := "portalFinds", unfollowed := true, recurses := true, apart := false, narrowed := true }
def PortalFindsUptoSaid : Prop := portalFindsUptoRow.holds Try.pinned (OpenSpec.upto portalFindsSpec)

/-- 'thronglaw11.PortalPairs', WHERE WHAT IT READS IS OF BULK AT MOST 1048576: true; the input reads as it did. -/
def portalPairsUptoRow : OpenClaim := { program := "ytcgilmjhbdehpaa", sum := "a4732b4b511cc89bb36b4b888b7757ea757291e1a3233ffe7fe53ffb501c5978", func := "throng/thronglaw11.PortalPairs", spec := "portalPairs", unfollowed := true, recurses := true, apart := false, narrowed := true }
def PortalPairsUptoSaid : Prop := portalPairsUptoRow.holds Try.pinned (OpenSpec.upto portalPairsSpec)

/-- 'thronglaw11.PortalJoins', WHERE WHAT IT READS IS OF BULK AT MOST 1048576: true; the input reads as it did. -/
def portalJoinsUptoRow : OpenClaim := { program := "ytcgilmjhbdehpaa", sum := "a4732b4b511cc89bb36b4b888b7757ea757291e1a3233ffe7fe53ffb501c5978", func := "throng/thronglaw11.PortalJoins", spec := "portalJoins", unfollowed := true, recurses := true, apart := false, narrowed := true }
def PortalJoinsUptoSaid : Prop := portalJoinsUptoRow.holds Try.pinned (OpenSpec.upto portalJoinsSpec)

/-- 'thronglaw11.PortalWalls', WHERE WHAT IT READS IS OF BULK AT MOST 1048576: true; the input reads as it did. -/
def portalWallsUptoRow : OpenClaim := { program := "ytcgilmjhbdehpaa", sum := "a4732b4b511cc89bb36b4b888b7757ea757291e1a3233ffe7fe53ffb501c5978", func := "throng/thronglaw11.PortalWalls", spec := "portalWalls", unfollowed := true, recurses := true, apart := false, narrowed := true }
def PortalWallsUptoSaid : Prop := portalWallsUptoRow.holds Try.pinned (OpenSpec.upto portalWallsSpec)

/-- 'thronglaw28.PeerNews', WHERE WHAT IT READS IS OF BULK AT MOST 1048576: true; the input reads as it did. -/
def peerNewsUptoRow : OpenClaim := { program := "ytcgilmjhbdehpaa", sum := "a4732b4b511cc89bb36b4b888b7757ea757291e1a3233ffe7fe53ffb501c5978", func := "throng/thronglaw28.PeerNews", spec := "peerNews", unfollowed := true, recurses := true, apart := false, narrowed := true }
def PeerNewsUptoSaid : Prop := peerNewsUptoRow.holds Try.pinned (OpenSpec.upto peerNewsSpec)

end Rows
end Go.Proofs.Ytcgilmjhbdehpaa
