/-
  No cell of these rows narrows 'for every input' (looked for: loops, veiled, ifaces, maps, wideKeys, modest, calm, conditions, laid).
  DERIVED. THE GIVEN ROWS OF THIS SEAT. 7 by the template 'for every input the law returns true; each argument reads behind the call as it read before'; 0 by the template 'total and deterministic' (their statements: YtdpblimhfmfbnaaGreatTotals.lean).
  GIVEN WITH THE SEED: the statements are not yours to turn. If you find one false, say at which input.
  Laid BY PROGRAM, IN A SANDBOX (cutbox-rows.mjs): the forced cells as the released guide's own fill.sh prints them over the translation 30f50b1485a5f5d1… (all of the seat's roots in one cut). By AI agents, Wed Nov 11 2026. No macro, syntax, notation, axiom, sorry.
-/
import Derived.Test.YtdpblimhfmfbnaaGreatChecked
import GoSem.Claim
import GoSem.ClaimJoined
import GoSem.ClaimMapViews
import Derived.JoinedTies
import Derived.KernelRfl
namespace Go.Proofs.YtdpblimhfmfbnaaGreat
/- THE CELL 'sum', in the pinned program and in every row, IS THE sha256 OF THE DUMP (.gsa) THAT YtdpblimhfmfbnaaGreatProg.lean LOADS. Nothing in Lean hashes anything: it is a label: what it is worth is what the hold of that sum in a sandbox is worth. -/
noncomputable def Tryz.pinned : Pinned := { name := "ytdpblimhfmfbnaagreat", sum := "30f50b1485a5f5d1330ecfb78ef3a947a6003862df2b81c7e2e21866965c83f2", checked := Tryz.checked }
namespace Rows
def none {H : Type} : Left H := { results := [], args := [] }

/-- 'thronglaw28.PeerExact': WHATEVER THE INPUT: true; the input reads as it did. -/
def peerExactSpec : ChangeSpec := { name := "peerExact", fn := fun _ => fun
  | [d] => { results := [.lit (.bool true)], args := [d] }
  | _ => none }
def peerExactRow : OpenClaim := { program := "ytdpblimhfmfbnaagreat", sum := "30f50b1485a5f5d1330ecfb78ef3a947a6003862df2b81c7e2e21866965c83f2", func := "throng/thronglaw28.PeerExact", spec := "peerExact", inPlace := ["slices.overlaps[throng/api.Input]"], unfollowed := true, recurses := true, apart := false }
def PeerExactSaid : Prop := peerExactRow.holds Tryz.pinned (OpenSpec.ofChange peerExactSpec)

/-- ITS FALSE NEIGHBOUR: 'it returns false'. Refute it at one input. -/
def peerExactWrong : ChangeSpec := { name := "peerExact", fn := fun _ => fun
  | [d] => { results := [.lit (.bool false)], args := [d] }
  | _ => none }
def PeerExactWrongFalsely : Prop := peerExactRow.holds Tryz.pinned (OpenSpec.ofChange peerExactWrong)

/-- 'thronglaw28.PeerSays': WHATEVER THE INPUT: true; the input reads as it did. -/
def peerSaysSpec : ChangeSpec := { name := "peerSays", fn := fun _ => fun
  | [d] => { results := [.lit (.bool true)], args := [d] }
  | _ => none }
def peerSaysRow : OpenClaim := { program := "ytdpblimhfmfbnaagreat", sum := "30f50b1485a5f5d1330ecfb78ef3a947a6003862df2b81c7e2e21866965c83f2", func := "throng/thronglaw28.PeerSays", spec := "peerSays", inPlace := ["slices.overlaps[throng/api.Input]"], unfollowed := true, recurses := true, apart := false }
def PeerSaysSaid : Prop := peerSaysRow.holds Tryz.pinned (OpenSpec.ofChange peerSaysSpec)

/-- ITS FALSE NEIGHBOUR: 'it returns false'. Refute it at one input. -/
def peerSaysWrong : ChangeSpec := { name := "peerSays", fn := fun _ => fun
  | [d] => { results := [.lit (.bool false)], args := [d] }
  | _ => none }
def PeerSaysWrongFalsely : Prop := peerSaysRow.holds Tryz.pinned (OpenSpec.ofChange peerSaysWrong)

/-- 'thronglaw28.PeerTakes': WHATEVER THE INPUT: true; the input reads as it did. -/
def peerTakesSpec : ChangeSpec := { name := "peerTakes", fn := fun _ => fun
  | [d] => { results := [.lit (.bool true)], args := [d] }
  | _ => none }
def peerTakesRow : OpenClaim := { program := "ytdpblimhfmfbnaagreat", sum := "30f50b1485a5f5d1330ecfb78ef3a947a6003862df2b81c7e2e21866965c83f2", func := "throng/thronglaw28.PeerTakes", spec := "peerTakes", inPlace := ["slices.overlaps[throng/api.Input]"], unfollowed := true, recurses := true, apart := false }
def PeerTakesSaid : Prop := peerTakesRow.holds Tryz.pinned (OpenSpec.ofChange peerTakesSpec)

/-- ITS FALSE NEIGHBOUR: 'it returns false'. Refute it at one input. -/
def peerTakesWrong : ChangeSpec := { name := "peerTakes", fn := fun _ => fun
  | [d] => { results := [.lit (.bool false)], args := [d] }
  | _ => none }
def PeerTakesWrongFalsely : Prop := peerTakesRow.holds Tryz.pinned (OpenSpec.ofChange peerTakesWrong)

/-- 'thronglaw28.PeerNotes': WHATEVER THE INPUT: true; the input reads as it did. -/
def peerNotesSpec : ChangeSpec := { name := "peerNotes", fn := fun _ => fun
  | [d] => { results := [.lit (.bool true)], args := [d] }
  | _ => none }
def peerNotesRow : OpenClaim := { program := "ytdpblimhfmfbnaagreat", sum := "30f50b1485a5f5d1330ecfb78ef3a947a6003862df2b81c7e2e21866965c83f2", func := "throng/thronglaw28.PeerNotes", spec := "peerNotes", inPlace := ["slices.overlaps[throng/api.Input]"], unfollowed := true, recurses := true, apart := false }
def PeerNotesSaid : Prop := peerNotesRow.holds Tryz.pinned (OpenSpec.ofChange peerNotesSpec)

/-- ITS FALSE NEIGHBOUR: 'it returns false'. Refute it at one input. -/
def peerNotesWrong : ChangeSpec := { name := "peerNotes", fn := fun _ => fun
  | [d] => { results := [.lit (.bool false)], args := [d] }
  | _ => none }
def PeerNotesWrongFalsely : Prop := peerNotesRow.holds Tryz.pinned (OpenSpec.ofChange peerNotesWrong)

/-- 'thronglaw28.PeerReadies': WHATEVER THE INPUT: true; the input reads as it did. -/
def peerReadiesSpec : ChangeSpec := { name := "peerReadies", fn := fun _ => fun
  | [d] => { results := [.lit (.bool true)], args := [d] }
  | _ => none }
def peerReadiesRow : OpenClaim := { program := "ytdpblimhfmfbnaagreat", sum := "30f50b1485a5f5d1330ecfb78ef3a947a6003862df2b81c7e2e21866965c83f2", func := "throng/thronglaw28.PeerReadies", spec := "peerReadies", inPlace := ["slices.overlaps[throng/api.Input]"], unfollowed := true, recurses := true, apart := false }
def PeerReadiesSaid : Prop := peerReadiesRow.holds Tryz.pinned (OpenSpec.ofChange peerReadiesSpec)

/-- ITS FALSE NEIGHBOUR: 'it returns false'. Refute it at one input. -/
def peerReadiesWrong : ChangeSpec := { name := "peerReadies", fn := fun _ => fun
  | [d] => { results := [.lit (.bool false)], args := [d] }
  | _ => none }
def PeerReadiesWrongFalsely : Prop := peerReadiesRow.holds Tryz.pinned (OpenSpec.ofChange peerReadiesWrong)

/-- 'thronglaw28.PeerRuns': WHATEVER THE INPUT: true; the input reads as it did. -/
def peerRunsSpec : ChangeSpec := { name := "peerRuns", fn := fun _ => fun
  | [d] => { results := [.lit (.bool true)], args := [d] }
  | _ => none }
def peerRunsRow : OpenClaim := { program := "ytdpblimhfmfbnaagreat", sum := "30f50b1485a5f5d1330ecfb78ef3a947a6003862df2b81c7e2e21866965c83f2", func := "throng/thronglaw28.PeerRuns", spec := "peerRuns", inPlace := ["slices.overlaps[throng/api.Input]"], unfollowed := true, recurses := true, apart := false }
def PeerRunsSaid : Prop := peerRunsRow.holds Tryz.pinned (OpenSpec.ofChange peerRunsSpec)

/-- ITS FALSE NEIGHBOUR: 'it returns false'. Refute it at one input. -/
def peerRunsWrong : ChangeSpec := { name := "peerRuns", fn := fun _ => fun
  | [d] => { results := [.lit (.bool false)], args := [d] }
  | _ => none }
def PeerRunsWrongFalsely : Prop := peerRunsRow.holds Tryz.pinned (OpenSpec.ofChange peerRunsWrong)

/-- 'thronglaw28.PeerKeeps': WHATEVER THE INPUT: true; the input reads as it did. -/
def peerKeepsSpec : ChangeSpec := { name := "peerKeeps", fn := fun _ => fun
  | [d] => { results := [.lit (.bool true)], args := [d] }
  | _ => none }
def peerKeepsRow : OpenClaim := { program := "ytdpblimhfmfbnaagreat", sum := "30f50b1485a5f5d1330ecfb78ef3a947a6003862df2b81c7e2e21866965c83f2", func := "throng/thronglaw28.PeerKeeps", spec := "peerKeeps", inPlace := ["slices.overlaps[throng/api.Input]"], unfollowed := true, recurses := true, apart := false }
def PeerKeepsSaid : Prop := peerKeepsRow.holds Tryz.pinned (OpenSpec.ofChange peerKeepsSpec)

/-- ITS FALSE NEIGHBOUR: 'it returns false'. Refute it at one input. -/
def peerKeepsWrong : ChangeSpec := { name := "peerKeeps", fn := fun _ => fun
  | [d] => { results := [.lit (.bool false)], args := [d] }
  | _ => none }
def PeerKeepsWrongFalsely : Prop := peerKeepsRow.holds Tryz.pinned (OpenSpec.ofChange peerKeepsWrong)

/- THE SECOND FORM. 'bulk': how many values and letters a reading holds, each counted each time it is reached (what is shared counts as often as it is met; a slice's spare places count too). A statement '..UptoSaid' is the law's where the arguments, and the package variables that the reading takes, are together of bulk at most 1048576: NARROWER than '..Said'. Prove '..Said' where nothing that the law and all that it calls make is longer than what came in: it says more and counts as full. Else prove '..UptoSaid'. A law counts once. -/
mutual
def uptoBulk {H : Type} : DataW H → Nat
  | .lit (.string bytes) => bytes.length + 1
  | .lit _ => 1
  | .nil => 1
  | .ptr d => uptoBulk d + 1
  | .slice elems spare => uptoBulkAll elems + uptoBulkAll spare + 1
  | .agg parts => uptoBulkAll parts + 1
  | .iface _ d => uptoBulk d + 1
  | .map entries => uptoBulkEntries entries + 1
  | .held _ => 1
def uptoBulkAll {H : Type} : List (DataW H) → Nat
  | [] => 0
  | d :: r => uptoBulk d + uptoBulkAll r
def uptoBulkEntries {H : Type} : List (Lit × DataW H) → Nat
  | [] => 0
  | x :: r => uptoBulkEntry x + uptoBulkEntries r
def uptoBulkEntry {H : Type} : Lit × DataW H → Nat
  | (.string bytes, d) => bytes.length + uptoBulk d + 1
  | (_, d) => uptoBulk d + 1
 end
def uptoSmall : (H : Type) → List (DataW H) → Bool := fun _ ds => decide (uptoBulkAll ds ≤ 1048576)
def OpenSpec.upto (s : _root_.Go.ChangeSpec) : _root_.Go.OpenSpec := { _root_.Go.OpenSpec.ofChange s with cond := some uptoSmall }

/-- 'thronglaw28.PeerExact', WHERE WHAT IT READS IS OF BULK AT MOST 1048576: true; the input reads as it did. -/
def peerExactUptoRow : OpenClaim := { program := "ytdpblimhfmfbnaagreat", sum := "30f50b1485a5f5d1330ecfb78ef3a947a6003862df2b81c7e2e21866965c83f2", func := "throng/thronglaw28.PeerExact", spec := "peerExact", inPlace := ["slices.overlaps[throng/api.Input]"], unfollowed := true, recurses := true, apart := false, narrowed := true }
def PeerExactUptoSaid : Prop := peerExactUptoRow.holds Tryz.pinned (OpenSpec.upto peerExactSpec)

/-- 'thronglaw28.PeerSays', WHERE WHAT IT READS IS OF BULK AT MOST 1048576: true; the input reads as it did. -/
def peerSaysUptoRow : OpenClaim := { program := "ytdpblimhfmfbnaagreat", sum := "30f50b1485a5f5d1330ecfb78ef3a947a6003862df2b81c7e2e21866965c83f2", func := "throng/thronglaw28.PeerSays", spec := "peerSays", inPlace := ["slices.overlaps[throng/api.Input]"], unfollowed := true, recurses := true, apart := false, narrowed := true }
def PeerSaysUptoSaid : Prop := peerSaysUptoRow.holds Tryz.pinned (OpenSpec.upto peerSaysSpec)

/-- 'thronglaw28.PeerTakes', WHERE WHAT IT READS IS OF BULK AT MOST 1048576: true; the input reads as it did. -/
def peerTakesUptoRow : OpenClaim := { program := "ytdpblimhfmfbnaagreat", sum := "30f50b1485a5f5d1330ecfb78ef3a947a6003862df2b81c7e2e21866965c83f2", func := "throng/thronglaw28.PeerTakes", spec := "peerTakes", inPlace := ["slices.overlaps[throng/api.Input]"], unfollowed := true, recurses := true, apart := false, narrowed := true }
def PeerTakesUptoSaid : Prop := peerTakesUptoRow.holds Tryz.pinned (OpenSpec.upto peerTakesSpec)

/-- 'thronglaw28.PeerNotes', WHERE WHAT IT READS IS OF BULK AT MOST 1048576: true; the input reads as it did. -/
def peerNotesUptoRow : OpenClaim := { program := "ytdpblimhfmfbnaagreat", sum := "30f50b1485a5f5d1330ecfb78ef3a947a6003862df2b81c7e2e21866965c83f2", func := "throng/thronglaw28.PeerNotes", spec := "peerNotes", inPlace := ["slices.overlaps[throng/api.Input]"], unfollowed := true, recurses := true, apart := false, narrowed := true }
def PeerNotesUptoSaid : Prop := peerNotesUptoRow.holds Tryz.pinned (OpenSpec.upto peerNotesSpec)

/-- 'thronglaw28.PeerReadies', WHERE WHAT IT READS IS OF BULK AT MOST 1048576: true; the input reads as it did. -/
def peerReadiesUptoRow : OpenClaim := { program := "ytdpblimhfmfbnaagreat", sum := "30f50b1485a5f5d1330ecfb78ef3a947a6003862df2b81c7e2e21866965c83f2", func := "throng/thronglaw28.PeerReadies", spec := "peerReadies", inPlace := ["slices.overlaps[throng/api.Input]"], unfollowed := true, recurses := true, apart := false, narrowed := true }
def PeerReadiesUptoSaid : Prop := peerReadiesUptoRow.holds Tryz.pinned (OpenSpec.upto peerReadiesSpec)

/-- 'thronglaw28.PeerRuns', WHERE WHAT IT READS IS OF BULK AT MOST 1048576: true; the input reads as it did. -/
def peerRunsUptoRow : OpenClaim := { program := "ytdpblimhfmfbnaagreat", sum := "30f50b1485a5f5d1330ecfb78ef3a947a6003862df2b81c7e2e21866965c83f2", func := "throng/thronglaw28.PeerRuns", spec := "peerRuns", inPlace := ["slices.overlaps[throng/api.Input]"], unfollowed := true, recurses := true, apart := false, narrowed := true }
def PeerRunsUptoSaid : Prop := peerRunsUptoRow.holds Tryz.pinned (OpenSpec.upto peerRunsSpec)

/-- 'thronglaw28.PeerKeeps', WHERE WHAT IT READS IS OF BULK AT MOST 1048576: true; the input reads as it did. -/
def peerKeepsUptoRow : OpenClaim := { program := "ytdpblimhfmfbnaagreat", sum := "30f50b1485a5f5d1330ecfb78ef3a947a6003862df2b81c7e2e21866965c83f2", func := "throng/thronglaw28.PeerKeeps", spec := "peerKeeps", inPlace := ["slices.overlaps[throng/api.Input]"], unfollowed := true, recurses := true, apart := false, narrowed := true }
def PeerKeepsUptoSaid : Prop := peerKeepsUptoRow.holds Tryz.pinned (OpenSpec.upto peerKeepsSpec)

end Rows
end Go.Proofs.YtdpblimhfmfbnaaGreat
