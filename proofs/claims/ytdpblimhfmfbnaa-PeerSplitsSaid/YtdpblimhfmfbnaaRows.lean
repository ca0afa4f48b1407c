/-
  No cell of these rows narrows 'for every input' (looked for: loops, veiled, ifaces, maps, wideKeys, modest, calm, conditions, laid).
  DERIVED. THE GIVEN ROWS OF THIS SEAT. 4 by the template 'for every input the law returns true; each argument reads behind the call as it read before'; 0 by the template 'total and deterministic' (their statements: YtdpblimhfmfbnaaTotals.lean).
  GIVEN WITH THE SEED: the statements are not yours to turn. If you find one false, say at which input.
  Laid BY PROGRAM, IN A SANDBOX (cutbox-rows.mjs): the forced cells as the released guide's own fill.sh prints them over the translation 8e8e5373989a64bc… (all of the seat's roots in one cut). By AI agents, Wed Nov 11 2026. No macro, syntax, notation, axiom, sorry.
-/
import Derived.Test.YtdpblimhfmfbnaaChecked
import GoSem.Claim
import GoSem.ClaimJoined
import GoSem.ClaimMapViews
import Derived.JoinedTies
import Derived.KernelRfl
namespace Go.Proofs.Ytdpblimhfmfbnaa
/- THE CELL 'sum', in the pinned program and in every row, IS THE sha256 OF THE DUMP (.gsa) THAT YtdpblimhfmfbnaaProg.lean LOADS. Nothing in Lean hashes anything: it is a label: what it is worth is what the hold of that sum in a sandbox is worth. -/
noncomputable def Try.pinned : Pinned := { name := "ytdpblimhfmfbnaa", sum := "8e8e5373989a64bc82aa16891206acc2a03a3fa7a96fa0d1645d969e6868c46b", checked := Try.checked }
namespace Rows
def none {H : Type} : Left H := { results := [], args := [] }

/-- 'thronglaw28.PeerNews': WHATEVER THE INPUT: true; the input reads as it did. -/
def peerNewsSpec : ChangeSpec := { name := "peerNews", fn := fun _ => fun
  | [d] => { results := [.lit (.bool true)], args := [d] }
  | _ => none }
def peerNewsRow : OpenClaim := { program := "ytdpblimhfmfbnaa", sum := "8e8e5373989a64bc82aa16891206acc2a03a3fa7a96fa0d1645d969e6868c46b", func := "throng/thronglaw28.PeerNews", spec := "peerNews", unfollowed := true, recurses := true, apart := false }
def PeerNewsSaid : Prop := peerNewsRow.holds Try.pinned (OpenSpec.ofChange peerNewsSpec)

/-- ITS FALSE NEIGHBOUR: 'it returns false'. Refute it at one input. -/
def peerNewsWrong : ChangeSpec := { name := "peerNews", fn := fun _ => fun
  | [d] => { results := [.lit (.bool false)], args := [d] }
  | _ => none }
def PeerNewsWrongFalsely : Prop := peerNewsRow.holds Try.pinned (OpenSpec.ofChange peerNewsWrong)

/-- 'thronglaw28.PeerAgree': WHATEVER THE INPUT: true; the input reads as it did. -/
def peerAgreeSpec : ChangeSpec := { name := "peerAgree", fn := fun _ => fun
  | [d] => { results := [.lit (.bool true)], args := [d] }
  | _ => none }
def peerAgreeRow : OpenClaim := { program := "ytdpblimhfmfbnaa", sum := "8e8e5373989a64bc82aa16891206acc2a03a3fa7a96fa0d1645d969e6868c46b", func := "throng/thronglaw28.PeerAgree", spec := "peerAgree", inPlace := ["slices.overlaps[throng/api.Input]"], unfollowed := true, recurses := true, apart := false }
def PeerAgreeSaid : Prop := peerAgreeRow.holds Try.pinned (OpenSpec.ofChange peerAgreeSpec)

/-- ITS FALSE NEIGHBOUR: 'it returns false'. Refute it at one input. -/
def peerAgreeWrong : ChangeSpec := { name := "peerAgree", fn := fun _ => fun
  | [d] => { results := [.lit (.bool false)], args := [d] }
  | _ => none }
def PeerAgreeWrongFalsely : Prop := peerAgreeRow.holds Try.pinned (OpenSpec.ofChange peerAgreeWrong)

/-- 'thronglaw28.PeerAlone': WHATEVER THE INPUT: true; the input reads as it did. -/
def peerAloneSpec : ChangeSpec := { name := "peerAlone", fn := fun _ => fun
  | [d] => { results := [.lit (.bool true)], args := [d] }
  | _ => none }
def peerAloneRow : OpenClaim := { program := "ytdpblimhfmfbnaa", sum := "8e8e5373989a64bc82aa16891206acc2a03a3fa7a96fa0d1645d969e6868c46b", func := "throng/thronglaw28.PeerAlone", spec := "peerAlone", inPlace := ["slices.overlaps[throng/api.Input]"], unfollowed := true, recurses := true, apart := false }
def PeerAloneSaid : Prop := peerAloneRow.holds Try.pinned (OpenSpec.ofChange peerAloneSpec)

/-- ITS FALSE NEIGHBOUR: 'it returns false'. Refute it at one input. -/
def peerAloneWrong : ChangeSpec := { name := "peerAlone", fn := fun _ => fun
  | [d] => { results := [.lit (.bool false)], args := [d] }
  | _ => none }
def PeerAloneWrongFalsely : Prop := peerAloneRow.holds Try.pinned (OpenSpec.ofChange peerAloneWrong)

/-- 'thronglaw28.PeerSplits': WHATEVER THE INPUT: true; the input reads as it did. -/
def peerSplitsSpec : ChangeSpec := { name := "peerSplits", fn := fun _ => fun
  | [d] => { results := [.lit (.bool true)], args := [d] }
  | _ => none }
def peerSplitsRow : OpenClaim := { program := "ytdpblimhfmfbnaa", sum := "8e8e5373989a64bc82aa16891206acc2a03a3fa7a96fa0d1645d969e6868c46b", func := "throng/thronglaw28.PeerSplits", spec := "peerSplits", inPlace := ["slices.overlaps[throng/api.Input]"], unfollowed := true, recurses := true, apart := false }
def PeerSplitsSaid : Prop := peerSplitsRow.holds Try.pinned (OpenSpec.ofChange peerSplitsSpec)

/-- ITS FALSE NEIGHBOUR: 'it returns false'. Refute it at one input. -/
def peerSplitsWrong : ChangeSpec := { name := "peerSplits", fn := fun _ => fun
  | [d] => { results := [.lit (.bool false)], args := [d] }
  | _ => none }
def PeerSplitsWrongFalsely : Prop := peerSplitsRow.holds Try.pinned (OpenSpec.ofChange peerSplitsWrong)

/- THE SECOND FORM. 'bulk': how many values and letters a reading holds, each counted each time it is reached (what is shared counts as often as it is met; a slice's spare places count too). A statement '..UptoSaid' is the law's where the arguments, and the package variables that the reading takes, are together of bulk at most 1048576: NARROWER than '..Said'. Prove '..Said' where nothing that the law and all that it calls make is longer than what came in: it says more and counts as full. Else prove '..UptoSaid'. A law counts once. -/
mutual
def uptoBulk {H : Type} : DataW H → Nat
  | .lit (.string bytes) => bytes.length + 1
  | .lit _ => 1
  | .nil => 1
  | .ptr d => uptoBulk d + 1
  | .slice elems spare => uptoBulkAll elems + uptoBulkAll spare + 1
  | .agg parts => uptoBulkAll parts + 1
  | .iface _ d => uptoBulk d + 1
  | .map entries => uptoBulkEntries entries + 1
  | .held _ => 1
def uptoBulkAll {H : Type} : List (DataW H) → Nat
  | [] => 0
  | d :: r => uptoBulk d + uptoBulkAll r
def uptoBulkEntries {H : Type} : List (Lit × DataW H) → Nat
  | [] => 0
  | x :: r => uptoBulkEntry x + uptoBulkEntries r
def uptoBulkEntry {H : Type} : Lit × DataW H → Nat
  | (.string bytes, d) => bytes.length + uptoBulk d + 1
  | (_, d) => uptoBulk d + 1
 end
def uptoSmall : (H : Type) → List (DataW H) → Bool := fun _ ds => decide (uptoBulkAll ds ≤ 1048576)
def OpenSpec.upto (s : _root_.Go.ChangeSpec) : _root_.Go.OpenSpec := { _root_.Go.OpenSpec.ofChange s with cond := some uptoSmall }

/-- 'thronglaw28.PeerNews', WHERE WHAT IT READS IS OF BULK AT MOST 1048576: true; the input reads as it did. -/
def peerNewsUptoRow : OpenClaim := { program := "ytdpblimhfmfbnaa", sum := "8e8e5373989a64bc82aa16891206acc2a03a3fa7a96fa0d1645d969e6868c46b", func := "throng/thronglaw28.PeerNews", spec := "peerNews", unfollowed := true, recurses := true, apart := false, narrowed := true }
def PeerNewsUptoSaid : Prop := peerNewsUptoRow.holds Try.pinned (OpenSpec.upto peerNewsSpec)

/-- 'thronglaw28.PeerAgree', WHERE WHAT IT READS IS OF BULK AT MOST 1048576: true; the input reads as it did. -/
def peerAgreeUptoRow : OpenClaim := { program := "ytdpblimhfmfbnaa", sum := "8e8e5373989a64bc82aa16891206acc2a03a3fa7a96fa0d1645d969e6868c46b", func := "throng/thronglaw28.PeerAgree", spec := "peerAgree", inPlace := ["slices.overlaps[throng/api.Input]"], unfollowed := true, recurses := true, apart := false, narrowed := true }
def PeerAgreeUptoSaid : Prop := peerAgreeUptoRow.holds Try.pinned (OpenSpec.upto peerAgreeSpec)

/-- 'thronglaw28.PeerAlone', WHERE WHAT IT READS IS OF BULK AT MOST 1048576: true; the input reads as it did. -/
def peerAloneUptoRow : OpenClaim := { program := "ytdpblimhfmfbnaa", sum := "8e8e5373989a64bc82aa16891206acc2a03a3fa7a96fa0d1645d969e6868c46b", func := "throng/thronglaw28.PeerAlone", spec := "peerAlone", inPlace := ["slices.overlaps[throng/api.Input]"], unfollowed := true, recurses := true, apart := false, narrowed := true }
def PeerAloneUptoSaid : Prop := peerAloneUptoRow.holds Try.pinned (OpenSpec.upto peerAloneSpec)

/-- 'thronglaw28.PeerSplits', WHERE WHAT IT READS IS OF BULK AT MOST 1048576: true; the input reads as it did. -/
def peerSplitsUptoRow : OpenClaim := { program := "ytdpblimhfmfbnaa", sum := "8e8e5373989a64bc82aa16891206acc2a03a3fa7a96fa0d1645d969e6868c46b", func := "throng/thronglaw28.PeerSplits", spec := "peerSplits", inPlace := ["slices.overlaps[throng/api.Input]"], unfollowed := true, recurses := true, apart := false, narrowed := true }
def PeerSplitsUptoSaid : Prop := peerSplitsUptoRow.holds Try.pinned (OpenSpec.upto peerSplitsSpec)

end Rows
end Go.Proofs.Ytdpblimhfmfbnaa
