/-
  No cell of these rows narrows 'for every input' (looked for: loops, veiled, ifaces, maps, wideKeys, modest, calm, conditions, laid).
  DERIVED. THE GIVEN ROWS OF THIS SEAT. 4 by the template 'for every input the law returns true; each argument reads behind the call as it read before'; 0 by the template 'total and deterministic' (their statements: YtmkehmeoglpkeaaTotals.lean).
  GIVEN WITH THE SEED: the statements are not yours to turn. If you find one false, say at which input.
  Laid BY PROGRAM, IN A SANDBOX (cutbox-rows.mjs): the forced cells as the released guide's own fill.sh prints them over the translation 633420dc09552663… (all of the seat's roots in one cut). By AI agents, Wed Nov 11 2026. No macro, syntax, notation, axiom, sorry.
-/
import Derived.Test.YtmkehmeoglpkeaaChecked
import GoSem.Claim
import GoSem.ClaimJoined
import GoSem.ClaimMapViews
import Derived.JoinedTies
import Derived.KernelRfl
namespace Go.Proofs.Ytmkehmeoglpkeaa
/- THE CELL 'sum', in the pinned program and in every row, IS THE sha256 OF THE DUMP (.gsa) THAT YtmkehmeoglpkeaaProg.lean LOADS. Nothing in Lean hashes anything: it is a label: what it is worth is what the hold of that sum in a sandbox is worth. -/
noncomputable def Try.pinned : Pinned := { name := "ytmkehmeoglpkeaa", sum := "633420dc095526637a66102e4bdde62992282f82ad581f36ffbf538c3ad1c83f", checked := Try.checked }
namespace Rows
def none {H : Type} : Left H := { results := [], args := [] }

/-- 'thronglaw7.MapcodeBytes': WHATEVER THE INPUT: true; the input reads as it did. -/
def mapcodeBytesSpec : ChangeSpec := { name := "mapcodeBytes", fn := fun _ => fun
  | [d] => { results := [.lit (.bool true)], args := [d] }
  | _ => none }
def mapcodeBytesRow : OpenClaim := { program := "ytmkehmeoglpkeaa", sum := "633420dc095526637a66102e4bdde62992282f82ad581f36ffbf538c3ad1c83f", func := "throng/thronglaw7.MapcodeBytes", spec := "mapcodeBytes", apart := false }
def MapcodeBytesSaid : Prop := mapcodeBytesRow.holds Try.pinned (OpenSpec.ofChange mapcodeBytesSpec)

/-- ITS FALSE NEIGHBOUR: 'it returns false'. Refute it at one input. -/
def mapcodeBytesWrong : ChangeSpec := { name := "mapcodeBytes", fn := fun _ => fun
  | [d] => { results := [.lit (.bool false)], args := [d] }
  | _ => none }
def MapcodeBytesWrongFalsely : Prop := mapcodeBytesRow.holds Try.pinned (OpenSpec.ofChange mapcodeBytesWrong)

/-- 'thronglaw7.MapcodeParses': WHATEVER THE INPUT: true; the input reads as it did. -/
def mapcodeParsesSpec : ChangeSpec := { name := "mapcodeParses", fn := fun _ => fun
  | [d] => { results := [.lit (.bool true)], args := [d] }
  | _ => none }
def mapcodeParsesRow : OpenClaim := { program := "ytmkehmeoglpkeaa", sum := "633420dc095526637a66102e4bdde62992282f82ad581f36ffbf538c3ad1c83f", func := "throng/thronglaw7.MapcodeParses", spec := "mapcodeParses", apart := false }
def MapcodeParsesSaid : Prop := mapcodeParsesRow.holds Try.pinned (OpenSpec.ofChange mapcodeParsesSpec)

/-- ITS FALSE NEIGHBOUR: 'it returns false'. Refute it at one input. -/
def mapcodeParsesWrong : ChangeSpec := { name := "mapcodeParses", fn := fun _ => fun
  | [d] => { results := [.lit (.bool false)], args := [d] }
  | _ => none }
def MapcodeParsesWrongFalsely : Prop := mapcodeParsesRow.holds Try.pinned (OpenSpec.ofChange mapcodeParsesWrong)

/-- 'thronglaw7.MapcodeBack': WHATEVER THE INPUT: true; the input reads as it did. -/
def mapcodeBackSpec : ChangeSpec := { name := "mapcodeBack", fn := fun _ => fun
  | [d] => { results := [.lit (.bool true)], args := [d] }
  | _ => none }
def mapcodeBackRow : OpenClaim := { program := "ytmkehmeoglpkeaa", sum := "633420dc095526637a66102e4bdde62992282f82ad581f36ffbf538c3ad1c83f", func := "throng/thronglaw7.MapcodeBack", spec := "mapcodeBack", apart := false }
def MapcodeBackSaid : Prop := mapcodeBackRow.holds Try.pinned (OpenSpec.ofChange mapcodeBackSpec)

/-- ITS FALSE NEIGHBOUR: 'it returns false'. Refute it at one input. -/
def mapcodeBackWrong : ChangeSpec := { name := "mapcodeBack", fn := fun _ => fun
  | [d] => { results := [.lit (.bool false)], args := [d] }
  | _ => none }
def MapcodeBackWrongFalsely : Prop := mapcodeBackRow.holds Try.pinned (OpenSpec.ofChange mapcodeBackWrong)

/-- 'thronglaw7.MapcodeSizes': WHATEVER THE INPUT: true; the input reads as it did. -/
def mapcodeSizesSpec : ChangeSpec := { name := "mapcodeSizes", fn := fun _ => fun
  | [d] => { results := [.lit (.bool true)], args := [d] }
  | _ => none }
def mapcodeSizesRow : OpenClaim := { program := "ytmkehmeoglpkeaa", sum := "633420dc095526637a66102e4bdde62992282f82ad581f36ffbf538c3ad1c83f", func := "throng/thronglaw7.MapcodeSizes", spec := "mapcodeSizes", apart := false }
def MapcodeSizesSaid : Prop := mapcodeSizesRow.holds Try.pinned (OpenSpec.ofChange mapcodeSizesSpec)

/-- ITS FALSE NEIGHBOUR: 'it returns false'. Refute it at one input. -/
def mapcodeSizesWrong : ChangeSpec := { name := "mapcodeSizes", fn := fun _ => fun
  | [d] => { results := [.lit (.bool false)], args := [d] }
  | _ => none }
def MapcodeSizesWrongFalsely : Prop := mapcodeSizesRow.holds Try.pinned (OpenSpec.ofChange mapcodeSizesWrong)

/- THE SECOND FORM. 'bulk': how many values and letters a reading holds, each counted each time it is reached (what is shared counts as often as it is met; a slice's spare places count too). A statement '..UptoSaid' is the law's where the arguments, and the package variables that the reading takes, are together of bulk at most 1048576: NARROWER than '..Said'. Prove '..Said' where nothing that the law and all that it calls make is longer than what came in: it says more and counts as full. Else prove '..UptoSaid'. A law counts once. -/
mutual
def uptoBulk {H : Type} : DataW H → Nat
  | .lit (.string bytes) => bytes.length + 1
  | .lit _ => 1
  | .nil => 1
  | .ptr d => uptoBulk d + 1
  | .slice elems spare => uptoBulkAll elems + uptoBulkAll spare + 1
  | .agg parts => uptoBulkAll parts + 1
  | .iface _ d => uptoBulk d + 1
  | .map entries => uptoBulkEntries entries + 1
  | .held _ => 1
def uptoBulkAll {H : Type} : List (DataW H) → Nat
  | [] => 0
  | d :: r => uptoBulk d + uptoBulkAll r
def uptoBulkEntries {H : Type} : List (Lit × DataW H) → Nat
  | [] => 0
  | x :: r => uptoBulkEntry x + uptoBulkEntries r
def uptoBulkEntry {H : Type} : Lit × DataW H → Nat
  | (.string bytes, d) => bytes.length + uptoBulk d + 1
  | (_, d) => uptoBulk d + 1
 end
def uptoSmall : (H : Type) → List (DataW H) → Bool := fun _ ds => decide (uptoBulkAll ds ≤ 1048576)
def OpenSpec.upto (s : _root_.Go.ChangeSpec) : _root_.Go.OpenSpec := { _root_.Go.OpenSpec.ofChange s with cond := some uptoSmall }

/-- 'thronglaw7.MapcodeBytes', WHERE WHAT IT READS IS OF BULK AT MOST 1048576: true; the input reads as it did. -/
def mapcodeBytesUptoRow : OpenClaim := { program := "ytmkehmeoglpkeaa", sum := "633420dc095526637a66102e4bdde62992282f82ad581f36ffbf538c3ad1c83f", func := "throng/thronglaw7.MapcodeBytes", spec := "mapcodeBytes", apart := false, narrowed := true }
def MapcodeBytesUptoSaid : Prop := mapcodeBytesUptoRow.holds Try.pinned (OpenSpec.upto mapcodeBytesSpec)

/-- 'thronglaw7.MapcodeParses', WHERE WHAT IT READS IS OF BULK AT MOST 1048576: true; the input reads as it did. -/
def mapcodeParsesUptoRow : OpenClaim := { program := "ytmkehmeoglpkeaa", sum := "633420dc095526637a66102e4bdde62992282f82ad581f36ffbf538c3ad1c83f", func := "throng/thronglaw7.MapcodeParses", spec := "mapcodeParses", apart := false, narrowed := true }
def MapcodeParsesUptoSaid : Prop := mapcodeParsesUptoRow.holds Try.pinned (OpenSpec.upto mapcodeParsesSpec)

/-- 'thronglaw7.MapcodeBack', WHERE WHAT IT READS IS OF BULK AT MOST 1048576: true; the input reads as it did. -/
def mapcodeBackUptoRow : OpenClaim := { program := "ytmkehmeoglpkeaa", sum := "633420dc095526637a66102e4bdde62992282f82ad581f36ffbf538c3ad1c83f", func := "throng/thronglaw7.MapcodeBack", spec := "mapcodeBack", apart := false, narrowed := true }
def MapcodeBackUptoSaid : Prop := mapcodeBackUptoRow.holds Try.pinned (OpenSpec.upto mapcodeBackSpec)

/-- 'thronglaw7.MapcodeSizes', WHERE WHAT IT READS IS OF BULK AT MOST 1048576: true; the input reads as it did. -/
def mapcodeSizesUptoRow : OpenClaim := { program := "ytmkehmeoglpkeaa", sum := "633420dc095526637a66102e4bdde62992282f82ad581f36ffbf538c3ad1c83f", func := "throng/thronglaw7.MapcodeSizes", spec := "mapcodeSizes", apart := false, narrowed := true }
def MapcodeSizesUptoSaid : Prop := mapcodeSizesUptoRow.holds Try.pinned (OpenSpec.upto mapcodeSizesSpec)

end Rows
end Go.Proofs.Ytmkehmeoglpkeaa
