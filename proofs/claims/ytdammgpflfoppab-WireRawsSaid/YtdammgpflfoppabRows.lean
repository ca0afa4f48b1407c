/-
  No cell of these rows narrows 'for every input' (looked for: loops, veiled, ifaces, maps, wideKeys, modest, calm, conditions, laid).
  DERIVED. THE GIVEN ROWS OF THIS SEAT. 12 by the template 'for every input the law returns true; each argument reads behind the call as it read before'; 0 by the template 'total and deterministic' (their statements: YtdammgpflfoppabTotals.lean).
  GIVEN WITH THE SEED: the statements are not yours to turn. If you find one false, say at which input.
  Laid BY PROGRAM, IN A SANDBOX (cutbox-rows.mjs): the forced cells as the released guide's own fill.sh prints them over the translation 163f07449700d713… (all of the seat's roots in one cut). By AI agents, Wed Nov 11 2026. No macro, syntax, notation, axiom, sorry.
-/
import Derived.Test.YtdammgpflfoppabChecked
import GoSem.Claim
import GoSem.ClaimJoined
import GoSem.ClaimMapViews
import Derived.JoinedTies
import Derived.KernelRfl
namespace Go.Proofs.Ytdammgpflfoppab
/- THE CELL 'sum', in the pinned program and in every row, IS THE sha256 OF THE DUMP (.gsa) THAT YtdammgpflfoppabProg.lean LOADS. Nothing in Lean hashes anything: it is a label: what it is worth is what the hold of that sum in a sandbox is worth. -/
noncomputable def Try.pinned : Pinned := { name := "ytdammgpflfoppab", sum := "163f07449700d713c1762a72fd262c721b493d1c836970c6c3060ce180beb619", checked := Try.checked }
namespace Rows
def none {H : Type} : Left H := { results := [], args := [] }

/-- 'thronglaw2.VecClamps': WHATEVER THE INPUT: true; the input reads as it did. -/
def vecClampsSpec : ChangeSpec := { name := "vecClamps", fn := fun _ => fun
  | [d] => { results := [.lit (.bool true)], args := [d] }
  | _ => none }
def vecClampsRow : OpenClaim := { program := "ytdammgpflfoppab", sum := "163f07449700d713c1762a72fd262c721b493d1c836970c6c3060ce180beb619", func := "throng/thronglaw2.VecClamps", spec := "vecClamps", apart := false }
def VecClampsSaid : Prop := vecClampsRow.holds Try.pinned (OpenSpec.ofChange vecClampsSpec)

/-- ITS FALSE NEIGHBOUR: 'it returns false'. Refute it at one input. -/
def vecClampsWrong : ChangeSpec := { name := "vecClamps", fn := fun _ => fun
  | [d] => { results := [.lit (.bool false)], args := [d] }
  | _ => none }
def VecClampsWrongFalsely : Prop := vecClampsRow.holds Try.pinned (OpenSpec.ofChange vecClampsWrong)

/-- 'thronglaw2.VecLess': WHATEVER THE INPUT: true; the input reads as it did. -/
def vecLessSpec : ChangeSpec := { name := "vecLess", fn := fun _ => fun
  | [d] => { results := [.lit (.bool true)], args := [d] }
  | _ => none }
def vecLessRow : OpenClaim := { program := "ytdammgpflfoppab", sum := "163f07449700d713c1762a72fd262c721b493d1c836970c6c3060ce180beb619", func := "throng/thronglaw2.VecLess", spec := "vecLess", apart := false }
def VecLessSaid : Prop := vecLessRow.holds Try.pinned (OpenSpec.ofChange vecLessSpec)

/-- ITS FALSE NEIGHBOUR: 'it returns false'. Refute it at one input. -/
def vecLessWrong : ChangeSpec := { name := "vecLess", fn := fun _ => fun
  | [d] => { results := [.lit (.bool false)], args := [d] }
  | _ => none }
def VecLessWrongFalsely : Prop := vecLessRow.holds Try.pinned (OpenSpec.ofChange vecLessWrong)

/-- 'thronglaw2.VecShort': WHATEVER THE INPUT: true; the input reads as it did. -/
def vecShortSpec : ChangeSpec := { name := "vecShort", fn := fun _ => fun
  | [d] => { results := [.lit (.bool true)], args := [d] }
  | _ => none }
def vecShortRow : OpenClaim := { program := "ytdammgpflfoppab", sum := "163f07449700d713c1762a72fd262c721b493d1c836970c6c3060ce180beb619", func := "throng/thronglaw2.VecShort", spec := "vecShort", apart := false }
def VecShortSaid : Prop := vecShortRow.holds Try.pinned (OpenSpec.ofChange vecShortSpec)

/-- ITS FALSE NEIGHBOUR: 'it returns false'. Refute it at one input. -/
def vecShortWrong : ChangeSpec := { name := "vecShort", fn := fun _ => fun
  | [d] => { results := [.lit (.bool false)], args := [d] }
  | _ => none }
def VecShortWrongFalsely : Prop := vecShortRow.holds Try.pinned (OpenSpec.ofChange vecShortWrong)

/-- 'thronglaw2.VecSquares': WHATEVER THE INPUT: true; the input reads as it did. -/
def vecSquaresSpec : ChangeSpec := { name := "vecSquares", fn := fun _ => fun
  | [d] => { results := [.lit (.bool true)], args := [d] }
  | _ => none }
def vecSquaresRow : OpenClaim := { program := "ytdammgpflfoppab", sum := "163f07449700d713c1762a72fd262c721b493d1c836970c6c3060ce180beb619", func := "throng/thronglaw2.VecSquares", spec := "vecSquares", apart := false }
def VecSquaresSaid : Prop := vecSquaresRow.holds Try.pinned (OpenSpec.ofChange vecSquaresSpec)

/-- ITS FALSE NEIGHBOUR: 'it returns false'. Refute it at one input. -/
def vecSquaresWrong : ChangeSpec := { name := "vecSquares", fn := fun _ => fun
  | [d] => { results := [.lit (.bool false)], args := [d] }
  | _ => none }
def VecSquaresWrongFalsely : Prop := vecSquaresRow.holds Try.pinned (OpenSpec.ofChange vecSquaresWrong)

/-- 'thronglaw2.VecTurns': WHATEVER THE INPUT: true; the input reads as it did. -/
def vecTurnsSpec : ChangeSpec := { name := "vecTurns", fn := fun _ => fun
  | [d] => { results := [.lit (.bool true)], args := [d] }
  | _ => none }
def vecTurnsRow : OpenClaim := { program := "ytdammgpflfoppab", sum := "163f07449700d713c1762a72fd262c721b493d1c836970c6c3060ce180beb619", func := "throng/thronglaw2.VecTurns", spec := "vecTurns", apart := false }
def VecTurnsSaid : Prop := vecTurnsRow.holds Try.pinned (OpenSpec.ofChange vecTurnsSpec)

/-- ITS FALSE NEIGHBOUR: 'it returns false'. Refute it at one input. -/
def vecTurnsWrong : ChangeSpec := { name := "vecTurns", fn := fun _ => fun
  | [d] => { results := [.lit (.bool false)], args := [d] }
  | _ => none }
def VecTurnsWrongFalsely : Prop := vecTurnsRow.holds Try.pinned (OpenSpec.ofChange vecTurnsWrong)

/-- 'thronglaw2.VecTriangles': WHATEVER THE INPUT: true; the input reads as it did. -/
def vecTrianglesSpec : ChangeSpec := { name := "vecTriangles", fn := fun _ => fun
  | [d] => { results := [.lit (.bool true)], args := [d] }
  | _ => none }
def vecTrianglesRow : OpenClaim := { program := "ytdammgpflfoppab", sum := "163f07449700d713c1762a72fd262c721b493d1c836970c6c3060ce180beb619", func := "throng/thronglaw2.VecTriangles", spec := "vecTriangles", apart := false }
def VecTrianglesSaid : Prop := vecTrianglesRow.holds Try.pinned (OpenSpec.ofChange vecTrianglesSpec)

/-- ITS FALSE NEIGHBOUR: 'it returns false'. Refute it at one input. -/
def vecTrianglesWrong : ChangeSpec := { name := "vecTriangles", fn := fun _ => fun
  | [d] => { results := [.lit (.bool false)], args := [d] }
  | _ => none }
def VecTrianglesWrongFalsely : Prop := vecTrianglesRow.holds Try.pinned (OpenSpec.ofChange vecTrianglesWrong)

/-- 'thronglaw3.FnvSums': WHATEVER THE INPUT: true; the input reads as it did. -/
def fnvSumsSpec : ChangeSpec := { name := "fnvSums", fn := fun _ => fun
  | [d] => { results := [.lit (.bool true)], args := [d] }
  | _ => none }
def fnvSumsRow : OpenClaim := { program := "ytdammgpflfoppab", sum := "163f07449700d713c1762a72fd262c721b493d1c836970c6c3060ce180beb619", func := "throng/thronglaw3.FnvSums", spec := "fnvSums", apart := false }
def FnvSumsSaid : Prop := fnvSumsRow.holds Try.pinned (OpenSpec.ofChange fnvSumsSpec)

/-- ITS FALSE NEIGHBOUR: 'it returns false'. Refute it at one input. -/
def fnvSumsWrong : ChangeSpec := { name := "fnvSums", fn := fun _ => fun
  | [d] => { results := [.lit (.bool false)], args := [d] }
  | _ => none }
def FnvSumsWrongFalsely : Prop := fnvSumsRow.holds Try.pinned (OpenSpec.ofChange fnvSumsWrong)

/-- 'thronglaw3.FnvParts': WHATEVER THE INPUT: true; the input reads as it did. -/
def fnvPartsSpec : ChangeSpec := { name := "fnvParts", fn := fun _ => fun
  | [d] => { results := [.lit (.bool true)], args := [d] }
  | _ => none }
def fnvPartsRow : OpenClaim := { program := "ytdammgpflfoppab", sum := "163f07449700d713c1762a72fd262c721b493d1c836970c6c3060ce180beb619", func := "throng/thronglaw3.FnvParts", spec := "fnvParts", apart := false }
def FnvPartsSaid : Prop := fnvPartsRow.holds Try.pinned (OpenSpec.ofChange fnvPartsSpec)

/-- ITS FALSE NEIGHBOUR: 'it returns false'. Refute it at one input. -/
def fnvPartsWrong : ChangeSpec := { name := "fnvParts", fn := fun _ => fun
  | [d] => { results := [.lit (.bool false)], args := [d] }
  | _ => none }
def FnvPartsWrongFalsely : Prop := fnvPartsRow.holds Try.pinned (OpenSpec.ofChange fnvPartsWrong)

/-- 'thronglaw3.FnvOnes': WHATEVER THE INPUT: true; the input reads as it did. -/
def fnvOnesSpec : ChangeSpec := { name := "fnvOnes", fn := fun _ => fun
  | [d] => { results := [.lit (.bool true)], args := [d] }
  | _ => none }
def fnvOnesRow : OpenClaim := { program := "ytdammgpflfoppab", sum := "163f07449700d713c1762a72fd262c721b493d1c836970c6c3060ce180beb619", func := "throng/thronglaw3.FnvOnes", spec := "fnvOnes", apart := false }
def FnvOnesSaid : Prop := fnvOnesRow.holds Try.pinned (OpenSpec.ofChange fnvOnesSpec)

/-- ITS FALSE NEIGHBOUR: 'it returns false'. Refute it at one input. -/
def fnvOnesWrong : ChangeSpec := { name := "fnvOnes", fn := fun _ => fun
  | [d] => { results := [.lit (.bool false)], args := [d] }
  | _ => none }
def FnvOnesWrongFalsely : Prop := fnvOnesRow.holds Try.pinned (OpenSpec.ofChange fnvOnesWrong)

/-- 'thronglaw4.WireNums': WHATEVER THE INPUT: true; the input reads as it did. -/
def wireNumsSpec : ChangeSpec := { name := "wireNums", fn := fun _ => fun
  | [d] => { results := [.lit (.bool true)], args := [d] }
  | _ => none }
def wireNumsRow : OpenClaim := { program := "ytdammgpflfoppab", sum := "163f07449700d713c1762a72fd262c721b493d1c836970c6c3060ce180beb619", func := "throng/thronglaw4.WireNums", spec := "wireNums", apart := false }
def WireNumsSaid : Prop := wireNumsRow.holds Try.pinned (OpenSpec.ofChange wireNumsSpec)

/-- ITS FALSE NEIGHBOUR: 'it returns false'. Refute it at one input. -/
def wireNumsWrong : ChangeSpec := { name := "wireNums", fn := fun _ => fun
  | [d] => { results := [.lit (.bool false)], args := [d] }
  | _ => none }
def WireNumsWrongFalsely : Prop := wireNumsRow.holds Try.pinned (OpenSpec.ofChange wireNumsWrong)

/-- 'thronglaw4.WireReads': WHATEVER THE INPUT: true; the input reads as it did. -/
def wireReadsSpec : ChangeSpec := { name := "wireReads", fn := fun _ => fun
  | [d] => { results := [.lit (.bool true)], args := [d] }
  | _ => none }
def wireReadsRow : OpenClaim := { program := "ytdammgpflfoppab", sum := "163f07449700d713c1762a72fd262c721b493d1c836970c6c3060ce180beb619", func := "throng/thronglaw4.WireReads", spec := "wireReads", apart := false }
def WireReadsSaid : Prop := wireReadsRow.holds Try.pinned (OpenSpec.ofChange wireReadsSpec)

/-- ITS FALSE NEIGHBOUR: 'it returns false'. Refute it at one input. -/
def wireReadsWrong : ChangeSpec := { name := "wireReads", fn := fun _ => fun
  | [d] => { results := [.lit (.bool false)], args := [d] }
  | _ => none }
def WireReadsWrongFalsely : Prop := wireReadsRow.holds Try.pinned (OpenSpec.ofChange wireReadsWrong)

/-- 'thronglaw4.WireRaws': WHATEVER THE INPUT: true; the input reads as it did. -/
def wireRawsSpec : ChangeSpec := { name := "wireRaws", fn := fun _ => fun
  | [d] => { results := [.lit (.bool true)], args := [d] }
  | _ => none }
def wireRawsRow : OpenClaim := { program := "ytdammgpflfoppab", sum := "163f07449700d713c1762a72fd262c721b493d1c836970c6c3060ce180beb619", func := "throng/thronglaw4.WireRaws", spec := "wireRaws", apart := false }
def WireRawsSaid : Prop := wireRawsRow.holds Try.pinned (OpenSpec.ofChange wireRawsSpec)

/-- ITS FALSE NEIGHBOUR: 'it returns false'. Refute it at one input. -/
def wireRawsWrong : ChangeSpec := { name := "wireRaws", fn := fun _ => fun
  | [d] => { results := [.lit (.bool false)], args := [d] }
  | _ => none }
def WireRawsWrongFalsely : Prop := wireRawsRow.holds Try.pinned (OpenSpec.ofChange wireRawsWrong)

/- THE SECOND FORM. 'bulk': how many values and letters a reading holds, each counted each time it is reached (what is shared counts as often as it is met; a slice's spare places count too). A statement '..UptoSaid' is the law's where the arguments, and the package variables that the reading takes, are together of bulk at most 1048576: NARROWER than '..Said'. Prove '..Said' where nothing that the law and all that it calls make is longer than what came in: it says more and counts as full. Else prove '..UptoSaid'. A law counts once. -/
mutual
def uptoBulk {H : Type} : DataW H → Nat
  | .lit (.string bytes) => bytes.length + 1
  | .lit _ => 1
  | .nil => 1
  | .ptr d => uptoBulk d + 1
  | .slice elems spare => uptoBulkAll elems + uptoBulkAll spare + 1
  | .agg parts => uptoBulkAll parts + 1
  | .iface _ d => uptoBulk d + 1
  | .map entries => uptoBulkEntries entries + 1
  | .held _ => 1
def uptoBulkAll {H : Type} : List (DataW H) → Nat
  | [] => 0
  | d :: r => uptoBulk d + uptoBulkAll r
def uptoBulkEntries {H : Type} : List (Lit × DataW H) → Nat
  | [] => 0
  | x :: r => uptoBulkEntry x + uptoBulkEntries r
def uptoBulkEntry {H : Type} : Lit × DataW H → Nat
  | (.string bytes, d) => bytes.length + uptoBulk d + 1
  | (_, d) => uptoBulk d + 1
 end
def uptoSmall : (H : Type) → List (DataW H) → Bool := fun _ ds => decide (uptoBulkAll ds ≤ 1048576)
def OpenSpec.upto (s : _root_.Go.ChangeSpec) : _root_.Go.OpenSpec := { _root_.Go.OpenSpec.ofChange s with cond := some uptoSmall }

/-- 'thronglaw2.VecClamps', WHERE WHAT IT READS IS OF BULK AT MOST 1048576: true; the input reads as it did. -/
def vecClampsUptoRow : OpenClaim := { program := "ytdammgpflfoppab", sum := "163f07449700d713c1762a72fd262c721b493d1c836970c6c3060ce180beb619", func := "throng/thronglaw2.VecClamps", spec := "vecClamps", apart := false, narrowed := true }
def VecClampsUptoSaid : Prop := vecClampsUptoRow.holds Try.pinned (OpenSpec.upto vecClampsSpec)

/-- 'thronglaw2.VecLess', WHERE WHAT IT READS IS OF BULK AT MOST 1048576: true; the input reads as it did. -/
def vecLessUptoRow : OpenClaim := { program := "ytdammgpflfoppab", sum := "163f07449700d713c1762a72fd262c721b493d1c836970c6c3060ce180beb619", func := "throng/thronglaw2.VecLess", spec := "vecLess", apart := false, narrowed := true }
def VecLessUptoSaid : Prop := vecLessUptoRow.holds Try.pinned (OpenSpec.upto vecLessSpec)

/-- 'thronglaw2.VecShort', WHERE WHAT IT READS IS OF BULK AT MOST 1048576: true; the input reads as it did. -/
def vecShortUptoRow : OpenClaim := { program := "ytdammgpflfoppab", sum := "163f07449700d713c1762a72fd262c721b493d1c836970c6c3060ce180beb619", func := "throng/thronglaw2.VecShort", spec := "vecShort", apart := false, narrowed := true }
def VecShortUptoSaid : Prop := vecShortUptoRow.holds Try.pinned (OpenSpec.upto vecShortSpec)

/-- 'thronglaw2.VecSquares', WHERE WHAT IT READS IS OF BULK AT MOST 1048576: true; the input reads as it did. -/
def vecSquaresUptoRow : OpenClaim := { program := "ytdammgpflfoppab", sum := "163f07449700d713c1762a72fd262c721b493d1c836970c6c3060ce180beb619", func := "throng/thronglaw2.VecSquares", spec := "vecSquares", apart := false, narrowed := true }
def VecSquaresUptoSaid : Prop := vecSquaresUptoRow.holds Try.pinned (OpenSpec.upto vecSquaresSpec)

/-- 'thronglaw2.VecTurns', WHERE WHAT IT READS IS OF BULK AT MOST 1048576: true; the input reads as it did. -/
def vecTurnsUptoRow : OpenClaim := { program := "ytdammgpflfoppab", sum := "163f07449700d713c1762a72fd262c721b493d1c836970c6c3060ce180beb619", func := "throng/thronglaw2.VecTurns", spec := "vecTurns", apart := false, narrowed := true }
def VecTurnsUptoSaid : Prop := vecTurnsUptoRow.holds Try.pinned (OpenSpec.upto vecTurnsSpec)

/-- 'thronglaw2.VecTriangles', WHERE WHAT IT READS IS OF BULK AT MOST 1048576: true; the input reads as it did. -/
def vecTrianglesUptoRow : OpenClaim := { program := "ytdammgpflfoppab", sum := "163f07449700d713c1762a72fd262c721b493d1c836970c6c3060ce180beb619", func := "throng/thronglaw2.VecTriangles", spec := "vecTriangles", apart := false, narrowed := true }
def VecTrianglesUptoSaid : Prop := vecTrianglesUptoRow.holds Try.pinned (OpenSpec.upto vecTrianglesSpec)

/-- 'thronglaw3.FnvSums', WHERE WHAT IT READS IS OF BULK AT MOST 1048576: true; the input reads as it did. -/
def fnvSumsUptoRow : OpenClaim := { program := "ytdammgpflfoppab", sum := "163f07449700d713c1762a72fd262c721b493d1c836970c6c3060ce180beb619", func := "throng/thronglaw3.FnvSums", spec := "fnvSums", apart := false, narrowed := true }
def FnvSumsUptoSaid : Prop := fnvSumsUptoRow.holds Try.pinned (OpenSpec.upto fnvSumsSpec)

/-- 'thronglaw3.FnvParts', WHERE WHAT IT READS IS OF BULK AT MOST 1048576: true; the input reads as it did. -/
def fnvPartsUptoRow : OpenClaim := { program := "ytdammgpflfoppab", sum := "163f07449700d713c1762a72fd262c721b493d1c836970c6c3060ce180beb619", func := "throng/thronglaw3.FnvParts", spec := "fnvParts", apart := false, narrowed := true }
def FnvPartsUptoSaid : Prop := fnvPartsUptoRow.holds Try.pinned (OpenSpec.upto fnvPartsSpec)

/-- 'thronglaw3.FnvOnes', WHERE WHAT IT READS IS OF BULK AT MOST 1048576: true; the input reads as it did. -/
def fnvOnesUptoRow : OpenClaim := { program := "ytdammgpflfoppab", sum := "163f07449700d713c1762a72fd262c721b493d1c836970c6c3060ce180beb619", func := "throng/thronglaw3.FnvOnes", spec := "fnvOnes", apart := false, narrowed := true }
def FnvOnesUptoSaid : Prop := fnvOnesUptoRow.holds Try.pinned (OpenSpec.upto fnvOnesSpec)

/-- 'thronglaw4.WireNums', WHERE WHAT IT READS IS OF BULK AT MOST 1048576: true; the input reads as it did. -/
def wireNumsUptoRow : OpenClaim := { program := "ytdammgpflfoppab", sum := "163f07449700d713c1762a72fd262c721b493d1c836970c6c3060ce180beb619", func := "throng/thronglaw4.WireNums", spec := "wireNums", apart := false, narrowed := true }
def WireNumsUptoSaid : Prop := wireNumsUptoRow.holds Try.pinned (OpenSpec.upto wireNumsSpec)

/-- 'thronglaw4.WireReads', WHERE WHAT IT READS IS OF BULK AT MOST 1048576: true; the input reads as it did. -/
def wireReadsUptoRow : OpenClaim := { program := "ytdammgpflfoppab", sum := "163f07449700d713c1762a72fd262c721b493d1c836970c6c3060ce180beb619", func := "throng/thronglaw4.WireReads", spec := "wireReads", apart := false, narrowed := true }
def WireReadsUptoSaid : Prop := wireReadsUptoRow.holds Try.pinned (OpenSpec.upto wireReadsSpec)

/-- 'thronglaw4.WireRaws', WHERE WHAT IT READS IS OF BULK AT MOST 1048576: true; the input reads as it did. -/
def wireRawsUptoRow : OpenClaim := { program := "ytdammgpflfoppab", sum := "163f07449700d713c1762a72fd262c721b493d1c836970c6c3060ce180beb619", func := "throng/thronglaw4.WireRaws", spec := "wireRaws", apart := false, narrowed := true }
def WireRawsUptoSaid : Prop := wireRawsUptoRow.holds Try.pinned (OpenSpec.upto wireRawsSpec)

end Rows
end Go.Proofs.Ytdammgpflfoppab
