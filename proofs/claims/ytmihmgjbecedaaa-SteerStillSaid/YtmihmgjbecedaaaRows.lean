/-
  No cell of these rows narrows 'for every input' (looked for: loops, veiled, ifaces, maps, wideKeys, modest, calm, conditions, laid).
  DERIVED. THE GIVEN ROWS OF THIS SEAT. 5 by the template 'for every input the law returns true; each argument reads behind the call as it read before'; 0 by the template 'total and deterministic' (their statements: YtmihmgjbecedaaaTotals.lean).
  GIVEN WITH THE SEED: the statements are not yours to turn. If you find one false, say at which input.
  Laid BY PROGRAM, IN A SANDBOX (cutbox-rows.mjs): the forced cells as the released guide's own fill.sh prints them over the translation 5ee6e58860632b1a… (all of the seat's roots in one cut). By AI agents, Wed Nov 11 2026. No macro, syntax, notation, axiom, sorry.
-/
import Derived.Test.YtmihmgjbecedaaaChecked
import GoSem.Claim
import GoSem.ClaimJoined
import GoSem.ClaimMapViews
import Derived.JoinedTies
import Derived.KernelRfl
namespace Go.Proofs.Ytmihmgjbecedaaa
/- THE CELL 'sum', in the pinned program and in every row, IS THE sha256 OF THE DUMP (.gsa) THAT YtmihmgjbecedaaaProg.lean LOADS. Nothing in Lean hashes anything: it is a label: what it is worth is what the hold of that sum in a sandbox is worth. -/
noncomputable def Try.pinned : Pinned := { name := "ytmihmgjbecedaaa", sum := "5ee6e58860632b1a86337b9d8202177c6347831e75016eae8639240122d93ab1", checked := Try.checked }
namespace Rows
def none {H : Type} : Left H := { results := [], args := [] }

/-- 'thronglaw19.SteerTowards': WHATEVER THE INPUT: true; the input reads as it did. -/
def steerTowardsSpec : ChangeSpec := { name := "steerTowards", fn := fun _ => fun
  | [d] => { results := [.lit (.bool true)], args := [d] }
  | _ => none }
def steerTowardsRow : OpenClaim := { program := "ytmihmgjbecedaaa", sum := "5ee6e58860632b1a86337b9d8202177c6347831e75016eae8639240122d93ab1", func := "throng/thronglaw19.SteerTowards", spec := "steerTowards", apart := false }
def SteerTowardsSaid : Prop := steerTowardsRow.holds Try.pinned (OpenSpec.ofChange steerTowardsSpec)

/-- ITS FALSE NEIGHBOUR: 'it returns false'. Refute it at one input. -/
def steerTowardsWrong : ChangeSpec := { name := "steerTowards", fn := fun _ => fun
  | [d] => { results := [.lit (.bool false)], args := [d] }
  | _ => none }
def SteerTowardsWrongFalsely : Prop := steerTowardsRow.holds Try.pinned (OpenSpec.ofChange steerTowardsWrong)

/-- 'thronglaw19.SteerAparts': WHATEVER THE INPUT: true; the input reads as it did. -/
def steerApartsSpec : ChangeSpec := { name := "steerAparts", fn := fun _ => fun
  | [d] => { results := [.lit (.bool true)], args := [d] }
  | _ => none }
def steerApartsRow : OpenClaim := { program := "ytmihmgjbecedaaa", sum := "5ee6e58860632b1a86337b9d8202177c6347831e75016eae8639240122d93ab1", func := "throng/thronglaw19.SteerAparts", spec := "steerAparts", apart := false }
def SteerApartsSaid : Prop := steerApartsRow.holds Try.pinned (OpenSpec.ofChange steerApartsSpec)

/-- ITS FALSE NEIGHBOUR: 'it returns false'. Refute it at one input. -/
def steerApartsWrong : ChangeSpec := { name := "steerAparts", fn := fun _ => fun
  | [d] => { results := [.lit (.bool false)], args := [d] }
  | _ => none }
def SteerApartsWrongFalsely : Prop := steerApartsRow.holds Try.pinned (OpenSpec.ofChange steerApartsWrong)

/-- 'thronglaw19.SteerCoheres': WHATEVER THE INPUT: true; the input reads as it did. -/
def steerCoheresSpec : ChangeSpec := { name := "steerCoheres", fn := fun _ => fun
  | [d] => { results := [.lit (.bool true)], args := [d] }
  | _ => none }
def steerCoheresRow : OpenClaim := { program := "ytmihmgjbecedaaa", sum := "5ee6e58860632b1a86337b9d8202177c6347831e75016eae8639240122d93ab1", func := "throng/thronglaw19.SteerCoheres", spec := "steerCoheres", apart := false }
def SteerCoheresSaid : Prop := steerCoheresRow.holds Try.pinned (OpenSpec.ofChange steerCoheresSpec)

/-- ITS FALSE NEIGHBOUR: 'it returns false'. Refute it at one input. -/
def steerCoheresWrong : ChangeSpec := { name := "steerCoheres", fn := fun _ => fun
  | [d] => { results := [.lit (.bool false)], args := [d] }
  | _ => none }
def SteerCoheresWrongFalsely : Prop := steerCoheresRow.holds Try.pinned (OpenSpec.ofChange steerCoheresWrong)

/-- 'thronglaw19.SteerShort': WHATEVER THE INPUT: true; the input reads as it did. -/
def steerShortSpec : ChangeSpec := { name := "steerShort", fn := fun _ => fun
  | [d] => { results := [.lit (.bool true)], args := [d] }
  | _ => none }
def steerShortRow : OpenClaim := { program := "ytmihmgjbecedaaa", sum := "5ee6e58860632b1a86337b9d8202177c6347831e75016eae8639240122d93ab1", func := "throng/thronglaw19.SteerShort", spec := "steerShort", apart := false }
def SteerShortSaid : Prop := steerShortRow.holds Try.pinned (OpenSpec.ofChange steerShortSpec)

/-- ITS FALSE NEIGHBOUR: 'it returns false'. Refute it at one input. -/
def steerShortWrong : ChangeSpec := { name := "steerShort", fn := fun _ => fun
  | [d] => { results := [.lit (.bool false)], args := [d] }
  | _ => none }
def SteerShortWrongFalsely : Prop := steerShortRow.holds Try.pinned (OpenSpec.ofChange steerShortWrong)

/-- 'thronglaw19.SteerStill': WHATEVER THE INPUT: true; the input reads as it did. -/
def steerStillSpec : ChangeSpec := { name := "steerStill", fn := fun _ => fun
  | [d] => { results := [.lit (.bool true)], args := [d] }
  | _ => none }
def steerStillRow : OpenClaim := { program := "ytmihmgjbecedaaa", sum := "5ee6e58860632b1a86337b9d8202177c6347831e75016eae8639240122d93ab1", func := "throng/thronglaw19.SteerStill", spec := "steerStill", apart := false }
def SteerStillSaid : Prop := steerStillRow.holds Try.pinned (OpenSpec.ofChange steerStillSpec)

/-- ITS FALSE NEIGHBOUR: 'it returns false'. Refute it at one input. -/
def steerStillWrong : ChangeSpec := { name := "steerStill", fn := fun _ => fun
  | [d] => { results := [.lit (.bool false)], args := [d] }
  | _ => none }
def SteerStillWrongFalsely : Prop := steerStillRow.holds Try.pinned (OpenSpec.ofChange steerStillWrong)

/- THE SECOND FORM. 'bulk': how many values and letters a reading holds, each counted each time it is reached (what is shared counts as often as it is met; a slice's spare places count too). A statement '..UptoSaid' is the law's where the arguments, and the package variables that the reading takes, are together of bulk at most 1048576: NARROWER than '..Said'. Prove '..Said' where nothing that the law and all that it calls make is longer than what came in: it says more and counts as full. Else prove '..UptoSaid'. A law counts once. -/
mutual
def uptoBulk {H : Type} : DataW H → Nat
  | .lit (.string bytes) => bytes.length + 1
  | .lit _ => 1
  | .nil => 1
  | .ptr d => uptoBulk d + 1
  | .slice elems spare => uptoBulkAll elems + uptoBulkAll spare + 1
  | .agg parts => uptoBulkAll parts + 1
  | .iface _ d => uptoBulk d + 1
  | .map entries => uptoBulkEntries entries + 1
  | .held _ => 1
def uptoBulkAll {H : Type} : List (DataW H) → Nat
  | [] => 0
  | d :: r => uptoBulk d + uptoBulkAll r
def uptoBulkEntries {H : Type} : List (Lit × DataW H) → Nat
  | [] => 0
  | x :: r => uptoBulkEntry x + uptoBulkEntries r
def uptoBulkEntry {H : Type} : Lit × DataW H → Nat
  | (.string bytes, d) => bytes.length + uptoBulk d + 1
  | (_, d) => uptoBulk d + 1
 end
def uptoSmall : (H : Type) → List (DataW H) → Bool := fun _ ds => decide (uptoBulkAll ds ≤ 1048576)
def OpenSpec.upto (s : _root_.Go.ChangeSpec) : _root_.Go.OpenSpec := { _root_.Go.OpenSpec.ofChange s with cond := some uptoSmall }

/-- 'thronglaw19.SteerTowards', WHERE WHAT IT READS IS OF BULK AT MOST 1048576: true; the input reads as it did. -/
def steerTowardsUptoRow : OpenClaim := { program := "ytmihmgjbecedaaa", sum := "5ee6e58860632b1a86337b9d8202177c6347831e75016eae8639240122d93ab1", func := "throng/thronglaw19.SteerTowards", spec := "steerTowards", apart := false, narrowed := true }
def SteerTowardsUptoSaid : Prop := steerTowardsUptoRow.holds Try.pinned (OpenSpec.upto steerTowardsSpec)

/-- 'thronglaw19.SteerAparts', WHERE WHAT IT READS IS OF BULK AT MOST 1048576: true; the input reads as it did. -/
def steerApartsUptoRow : OpenClaim := { program := "ytmihmgjbecedaaa", sum := "5ee6e58860632b1a86337b9d8202177c6347831e75016eae8639240122d93ab1", func := "throng/thronglaw19.SteerAparts", spec := "steerAparts", apart := false, narrowed := true }
def SteerApartsUptoSaid : Prop := steerApartsUptoRow.holds Try.pinned (OpenSpec.upto steerApartsSpec)

/-- 'thronglaw19.SteerCoheres', WHERE WHAT IT READS IS OF BULK AT MOST 1048576: true; the input reads as it did. -/
def steerCoheresUptoRow : OpenClaim := { program := "ytmihmgjbecedaaa", sum := "5ee6e58860632b1a86337b9d8202177c6347831e75016eae8639240122d93ab1", func := "throng/thronglaw19.SteerCoheres", spec := "steerCoheres", apart := false, narrowed := true }
def SteerCoheresUptoSaid : Prop := steerCoheresUptoRow.holds Try.pinned (OpenSpec.upto steerCoheresSpec)

/-- 'thronglaw19.SteerShort', WHERE WHAT IT READS IS OF BULK AT MOST 1048576: true; the input reads as it did. -/
def steerShortUptoRow : OpenClaim := { program := "ytmihmgjbecedaaa", sum := "5ee6e58860632b1a86337b9d8202177c6347831e75016eae8639240122d93ab1", func := "throng/thronglaw19.SteerShort", spec := "steerShort", apart := false, narrowed := true }
def SteerShortUptoSaid : Prop := steerShortUptoRow.holds Try.pinned (OpenSpec.upto steerShortSpec)

/-- 'thronglaw19.SteerStill', WHERE WHAT IT READS IS OF BULK AT MOST 1048576: true; the input reads as it did. -/
def steerStillUptoRow : OpenClaim := { program := "ytmihmgjbecedaaa", sum := "5ee6e58860632b1a86337b9d8202177c6347831e75016eae8639240122d93ab1", func := "throng/thronglaw19.SteerStill", spec := "steerStill", apart := false, narrowed := true }
def SteerStillUptoSaid : Prop := steerStillUptoRow.holds Try.pinned (OpenSpec.upto steerStillSpec)

end Rows
end Go.Proofs.Ytmihmgjbecedaaa
