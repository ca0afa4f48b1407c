/-
  NARROWER THAN 'FOR EVERY INPUT', by the rows' own cells (each row's printed sentence says how): KindTables: laid · KindFits: laid · KindOrders: laid.
  DERIVED. THE GIVEN ROWS OF THIS SEAT. 3 by the template 'for every input the law returns true; each argument reads behind the call as it read before'; 0 by the template 'total and deterministic' (their statements: YtdammgpflfoppacDoorTotals.lean).
  GIVEN WITH THE SEED: the statements are not yours to turn. If you find one false, say at which input.
  Laid BY PROGRAM, IN A SANDBOX (cutbox-rows.mjs): the forced cells as the released guide's own fill.sh prints them over the translation a94f615996bb4475… (all of the seat's roots in one cut). By AI agents, Wed Nov 11 2026. No macro, syntax, notation, axiom, sorry.
-/
import Derived.Test.YtdammgpflfoppacDoorChecked
import GoSem.Claim
import GoSem.ClaimJoined
import GoSem.ClaimMapViews
import Derived.JoinedTies
import Derived.KernelRfl
namespace Go.Proofs.YtdammgpflfoppacDoor
/- THE CELL 'sum', in the pinned program and in every row, IS THE sha256 OF THE DUMP (.gsa) THAT YtdammgpflfoppacDoorProg.lean LOADS. Nothing in Lean hashes anything: it is a label: what it is worth is what the hold of that sum in a sandbox is worth. -/
noncomputable def Tryd.pinned : Pinned := { name := "ytdammgpflfoppacdoor", sum := "a94f615996bb44757e77a71a0ebdf4b6c9a96a7a01cea5d8de212f358f4f496d", checked := Tryd.checked }
namespace Rows
def none {H : Type} : Left H := { results := [], args := [] }

/- WHAT THE LISTED PACKAGE-LEVEL VARIABLES READ AS WHEN THE CALL BEGINS. Each datum BY PROGRAM (the guide's laid-datum.mjs) off the statement by which the dump's own 'gosem.cut.vars' lays the variable. In a bare row this is a premise. The card (YtdammgpflfoppacDoorCards.lean) ties it to the program's text. -/
def laid_throng_kind_kinds {H : Type} : DataW H := .agg [.agg [.lit (.int .i64 24576), .lit (.int .i64 16384), .lit (.int .i64 0), .lit (.int .i64 0), .lit (.int .i64 0)], .agg [.lit (.int .i64 32768), .lit (.int .i64 24576), .lit (.int .i64 1), .lit (.int .i64 0), .lit (.int .i64 0)], .agg [.lit (.int .i64 81920), .lit (.int .i64 8192), .lit (.int .i64 0), .lit (.int .i64 1), .lit (.int .i64 0)], .agg [.lit (.int .i64 32768), .lit (.int .i64 16384), .lit (.int .i64 2), .lit (.int .i64 0), .lit (.int .i64 4)]]
def laid_throng_kind_costs {H : Type} : DataW H := .agg [.agg [.lit (.int .i64 2), .lit (.int .i64 1), .lit (.int .i64 3), .lit (.int .i64 5), .lit (.int .i64 0), .lit (.int .i64 0)], .agg [.lit (.int .i64 2), .lit (.int .i64 1), .lit (.int .i64 6), .lit (.int .i64 0), .lit (.int .i64 0), .lit (.int .i64 0)], .agg [.lit (.int .i64 2), .lit (.int .i64 1), .lit (.int .i64 0), .lit (.int .i64 3), .lit (.int .i64 2), .lit (.int .i64 0)]]

/-- 'thronglaw5.KindTables': WHATEVER THE INPUT: true; the input reads as it did. -/
def kindTablesSpec : ChangeSpec := { name := "kindTables", fn := fun _ => fun
  | [d] => { results := [.lit (.bool true)], args := [d] }
  | _ => none }
def kindTablesRow : OpenClaim := { program := "ytdammgpflfoppacdoor", sum := "a94f615996bb44757e77a71a0ebdf4b6c9a96a7a01cea5d8de212f358f4f496d", func := "throng/thronglaw5.KindTables", spec := "kindTables", named := ["throng/kind.kinds", "throng/kind.costs"], apart := false, laid := [("throng/kind.kinds", laid_throng_kind_kinds), ("throng/kind.costs", laid_throng_kind_costs)] }
def KindTablesSaid : Prop := kindTablesRow.holds Tryd.pinned (OpenSpec.ofChange kindTablesSpec)

/-- ITS FALSE NEIGHBOUR: 'it returns false'. Refute it at one input. -/
def kindTablesWrong : ChangeSpec := { name := "kindTables", fn := fun _ => fun
  | [d] => { results := [.lit (.bool false)], args := [d] }
  | _ => none }
def KindTablesWrongFalsely : Prop := kindTablesRow.holds Tryd.pinned (OpenSpec.ofChange kindTablesWrong)

/-- 'thronglaw5.KindFits': WHATEVER THE INPUT: true; the input reads as it did. -/
def kindFitsSpec : ChangeSpec := { name := "kindFits", fn := fun _ => fun
  | [d] => { results := [.lit (.bool true)], args := [d] }
  | _ => none }
def kindFitsRow : OpenClaim := { program := "ytdammgpflfoppacdoor", sum := "a94f615996bb44757e77a71a0ebdf4b6c9a96a7a01cea5d8de212f358f4f496d", func := "throng/thronglaw5.KindFits", spec := "kindFits", named := ["throng/kind.kinds", "throng/kind.costs"], apart := false, laid := [("throng/kind.kinds", laid_throng_kind_kinds), ("throng/kind.costs", laid_throng_kind_costs)] }
def KindFitsSaid : Prop := kindFitsRow.holds Tryd.pinned (OpenSpec.ofChange kindFitsSpec)

/-- ITS FALSE NEIGHBOUR: 'it returns false'. Refute it at one input. -/
def kindFitsWrong : ChangeSpec := { name := "kindFits", fn := fun _ => fun
  | [d] => { results := [.lit (.bool false)], args := [d] }
  | _ => none }
def KindFitsWrongFalsely : Prop := kindFitsRow.holds Tryd.pinned (OpenSpec.ofChange kindFitsWrong)

/-- 'thronglaw5.KindOrders': WHATEVER THE INPUT: true; the input reads as it did. -/
def kindOrdersSpec : ChangeSpec := { name := "kindOrders", fn := fun _ => fun
  | [d] => { results := [.lit (.bool true)], args := [d] }
  | _ => none }
def kindOrdersRow : OpenClaim := { program := "ytdammgpflfoppacdoor", sum := "a94f615996bb44757e77a71a0ebdf4b6c9a96a7a01cea5d8de212f358f4f496d", func := "throng/thronglaw5.KindOrders", spec := "kindOrders", named := ["throng/kind.costs", "throng/kind.kinds"], apart := false, laid := [("throng/kind.kinds", laid_throng_kind_kinds), ("throng/kind.costs", laid_throng_kind_costs)] }
def KindOrdersSaid : Prop := kindOrdersRow.holds Tryd.pinned (OpenSpec.ofChange kindOrdersSpec)

/-- ITS FALSE NEIGHBOUR: 'it returns false'. Refute it at one input. -/
def kindOrdersWrong : ChangeSpec := { name := "kindOrders", fn := fun _ => fun
  | [d] => { results := [.lit (.bool false)], args := [d] }
  | _ => none }
def KindOrdersWrongFalsely : Prop := kindOrdersRow.holds Tryd.pinned (OpenSpec.ofChange kindOrdersWrong)

/- THE SECOND FORM. 'bulk': how many values and letters a reading holds, each counted each time it is reached (what is shared counts as often as it is met; a slice's spare places count too). A statement '..UptoSaid' is the law's where the arguments, and the package variables that the reading takes, are together of bulk at most 1048576: NARROWER than '..Said'. Prove '..Said' where nothing that the law and all that it calls make is longer than what came in: it says more and counts as full. Else prove '..UptoSaid'. A law counts once. -/
mutual
def uptoBulk {H : Type} : DataW H → Nat
  | .lit (.string bytes) => bytes.length + 1
  | .lit _ => 1
  | .nil => 1
  | .ptr d => uptoBulk d + 1
  | .slice elems spare => uptoBulkAll elems + uptoBulkAll spare + 1
  | .agg parts => uptoBulkAll parts + 1
  | .iface _ d => uptoBulk d + 1
  | .map entries => uptoBulkEntries entries + 1
  | .held _ => 1
def uptoBulkAll {H : Type} : List (DataW H) → Nat
  | [] => 0
  | d :: r => uptoBulk d + uptoBulkAll r
def uptoBulkEntries {H : Type} : List (Lit × DataW H) → Nat
  | [] => 0
  | x :: r => uptoBulkEntry x + uptoBulkEntries r
def uptoBulkEntry {H : Type} : Lit × DataW H → Nat
  | (.string bytes, d) => bytes.length + uptoBulk d + 1
  | (_, d) => uptoBulk d + 1
 end
def uptoSmall : (H : Type) → List (DataW H) → Bool := fun _ ds => decide (uptoBulkAll ds ≤ 1048576)
def OpenSpec.upto (s : _root_.Go.ChangeSpec) : _root_.Go.OpenSpec := { _root_.Go.OpenSpec.ofChange s with cond := some uptoSmall }

/-- 'thronglaw5.KindTables', WHERE WHAT IT READS IS OF BULK AT MOST 1048576: true; the input reads as it did. -/
def kindTablesUptoRow : OpenClaim := { program := "ytdammgpflfoppacdoor", sum := "a94f615996bb44757e77a71a0ebdf4b6c9a96a7a01cea5d8de212f358f4f496d", func := "throng/thronglaw5.KindTables", spec := "kindTables", named := ["throng/kind.kinds", "throng/kind.costs"], apart := false, laid := [("throng/kind.kinds", laid_throng_kind_kinds), ("throng/kind.costs", laid_throng_kind_costs)], narrowed := true }
def KindTablesUptoSaid : Prop := kindTablesUptoRow.holds Tryd.pinned (OpenSpec.upto kindTablesSpec)

/-- 'thronglaw5.KindFits', WHERE WHAT IT READS IS OF BULK AT MOST 1048576: true; the input reads as it did. -/
def kindFitsUptoRow : OpenClaim := { program := "ytdammgpflfoppacdoor", sum := "a94f615996bb44757e77a71a0ebdf4b6c9a96a7a01cea5d8de212f358f4f496d", func := "throng/thronglaw5.KindFits", spec := "kindFits", named := ["throng/kind.kinds", "throng/kind.costs"], apart := false, laid := [("throng/kind.kinds", laid_throng_kind_kinds), ("throng/kind.costs", laid_throng_kind_costs)], narrowed := true }
def KindFitsUptoSaid : Prop := kindFitsUptoRow.holds Tryd.pinned (OpenSpec.upto kindFitsSpec)

/-- 'thronglaw5.KindOrders', WHERE WHAT IT READS IS OF BULK AT MOST 1048576: true; the input reads as it did. -/
def kindOrdersUptoRow : OpenClaim := { program := "ytdammgpflfoppacdoor", sum := "a94f615996bb44757e77a71a0ebdf4b6c9a96a7a01cea5d8de212f358f4f496d", func := "throng/thronglaw5.KindOrders", spec := "kindOrders", named := ["throng/kind.costs", "throng/kind.kinds"], apart := false, laid := [("throng/kind.kinds", laid_throng_kind_kinds), ("throng/kind.costs", laid_throng_kind_costs)], narrowed := true }
def KindOrdersUptoSaid : Prop := kindOrdersUptoRow.holds Tryd.pinned (OpenSpec.upto kindOrdersSpec)

end Rows
end Go.Proofs.YtdammgpflfoppacDoor
