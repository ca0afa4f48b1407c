import Derived.Test.YtdpblimhfmfbnaaZtq
import Derived.Test.YtdpblimhfmfbnaaZto
import Derived.Deep.RegionHeld3
import Derived.Deep.RegionWith
import Derived.Test.YtdpblimhfmfbnaaZtp
import Derived.ProofKit
import Derived.OpenShut
import Derived.ShutString
import Derived.ChangeOld
import Derived.Below
import Derived.Deep.Slices
import Derived.Deep.Fields
import Derived.ChangeSame
/- The contracts of the products and quotients of package fixed and of the reference of layer 1. -/
namespace Go.Proofs.Ytdpblimhfmfbnaa
open Go.RowKit
set_option linter.unusedVariables false
end Go.Proofs.Ytdpblimhfmfbnaa
/- The contract of wide.Root: the greatest number whose square is at most a number of 128 bits. -/
namespace Go.Proofs.Ytdpblimhfmfbnaa
open Go.RowKit
set_option linter.unusedVariables false
end Go.Proofs.Ytdpblimhfmfbnaa
/- The contract of the reference's root: the greatest number up to a bound whose square is at most a number of 128 bits. -/
namespace Go.Proofs.Ytdpblimhfmfbnaa
open Go.RowKit
set_option linter.unusedVariables false
end Go.Proofs.Ytdpblimhfmfbnaa
/- The contracts of the roots of package fixed and of the reference of layer 1, and of the statements' own small call. -/
namespace Go.Proofs.Ytdpblimhfmfbnaa
open Go.RowKit
set_option linter.unusedVariables false
end Go.Proofs.Ytdpblimhfmfbnaa
/- The contracts of package fixed at the constants that the statements of layer 1 name. -/
namespace Go.Proofs.Ytdpblimhfmfbnaa
open Go.RowKit
set_option linter.unusedVariables false
end Go.Proofs.Ytdpblimhfmfbnaa
/- The argument of the statements of layer 1: what is known of a list of three numbers each, and how a row whose one argument is such a list is lifted from a walk. -/
namespace Go.Proofs.Ytdpblimhfmfbnaa
open Go.ChangeShapes Go.WideShapes Go.ChangeAt Go.RowKit Go.Deep
set_option linter.unusedVariables false

/-- A list of three numbers each: every element lies in memory, each number fits its kind. -/
def Asks (w : World) (a : Option Addr) (len cap : Nat) : Prop :=
  len ≤ cap ∧ cap ≤ 9223372036854775807 ∧ ∀ i, i < len → ∃ (b off : Nat) (x y z : Int), a = some ⟨b, off, none⟩ ∧ b < w.heap.size ∧ Fx.I64 x ∧ Fx.I64 y ∧ Fx.I64 z ∧
    w.cell? ⟨b, off + i * 3, none⟩ = some (.int .i64 x) ∧ w.cell? ⟨b, off + i * 3 + 1, none⟩ = some (.int .i64 y) ∧ w.cell? ⟨b, off + i * 3 + 2, none⟩ = some (.int .i64 z)

theorem i64_of_wf {n : Int} (h : (Lit.int .i64 n).wf = true) : Fx.I64 n := by
  have := bounds_i64 h
  unfold Fx.I64; omega
theorem addr_plus {b off : Nat} (j : Nat) : (⟨b, off, none⟩ : Addr).add j = ⟨b, off + j, none⟩ := by
  unfold Addr.add; split <;> simp_all

theorem up {P : Program} {F : FuncId} {args : Array Value} {w w0 : World} {r : Ending} (h : Calls P F args w fun e w' => e = r ∧ Below w.heap.size w w') (hB : Fx.Hd (Below w0.heap.size w0 w)) :
    Calls P F args w fun e w' => e = r ∧ Fx.Hd (Below w0.heap.size w0 w') :=
  h.mono fun e w' ⟨h1, h2⟩ => ⟨h1, ⟨hB.out.trans (h2.mono hB.out.size)⟩⟩
/-- A call that makes memory leaves two cells of the argument as they were. -/
theorem held2 {P : Program} {F : FuncId} {args : Array Value} {w w0 : World} {r : Ending} {b o1 o2 : Nat} {x y : Value} (h : Calls P F args w fun e w' => e = r ∧ Below w.heap.size w w')
    (hB : Below w0.heap.size w0 w) (hbl : b < w0.heap.size) (d0 : w.cell? ⟨b, o1, none⟩ = some x) (d1 : w.cell? ⟨b, o2, none⟩ = some y) :
    Calls P F args w fun e w' => e = r ∧ w'.cell? ⟨b, o1, none⟩ = some x ∧ w'.cell? ⟨b, o2, none⟩ = some y ∧ Below w0.heap.size w0 w' :=
  h.mono fun e w' ⟨h1, h2⟩ => ⟨h1, (h2.cell (p := ⟨b, o1, none⟩) (Nat.lt_of_lt_of_le hbl hB.size)).trans d0, (h2.cell (p := ⟨b, o2, none⟩) (Nat.lt_of_lt_of_le hbl hB.size)).trans d1, hB.trans (h2.mono hB.size)⟩
end Go.Proofs.Ytdpblimhfmfbnaa
