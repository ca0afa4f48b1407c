import Derived.Test.YtdpblimhfmfbnaaZsj
import Derived.Test.YtdpblimhfmfbnaaZsk
import Derived.Deep.QuietTactic
import Derived.BigQuiet
import Derived.Deep.RegionWith
import Derived.Deep.RegionHeld3
import Derived.Deep.DeepCutAuto
import Derived.Deep.DeepFit
import Derived.Outline
import Derived.BigGuardPart
import Derived.Test.YtdpblimhfmfbnaaZsh
import Derived.Test.YtdpblimhfmfbnaaZsi
import Derived.Test.YtdpblimhfmfbnaaZsd
set_option linter.unusedVariables false
set_option linter.unusedSimpArgs false
namespace Go.Proofs.Ytdpblimhfmfbnaa
open Go.RowKit
def sqT (W H : Int) (f : Nat → Bool) (m k : Nat) : Bool := sqB (opXY W H f) m ((k : Int) % W) ((k : Int) / W)
def nbO (W H : Int) (f : Nat → Bool) (m t i : Nat) : Bool := decide (0 ≤ nb W H t i) && sqT W H f (m + 1) (nb W H t i).toNat
def alO (W H : Int) (f : Nat → Bool) (m t : Nat) : Nat → Bool
 | 0 => true
 | i + 1 => alO W H f m t i && nbO W H f m t i
end Go.Proofs.Ytdpblimhfmfbnaa
namespace Go.Proofs.Ytdpblimhfmfbnaa
open Go.RowKit
end Go.Proofs.Ytdpblimhfmfbnaa
namespace Go.Proofs.Ytdpblimhfmfbnaa
open Go.ChangeShapes Go.WideShapes Go.ChangeAt Go.RowKit Go.Deep
def gtP (n ln : Nat) : Bool := decide (700 < n ∨ 30 < ln)
def Asks9 (w : World) (v : Value) : Prop := ∃ (W H : Int) (a : Option Addr) (n c : Nat) (xs : List Int) (la : Option Addr) (ln lc : Nat) (bs : List Bd) (x : Int),
 v = .agg #[.int .i64 W, .int .i64 H, .slice a n c, .slice la ln lc, .int .i64 x] ∧ I64' W ∧ I64' H ∧ I64' x ∧ n ≤ 9223372036854775807 ∧ ln ≤ lc ∧ lc ≤ 9223372036854775807 ∧ By w w.heap.size a n xs ∧ Bq w w.heap.size la ln bs ∧ (∀ k, k < ln → ∀ i, I64' ((bs.getD k default).c i))
end Go.Proofs.Ytdpblimhfmfbnaa
namespace Go.Proofs.Ytdpblimhfmfbnaa
open Go.ChangeShapes Go.WideShapes Go.ChangeAt Go.RowKit Go.Deep
end Go.Proofs.Ytdpblimhfmfbnaa
namespace Go.Proofs.Ytdpblimhfmfbnaa
open Go.RowKit
def inV (N : Int) (xs : List Int) : Int := if N ∈ xs then (xs.idxOf N : Nat) else -1
end Go.Proofs.Ytdpblimhfmfbnaa
namespace Go.Proofs.Ytdpblimhfmfbnaa
open Go.RowKit
def nbN (W H t : Int) : Nat → Nat
 | 0 => 0
 | j + 1 => nbN W H t j + if 0 ≤ nb W H t j then 1 else 0
def nbT (W H : Int) : Nat → Nat
 | 0 => 0
 | k + 1 => nbT W H k + nbN W H k 8
end Go.Proofs.Ytdpblimhfmfbnaa
