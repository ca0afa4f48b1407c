import Derived.Test.YtdpblimhfmfbnaaGreatZvl
import Derived.Test.YtdpblimhfmfbnaaGreatZvk
import Derived.Deep.QuietTactic
import Derived.BigQuiet
import Derived.Deep.RegionWith
import Derived.Deep.RegionHeld3
import Derived.Deep.DeepCutAuto
import Derived.Deep.DeepFit
import Derived.Outline
import Derived.BigGuardPart
import Derived.Test.YtdpblimhfmfbnaaGreatZvj
import Derived.Test.YtdpblimhfmfbnaaGreatZve
set_option linter.unusedVariables false
set_option linter.unusedSimpArgs false
namespace Go.Proofs.YtdpblimhfmfbnaaGreat
open Go.RowKit
theorem ways (k : Nat) (hk : k < 8) : ∃ j, j < 8 ∧ dxL.getD j 0 = -(dxL.getD k 0) ∧ dyL.getD j 0 = -(dyL.getD k 0) := by
 have h : ∀ k : Fin 8, ∃ j : Fin 8, dxL.getD j 0 = -(dxL.getD k 0) ∧ dyL.getD j 0 = -(dyL.getD k 0) := by decide
 obtain ⟨j, h1, h2⟩ := h ⟨k, hk⟩
 exact ⟨j, j.2, h1, h2⟩
end Go.Proofs.YtdpblimhfmfbnaaGreat
namespace Go.Proofs.YtdpblimhfmfbnaaGreat
open Go.RowKit
def sqT (W H : Int) (f : Nat → Bool) (m k : Nat) : Bool := sqB (opXY W H f) m ((k : Int) % W) ((k : Int) / W)
def nbO (W H : Int) (f : Nat → Bool) (m t i : Nat) : Bool := decide (0 ≤ nb W H t i) && sqT W H f (m + 1) (nb W H t i).toNat
def alO (W H : Int) (f : Nat → Bool) (m t : Nat) : Nat → Bool
 | 0 => true
 | i + 1 => alO W H f m t i && nbO W H f m t i
end Go.Proofs.YtdpblimhfmfbnaaGreat
namespace Go.Proofs.YtdpblimhfmfbnaaGreat
open Go.RowKit
end Go.Proofs.YtdpblimhfmfbnaaGreat
namespace Go.Proofs.YtdpblimhfmfbnaaGreat
open Go.ChangeShapes Go.WideShapes Go.ChangeAt Go.RowKit Go.Deep
def gtP (n ln : Nat) : Bool := decide (700 < n ∨ 30 < ln)
def Asks9 (w : World) (v : Value) : Prop := ∃ (W H : Int) (a : Option Addr) (n c : Nat) (xs : List Int) (la : Option Addr) (ln lc : Nat) (bs : List Bd) (x : Int),
 v = .agg #[.int .i64 W, .int .i64 H, .slice a n c, .slice la ln lc, .int .i64 x] ∧ I64' W ∧ I64' H ∧ I64' x ∧ n ≤ 9223372036854775807 ∧ ln ≤ lc ∧ lc ≤ 9223372036854775807 ∧ By w w.heap.size a n xs ∧ Bq w w.heap.size la ln bs ∧ (∀ k, k < ln → ∀ i, I64' ((bs.getD k default).c i))
end Go.Proofs.YtdpblimhfmfbnaaGreat
namespace Go.Proofs.YtdpblimhfmfbnaaGreat
open Go.ChangeShapes Go.WideShapes Go.ChangeAt Go.RowKit Go.Deep
end Go.Proofs.YtdpblimhfmfbnaaGreat
namespace Go.Proofs.YtdpblimhfmfbnaaGreat
open Go.RowKit
def inV (N : Int) (xs : List Int) : Int := if N ∈ xs then (xs.idxOf N : Nat) else -1
end Go.Proofs.YtdpblimhfmfbnaaGreat
