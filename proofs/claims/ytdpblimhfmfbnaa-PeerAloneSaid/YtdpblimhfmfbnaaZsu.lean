import Derived.Test.YtdpblimhfmfbnaaZst
import Derived.Test.YtdpblimhfmfbnaaZsq
import Derived.Test.YtdpblimhfmfbnaaZsr
import Derived.Test.YtdpblimhfmfbnaaZsd
import Derived.Test.YtdpblimhfmfbnaaZsk
import Derived.Test.YtdpblimhfmfbnaaZsa
import Derived.IntWalk
import Derived.Deep.RegionHeld3
import Derived.Deep.QuietTactic
import Derived.BigQuiet
import Derived.Deep.RegionWith
import Derived.Deep.DeepCutAuto
import Derived.Deep.DeepFit
import Derived.Outline
import Derived.Test.YtdpblimhfmfbnaaZsf
set_option linter.unusedVariables false
set_option linter.unusedSimpArgs false
namespace Go.Proofs.Ytdpblimhfmfbnaa
open Go.RowKit
end Go.Proofs.Ytdpblimhfmfbnaa
namespace Go.Proofs.Ytdpblimhfmfbnaa
open Go.RowKit
end Go.Proofs.Ytdpblimhfmfbnaa
namespace Go.Proofs.Ytdpblimhfmfbnaa
open Go.RowKit
end Go.Proofs.Ytdpblimhfmfbnaa
namespace Go.Proofs.Ytdpblimhfmfbnaa
open Go.RowKit
def Fx.szB (W H : Int) : Bool := decide (1 ≤ W ∧ W ≤ 128 ∧ 1 ≤ H ∧ H ≤ 128)
def Fx.acS (n : Int) : Int := (n + 8 - 1) / 8
def Fx.ofS (W t : Int) : Int := t % W / 8 + Fx.acS W * (t / W / 8)
end Go.Proofs.Ytdpblimhfmfbnaa
namespace Go.Proofs.Ytdpblimhfmfbnaa
open Go.RowKit
end Go.Proofs.Ytdpblimhfmfbnaa
namespace Go.Proofs.Ytdpblimhfmfbnaa
open Go.RowKit
def slX (gap d : Int) (x y a b : Int) : Bool := decide (max (max (x - a) (-(x - a))) (max (y - b) (-(y - b))) = d ∧ (x - a) % gap = 0 ∧ (y - b) % gap = 0)
def slP (W : Int) (g : Nat) (gap d : Int) (t : Nat) : Bool := slX gap d ((t : Int) % W) ((t : Int) / W) ((g : Int) % W) ((g : Int) / W)
def ringL (W : Int) (g n : Nat) (gap d : Int) : List Nat := (List.range n).filter (slP W g gap d)
def slF (W : Int) (g n : Nat) (gd : Nat → Bool) (gap d : Int) : List Nat := (ringL W g n gap d).filter gd
def slL (W : Int) (g n : Nat) (gd : Nat → Bool) (gap : Int) : Nat → List Nat
 | 0 => []
 | f + 1 => slL W g n gd gap f ++ slF W g n gd gap f
def befP (W : Int) (g : Nat) (gap d row col : Int) (t : Nat) : Bool := slP W g gap d t && decide ((t : Int) / W < row ∨ ((t : Int) / W = row ∧ (t : Int) % W < col))
def befL (W : Int) (g n : Nat) (gap d row col : Int) : List Nat := (List.range n).filter (befP W g gap d row col)
structure SlOk (W H : Int) (n g : Nat) (gap d : Int) : Prop where
 w1 : 1 ≤ W
 w2 : W ≤ 128
 h1 : 1 ≤ H
 h2 : H ≤ 128
 nn : (n : Int) = W * H
 gn : g < n
 gp : gap = 1 ∨ gap = 3 ∨ gap = 5 ∨ gap = 7
 d0 : 0 ≤ d
 d1 : d % gap = 0
 d2 : d ≤ 300
section
variable {W H : Int} {n g : Nat} {gap d row col nx : Int}
theorem slX_iff (x y a b : Int) : slX gap d x y a b = true ↔ max (max (x - a) (-(x - a))) (max (y - b) (-(y - b))) = d ∧ (x - a) % gap = 0 ∧ (y - b) % gap = 0 := by unfold slX; rw [decide_eq_true_iff]
structure SlAt (gx gy gap d row col nx : Int) : Prop where
 r0 : gy - d ≤ row
 r1 : row ≤ gy + d
 rm : (row - gy) % gap = 0
 c0 : gx - d ≤ col
 c1 : col ≤ gx + d
 cm : (col - gx) % gap = 0
 nx : ((row = gy - d ∨ row = gy + d) ∧ nx = gap) ∨ (gy - d < row ∧ row < gy + d ∧ nx = 2 * d ∧ (col = gx - d ∨ col = gx + d))
theorem SlAt.on (q : SlAt ((g : Int) % W) ((g : Int) / W) gap d row col nx) : slX gap d col row ((g : Int) % W) ((g : Int) / W) = true := by
 rw [slX_iff]
 obtain ⟨a, b, c, d, e, f, i⟩ := q
 exact ⟨by omega, f, c⟩
end
end Go.Proofs.Ytdpblimhfmfbnaa
