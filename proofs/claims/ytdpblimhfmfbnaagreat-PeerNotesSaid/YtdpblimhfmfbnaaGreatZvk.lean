import Derived.Deep.QuietTactic
import Derived.BigQuiet
import Derived.Deep.RegionWith
import Derived.Deep.RegionHeld3
import Derived.Deep.DeepCutAuto
import Derived.Deep.DeepFit
import Derived.Outline
import Derived.Test.YtdpblimhfmfbnaaGreatZvj
import Derived.Test.YtdpblimhfmfbnaaGreatZve
import Derived.Test.YtdpblimhfmfbnaaGreatZvg
import Derived.Test.YtdpblimhfmfbnaaGreatZvf
import Derived.WalkLawsBesides
import Derived.BigGuardPart
set_option linter.unusedVariables false
set_option linter.unusedSimpArgs false
namespace Go.Proofs.YtdpblimhfmfbnaaGreat
open Go.RowKit
def opB (c t : Nat) : Bool := decide (0 < ctS c t)
end Go.Proofs.YtdpblimhfmfbnaaGreat
namespace Go.Proofs.YtdpblimhfmfbnaaGreat
open Go.RowKit
def opn (W : Int) (xs : List Int) (bs : List Bd) (c k : Nat) : Bool := opB c (xs.getD k 0).toNat && !(cvB W bs k)
end Go.Proofs.YtdpblimhfmfbnaaGreat
namespace Go.Proofs.YtdpblimhfmfbnaaGreat
open Go.RowKit
end Go.Proofs.YtdpblimhfmfbnaaGreat
namespace Go.Proofs.YtdpblimhfmfbnaaGreat
def sqB (op : Int → Int → Bool) : Nat → Int → Int → Bool
 | 0, _, _ => true
 | r + 1, x, y => op x y && sqB op r (x - 1) (y - 1) && sqB op r x (y - 1) && sqB op r (x + 1) (y - 1) && sqB op r (x - 1) y && sqB op r x y && sqB op r (x + 1) y && sqB op r (x - 1) (y + 1) && sqB op r x (y + 1) && sqB op r (x + 1) (y + 1)
def fqB (op : Int → Int → Bool) : Nat → Int → Int → Bool
 | 0, _, _ => true
 | r + 1, x, y => op x y && fqB op r (x - 1) y && fqB op r (x - 1) (y - 1) && fqB op r x (y - 1) && fqB op r (x + 1) (y - 1)
def bqB (op : Int → Int → Bool) : Nat → Int → Int → Bool
 | 0, _, _ => true
 | r + 1, x, y => fqB op (r + 1) x y && bqB op r (x + 1) y && bqB op r (x + 1) (y + 1) && bqB op r x (y + 1) && bqB op r (x - 1) (y + 1)
end Go.Proofs.YtdpblimhfmfbnaaGreat
namespace Go.Proofs.YtdpblimhfmfbnaaGreat
def grt (q : Nat → Bool) : Nat → Nat
 | 0 => 0
 | k + 1 => if q (k + 1) then k + 1 else grt q k
def opXY (W H : Int) (f : Nat → Bool) (x y : Int) : Bool := decide (0 ≤ x ∧ x < W ∧ 0 ≤ y ∧ y < H) && f (x + W * y).toNat
def fV (W H : Int) (f : Nat → Bool) (x y : Int) : Nat := grt (fun r => fqB (opXY W H f) r x y) 128
def sV (W H : Int) (f : Nat → Bool) (x y : Int) : Nat := grt (fun r => sqB (opXY W H f) r x y) 128
end Go.Proofs.YtdpblimhfmfbnaaGreat
namespace Go.Proofs.YtdpblimhfmfbnaaGreat
open Go.RowKit
end Go.Proofs.YtdpblimhfmfbnaaGreat
