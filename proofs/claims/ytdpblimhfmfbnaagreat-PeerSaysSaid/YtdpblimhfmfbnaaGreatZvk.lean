import Derived.Deep.QuietTactic
import Derived.BigQuiet
import Derived.Deep.RegionWith
import Derived.Deep.RegionHeld3
import Derived.Deep.DeepCutAuto
import Derived.Deep.DeepFit
import Derived.Outline
import Derived.Test.YtdpblimhfmfbnaaGreatZvj
import Derived.Test.YtdpblimhfmfbnaaGreatZve
import Derived.WalkLawsBesides
import Derived.BigGuardPart
set_option linter.unusedVariables false
set_option linter.unusedSimpArgs false
namespace Go.Proofs.YtdpblimhfmfbnaaGreat
open Go.RowKit
end Go.Proofs.YtdpblimhfmfbnaaGreat
namespace Go.Proofs.YtdpblimhfmfbnaaGreat
def sqB (op : Int → Int → Bool) : Nat → Int → Int → Bool
 | 0, _, _ => true
 | r + 1, x, y => op x y && sqB op r (x - 1) (y - 1) && sqB op r x (y - 1) && sqB op r (x + 1) (y - 1) && sqB op r (x - 1) y && sqB op r x y && sqB op r (x + 1) y && sqB op r (x - 1) (y + 1) && sqB op r x (y + 1) && sqB op r (x + 1) (y + 1)
def fqB (op : Int → Int → Bool) : Nat → Int → Int → Bool
 | 0, _, _ => true
 | r + 1, x, y => op x y && fqB op r (x - 1) y && fqB op r (x - 1) (y - 1) && fqB op r x (y - 1) && fqB op r (x + 1) (y - 1)
def bqB (op : Int → Int → Bool) : Nat → Int → Int → Bool
 | 0, _, _ => true
 | r + 1, x, y => fqB op (r + 1) x y && bqB op r (x + 1) y && bqB op r (x + 1) (y + 1) && bqB op r x (y + 1) && bqB op r (x - 1) (y + 1)
end Go.Proofs.YtdpblimhfmfbnaaGreat
namespace Go.Proofs.YtdpblimhfmfbnaaGreat
def grt (q : Nat → Bool) : Nat → Nat
 | 0 => 0
 | k + 1 => if q (k + 1) then k + 1 else grt q k
def opXY (W H : Int) (f : Nat → Bool) (x y : Int) : Bool := decide (0 ≤ x ∧ x < W ∧ 0 ≤ y ∧ y < H) && f (x + W * y).toNat
def fV (W H : Int) (f : Nat → Bool) (x y : Int) : Nat := grt (fun r => fqB (opXY W H f) r x y) 128
def sV (W H : Int) (f : Nat → Bool) (x y : Int) : Nat := grt (fun r => sqB (opXY W H f) r x y) 128
end Go.Proofs.YtdpblimhfmfbnaaGreat
namespace Go.Proofs.YtdpblimhfmfbnaaGreat
open Go.RowKit
end Go.Proofs.YtdpblimhfmfbnaaGreat
namespace Go.Proofs.YtdpblimhfmfbnaaGreat
open Go.RowKit
def fC (W H : Int) (f : Nat → Bool) (k : Nat) : Nat := fV W H f ((k : Int) % W) ((k : Int) / W)
def sC (W H : Int) (f : Nat → Bool) (k : Nat) : Nat := sV W H f ((k : Int) % W) ((k : Int) / W)
structure At (W H : Int) (n k : Nat) (x y : Int) : Prop where
 e : (k : Int) = x + W * y
 x0 : 0 ≤ x
 x1 : x < W
 y0 : 0 ≤ y
 y1 : y < H
 m : (k : Int) % W = x
 d : (k : Int) / W = y
def uL (W H : Int) (f : Nat → Bool) (x y : Int) : Nat := min (min (min (fV W H f (x - 1) y) (fV W H f (x - 1) (y - 1))) (fV W H f x (y - 1))) (fV W H f (x + 1) (y - 1))
def dL (W H : Int) (f : Nat → Bool) (x y : Int) : Nat := min (min (min (sV W H f (x + 1) y) (sV W H f (x - 1) (y + 1))) (sV W H f x (y + 1))) (sV W H f (x + 1) (y + 1))
end Go.Proofs.YtdpblimhfmfbnaaGreat
namespace Go.Proofs.YtdpblimhfmfbnaaGreat
open Go.RowKit
end Go.Proofs.YtdpblimhfmfbnaaGreat
