import Derived.IntWalk
import Derived.Test.YtdpblimhfmfbnaaZsq
import Derived.Test.YtdpblimhfmfbnaaZsd
import Derived.WalkKit
import Derived.WalkSpells
import Derived.WalkLawsBesides
import Derived.Test.YtdpblimhfmfbnaaRows
import Derived.Test.YtdpblimhfmfbnaaZsp
import Derived.Deep.RegionHeld3
set_option linter.unusedVariables false
set_option linter.unusedSimpArgs false
namespace Go.Proofs.Ytdpblimhfmfbnaa
def Fx.radS (r : Int) : Int := if r < 0 then 0 else if 262144 < r then 262144 else r
def Fx.apS (a b r c d s : Int) : Bool := !Fx.withinS a b c d (Fx.radS r + Fx.radS s)
def bsS (x c : Int) : Int := if x < c * 65536 then c * 65536 - x else if c * 65536 + 65536 < x then x - c * 65536 - 65536 else 0
def meetsS (W t px py r : Int) : Bool := decide (bsS px (t % W) < r) && (decide (bsS py (t / W) < r) && decide (bsS px (t % W) * bsS px (t % W) + bsS py (t / W) * bsS py (t / W) < r * r))
def fmD (px py r : Int) : Bool := decide (0 ≤ r ∧ r ≤ 262144 ∧ -1099511627776 ≤ px ∧ px ≤ 1099511627776 ∧ -1099511627776 ≤ py ∧ py ≤ 1099511627776)
end Go.Proofs.Ytdpblimhfmfbnaa
namespace Go.Proofs.Ytdpblimhfmfbnaa
open Go.RowKit
end Go.Proofs.Ytdpblimhfmfbnaa
namespace Go.Proofs.Ytdpblimhfmfbnaa
open Go.RowKit
end Go.Proofs.Ytdpblimhfmfbnaa
namespace Go.Proofs.Ytdpblimhfmfbnaa
open Go.RowKit
end Go.Proofs.Ytdpblimhfmfbnaa
namespace Go.Proofs.Ytdpblimhfmfbnaa
open Go.RowKit
end Go.Proofs.Ytdpblimhfmfbnaa
namespace Go.Proofs.Ytdpblimhfmfbnaa
open Go.RowKit
end Go.Proofs.Ytdpblimhfmfbnaa
