/- Plain arithmetic of layer 17. -/
import Derived.Test.YtkggejdbkllaaaaFs
import Derived.Test.YtkggejdbkllaaaaFw
import Derived.Test.YtkggejdbkllaaaaGp
import Derived.IntWalk
namespace Go.Proofs.Ytkggejdbkllaaaa
def Fx.radS (r : Int) : Int := if r < 0 then 0 else if 262144 < r then 262144 else r
theorem Fx.radS_bd (r : Int) : 0 ≤ Fx.radS r ∧ Fx.radS r ≤ 262144 := by unfold Fx.radS; (repeat' split) <;> omega
def Fx.apS (a b r c d s : Int) : Bool := !Fx.withinS a b c d (Fx.radS r + Fx.radS s)
theorem Fx.sub_flip {a c : Int} (ha : Fx.I64 a) (hc : Fx.I64 c) : Fx.subS c a = -Fx.subS a c := by
  unfold Fx.I64 at ha hc
  unfold Fx.subS Fx.addS Fx.negS Fx.clampM Fx.cnt Fx.Most
  (repeat' split) <;> omega
theorem Fx.sz_neg' {x : Int} (h : -9223372036854775807 ≤ x ∧ x ≤ 9223372036854775807) : Fx.sz (-x) = Fx.sz x := by
  unfold Fx.sz Fx.cnt Fx.Most
  (repeat' split) <;> omega
theorem Fx.within_flip {a b c d r : Int} (ha : Fx.I64 a) (hb : Fx.I64 b) (hc : Fx.I64 c) (hd : Fx.I64 d) : Fx.withinS c d a b r = Fx.withinS a b c d r := by
  unfold Fx.withinS Fx.SQ
  rw [Fx.sub_flip ha hc, Fx.sub_flip hb hd, Fx.sz_neg' (x := Fx.subS a c) (Fx.clamp_bd _), Fx.sz_neg' (x := Fx.subS b d) (Fx.clamp_bd _)]
theorem Fx.apS_flip {a b r c d s : Int} (ha : Fx.I64 a) (hb : Fx.I64 b) (hc : Fx.I64 c) (hd : Fx.I64 d) : Fx.apS c d s a b r = Fx.apS a b r c d s := by
  unfold Fx.apS; rw [Fx.within_flip ha hb hc hd, Int.add_comm]
/-- How far a number lies outside of a column. -/
def bsS (x c : Int) : Int := if x < c * 65536 then c * 65536 - x else if c * 65536 + 65536 < x then x - c * 65536 - 65536 else 0
def meetsS (W t px py r : Int) : Bool := decide (bsS px (t % W) < r) && (decide (bsS py (t / W) < r) && decide (bsS px (t % W) * bsS px (t % W) + bsS py (t / W) * bsS py (t / W) < r * r))
def fmB (px py r : Int) : Bool := decide (0 ≤ r ∧ r ≤ 262144 ∧ -1099511627776 ≤ px ∧ px ≤ 1099511627776 ∧ -1099511627776 ≤ py ∧ py ≤ 1099511627776)
end Go.Proofs.Ytkggejdbkllaaaa
