import Derived.Test.YtdpblimhfmfbnaaZtd
import Derived.ProofKit
import Derived.LaidMore
import Derived.OpenShut
import Derived.Stop.Joined
import Derived.Test.YtdpblimhfmfbnaaRows
import Derived.Test.YtdpblimhfmfbnaaChecked
/- Layer 6: whether a number is a tile's. -/
namespace Go.Proofs.Ytdpblimhfmfbnaa
open Go.RowKit
set_option linter.unusedVariables false
theorem bcellg {W w1 : World} (hb : Below W.heap.size W w1) : (∀ b o, b < W.heap.size → w1.cell? ⟨b, o, none⟩ = W.cell? ⟨b, o, none⟩) ∧ (∀ b o, b < W.heap.size → w1.frozen? ⟨b, o, none⟩ = W.frozen? ⟨b, o, none⟩) :=
  ⟨fun b o h => hb.cell (p := ⟨b, o, none⟩) h, fun b o h => hb.frozen (p := ⟨b, o, none⟩) h⟩
def ctE (W H : Int) (n : Nat) (xs : List Int) (t : Int) : Int := if gB W H n xs = true then (if 0 ≤ t ∧ t < W * H then 0 else 3) else 1
theorem ctE_yes {W H t : Int} {n : Nat} {xs : List Int} (g : GOk W H n xs) (h0 : 0 ≤ t) (h1 : t < W * H) : ctE W H n xs t = 0 := by unfold ctE; rw [if_pos (gB_yes g), if_pos ⟨h0, h1⟩]
theorem ctE_none {W H t : Int} {n : Nat} {xs : List Int} (g : GOk W H n xs) (h : ¬ (0 ≤ t ∧ t < W * H)) : ctE W H n xs t = 3 := by unfold ctE; rw [if_pos (gB_yes g), if_neg h]
theorem ctE_form {W H t : Int} {n : Nat} {xs : List Int} (g : ¬ GOk W H n xs) : ctE W H n xs t = 1 := by unfold ctE; rw [if_neg (by rw [gB_no g]; decide)]
end Go.Proofs.Ytdpblimhfmfbnaa
/- Layer 6: places of tiles. -/
namespace Go.Proofs.Ytdpblimhfmfbnaa
open Go.RowKit
set_option linter.unusedVariables false
end Go.Proofs.Ytdpblimhfmfbnaa
/- Layer 6: tiles of places. -/
namespace Go.Proofs.Ytdpblimhfmfbnaa
open Go.RowKit
set_option linter.unusedVariables false
end Go.Proofs.Ytdpblimhfmfbnaa
/- Layer 6: centres of tiles. -/
namespace Go.Proofs.Ytdpblimhfmfbnaa
open Go.RowKit
set_option linter.unusedVariables false
theorem wr_in {x : Int} (h : -9223372036854775808 ≤ x ∧ x ≤ 9223372036854775807) : IntKind.i64.wrap x = x := IntWalk.i64_in _ ⟨h.1, h.2⟩
end Go.Proofs.Ytdpblimhfmfbnaa
/- Layer 6: centres, tiles of places. -/
namespace Go.Proofs.Ytdpblimhfmfbnaa
open Go.RowKit
set_option linter.unusedVariables false
end Go.Proofs.Ytdpblimhfmfbnaa
/- Layer 6: the ways to the neighbours, as the table has them; what a neighbour is. -/
namespace Go.Proofs.Ytdpblimhfmfbnaa
open Go.ChangeShapes Go.WideShapes Go.ChangeAt Go.RowKit
set_option linter.unusedVariables false
def dxL : List Int := [0, 1, 0, -1, 1, 1, -1, -1]
def dyL : List Int := [-1, 0, 1, 0, -1, 1, 1, -1]
def oL : List Int := [0, -1, 1, 0, 0, 1, -1, 0, 1, -1, 1, 1, -1, 1, -1, -1]
theorem one_atn {cs : List Value} {a n j : Nat} {v : Value} (hj : j < n) (h : (((cs.drop a).take n).drop j).take 1 = [v]) : cs[a + j]? = some v := by
  have h1 := congrArg (fun l : List Value => l[0]?) h
  simp only [List.getElem?_take, List.getElem?_drop] at h1
  simpa [hj] using h1
section
variable {H : Type} {enc : TypeId × Value → H} {w : World} {base : Nat} {sp : Nat → Bool} {held : Bool}
theorem int_isn {t : TypeId} {fuel : Nat} {cs : List Value} {x : DataW H × List MemPlace} {z : Int} (ht : Try.prog.underlying t = some (.int .i64)) (h : DataW.trod enc Try.prog w base sp held fuel t cs = some x) (hx : x.1 = .lit (.int .i64 z)) : cs = [.int .i64 z] := by
  obtain ⟨n, rfl, e, _⟩ := DataW.trod_int ht h
  rw [e] at hx
  simp at hx
  rw [hx]
end
/-- The neighbour of t in way k, or -1. -/
def nbS (W H t dx dy : Int) : Int := if 0 ≤ t % W + dx ∧ t % W + dx < W ∧ 0 ≤ t / W + dy ∧ t / W + dy < H then t % W + dx + W * (t / W + dy) else -1
def nb (W H t : Int) (k : Nat) : Int := nbS W H t (dxL.getD k 0) (dyL.getD k 0)
def nbL (W H t : Int) : List Int := (List.range 8).map (nb W H t)
end Go.Proofs.Ytdpblimhfmfbnaa
