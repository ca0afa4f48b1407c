import Derived.Test.YtmphmpfeeiipgaaZth
import Derived.ProofKit
import Derived.LaidMore
import Derived.OpenShut
import Derived.Stop.Joined
import Derived.Test.YtmphmpfeeiipgaaRows
import Derived.Test.YtmphmpfeeiipgaaChecked
/- Layer 6: places of tiles. -/
namespace Go.Proofs.Ytmphmpfeeiipgaa
open Go.RowKit
set_option linter.unusedVariables false
end Go.Proofs.Ytmphmpfeeiipgaa
/- Layer 6: tiles of places. -/
namespace Go.Proofs.Ytmphmpfeeiipgaa
open Go.RowKit
set_option linter.unusedVariables false
end Go.Proofs.Ytmphmpfeeiipgaa
/- Layer 6: centres of tiles. -/
namespace Go.Proofs.Ytmphmpfeeiipgaa
open Go.RowKit
set_option linter.unusedVariables false
theorem wr_in {x : Int} (h : -9223372036854775808 ≤ x ∧ x ≤ 9223372036854775807) : IntKind.i64.wrap x = x := IntWalk.i64_in _ ⟨h.1, h.2⟩
end Go.Proofs.Ytmphmpfeeiipgaa
/- Layer 6: centres, tiles of places. -/
namespace Go.Proofs.Ytmphmpfeeiipgaa
open Go.RowKit
set_option linter.unusedVariables false
end Go.Proofs.Ytmphmpfeeiipgaa
/- Layer 6: the ways to the neighbours, as the table has them; what a neighbour is. -/
namespace Go.Proofs.Ytmphmpfeeiipgaa
open Go.ChangeShapes Go.WideShapes Go.ChangeAt Go.RowKit
set_option linter.unusedVariables false
def dxL : List Int := [0, 1, 0, -1, 1, 1, -1, -1]
def dyL : List Int := [-1, 0, 1, 0, -1, 1, 1, -1]
def oL : List Int := [0, -1, 1, 0, 0, 1, -1, 0, 1, -1, 1, 1, -1, 1, -1, -1]
theorem one_atn {cs : List Value} {a n j : Nat} {v : Value} (hj : j < n) (h : (((cs.drop a).take n).drop j).take 1 = [v]) : cs[a + j]? = some v := by
  have h1 := congrArg (fun l : List Value => l[0]?) h
  simp only [List.getElem?_take, List.getElem?_drop] at h1
  simpa [hj] using h1
section
variable {H : Type} {enc : TypeId × Value → H} {w : World} {base : Nat} {sp : Nat → Bool} {held : Bool}
theorem int_isn {t : TypeId} {fuel : Nat} {cs : List Value} {x : DataW H × List MemPlace} {z : Int} (ht : Try.prog.underlying t = some (.int .i64)) (h : DataW.trod enc Try.prog w base sp held fuel t cs = some x) (hx : x.1 = .lit (.int .i64 z)) : cs = [.int .i64 z] := by
  obtain ⟨n, rfl, e, _⟩ := DataW.trod_int ht h
  rw [e] at hx
  simp at hx
  rw [hx]
end
/-- The neighbour of t in way k, or -1. -/
def nbS (W H t dx dy : Int) : Int := if 0 ≤ t % W + dx ∧ t % W + dx < W ∧ 0 ≤ t / W + dy ∧ t / W + dy < H then t % W + dx + W * (t / W + dy) else -1
def nb (W H t : Int) (k : Nat) : Int := nbS W H t (dxL.getD k 0) (dyL.getD k 0)
def nbL (W H t : Int) : List Int := (List.range 8).map (nb W H t)
end Go.Proofs.Ytmphmpfeeiipgaa
/- Layer 6: the neighbours of a tile. -/
namespace Go.Proofs.Ytmphmpfeeiipgaa
open Go.RowKit
set_option linter.unusedVariables false
/-- The eight cells of the answer under way, and the result's behind. -/
structure N8 (w0 w : World) (F : Nat → Int) : Prop where
  c : ∀ j, j < 8 → w.cell? ⟨w0.heap.size + 1, j, none⟩ = some (.int .i64 (F j))
  f : ∀ j, w.frozen? ⟨w0.heap.size + 1, j, none⟩ = false
  d : ∀ j, j < 8 → w.cell? ⟨w0.heap.size, j, none⟩ = some (.int .i64 0)
  g : ∀ j, w.frozen? ⟨w0.heap.size, j, none⟩ = false
  hs : w0.heap.size + 1 < w.heap.size
  hB : Below w0.heap.size w0 w
theorem N8.next {w0 w w' : World} {F : Nat → Int} (h : N8 w0 w F) (hb : Below w.heap.size w w') : N8 w0 w' F := by
  have hs := h.hs
  have a0 : w0.heap.size < w.heap.size := by omega
  exact ⟨fun j hj => (hb.cell (p := ⟨w0.heap.size + 1, j, none⟩) hs).trans (h.c j hj), fun j => (hb.frozen (p := ⟨w0.heap.size + 1, j, none⟩) hs).trans (h.f j),
    fun j hj => (hb.cell (p := ⟨w0.heap.size, j, none⟩) a0).trans (h.d j hj), fun j => (hb.frozen (p := ⟨w0.heap.size, j, none⟩) a0).trans (h.g j), Nat.lt_of_lt_of_le hs hb.size, h.hB.trans (hb.mono h.hB.size)⟩
theorem N8.alloc {w0 w : World} {F : Nat → Int} (h : N8 w0 w F) (o : Obj) : N8 w0 (w.alloc o) F := h.next ((Below.refl _ _).alloc (Nat.le_refl _) _)
theorem N8.drewN {w0 w : World} {F : Nat → Int} (h : N8 w0 w F) (n : Nat) : N8 w0 (w.drewN n) F := ⟨h.c, h.f, h.d, h.g, h.hs, below_drewN h.hB n⟩
theorem N8.set {w0 w : World} {F G : Nat → Int} (h : N8 w0 w F) (k : Nat) (v : Int) (hk : k < 8) (e : G k = v) (e' : ∀ j, j < 8 → j ≠ k → G j = F j) : N8 w0 (w.setCell ⟨w0.heap.size + 1, k, none⟩ (.int .i64 v)) G := by
  refine ⟨fun j hj => ?_, fun j => ?_, fun j hj => ?_, fun j => ?_, ?_, ?_⟩
  · by_cases ej : j = k
    · subst ej; rw [e]; exact World.cell?_setCell_same _ _ _ (u := .int .i64 (F j)) (h.c j hj)
    · rw [World.cell?_setCell_other _ _ _ _ (by simp <;> omega), e' j hj ej]; exact h.c j hj
  · simpa using h.f j
  · rw [World.cell?_setCell_other _ _ _ _ (by simp)]; exact h.d j hj
  · simpa using h.g j
  · simpa using h.hs
  · exact h.hB.setCell (by simp) _
theorem nbS_yes {W H t dx dy : Int} (a : 0 ≤ t % W + dx) (b : t % W + dx < W) (c : 0 ≤ t / W + dy) (d : t / W + dy < H) : nbS W H t dx dy = t % W + dx + W * (t / W + dy) := by unfold nbS; rw [if_pos ⟨a, b, c, d⟩]
theorem nbS_no {W H t dx dy : Int} (h : ¬ (0 ≤ t % W + dx ∧ t % W + dx < W ∧ 0 ≤ t / W + dy ∧ t / W + dy < H)) : nbS W H t dx dy = -1 := by unfold nbS; rw [if_neg h]
theorem d_bd (k : Nat) : (-1 ≤ dxL.getD k 0 ∧ dxL.getD k 0 ≤ 1) ∧ (-1 ≤ dyL.getD k 0 ∧ dyL.getD k 0 ≤ 1) := by
  by_cases h : k < 8
  · match k, h with
    | 0, _ | 1, _ | 2, _ | 3, _ | 4, _ | 5, _ | 6, _ | 7, _ => decide
  · have e1 : dxL.getD k 0 = 0 := by unfold dxL; simp [List.getD]; rw [List.getElem?_eq_none (by simp; omega)]; rfl
    have e2 : dyL.getD k 0 = 0 := by unfold dyL; simp [List.getD]; rw [List.getElem?_eq_none (by simp; omega)]; rfl
    rw [e1, e2]; omega
end Go.Proofs.Ytmphmpfeeiipgaa
