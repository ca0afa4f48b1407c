import Derived.Maps.AppendAt
import Derived.Test.YtdpblimhfmfbnaaGreatZvi
import Derived.ArgAppend
import Derived.Deep.QuietTactic
import Derived.BigQuiet
import Derived.Deep.RegionWith
import Derived.Deep.RegionHeld3
import Derived.Deep.DeepCutAuto
import Derived.Deep.DeepFit
import Derived.Outline
import Derived.Test.YtdpblimhfmfbnaaGreatZve
import Derived.Test.YtdpblimhfmfbnaaGreatZvb
import Derived.Test.YtdpblimhfmfbnaaGreatZvf
import Derived.ProofKit
import Derived.LaidMore
import Derived.OpenShut
import Derived.Stop.Joined
import Derived.WalkKit
import Derived.WalkLawsBesides
import Derived.WalkSpells
import Derived.Test.YtdpblimhfmfbnaaGreatRows
import Derived.Test.YtdpblimhfmfbnaaGreatChecked
import Derived.Test.YtdpblimhfmfbnaaGreatZva
set_option linter.unusedVariables false
set_option linter.unusedSimpArgs false
namespace Go.Proofs.YtdpblimhfmfbnaaGreat
open Go.RowKit
end Go.Proofs.YtdpblimhfmfbnaaGreat
namespace Go.Proofs.YtdpblimhfmfbnaaGreat
open Go.RowKit
structure A8 (base g : Nat) (w0 w : World) (F : Nat → Int) : Prop where
 c : ∀ j, j < 8 → w.cell? ⟨g, j, none⟩ = some (.int .i64 (F j))
 f : ∀ j, w.frozen? ⟨g, j, none⟩ = false
 hs : g < w.heap.size
 hb : base ≤ g
 hB : Below base w0 w
theorem A8.set {base g : Nat} {w0 w : World} {F : Nat → Int} (h : A8 base g w0 w F) (k : Nat) (v : Int) (hk : k < 8) : A8 base g w0 (w.setCell ⟨g, k, none⟩ (.int .i64 v)) (fun j => if j = k then v else F j) := by
 refine ⟨fun j hj => ?_, fun j => ?_, ?_, h.hb, h.hB.setCell h.hb _⟩
 ·by_cases e : j = k
  ·subst e; rw [if_pos rfl]; exact World.cell?_setCell_same _ _ _ (u := .int .i64 (F j)) (h.c j hj)
  ·rw [if_neg e, World.cell?_setCell_other _ _ _ _ (by simp <;> omega)]; exact h.c j hj
 ·simpa using h.f j
 ·simpa using h.hs
end Go.Proofs.YtdpblimhfmfbnaaGreat
namespace Go.Proofs.YtdpblimhfmfbnaaGreat
open Go.RowKit
theorem Arr.nq {w : World} {g n B : Nat} {T : TypeId} {F : Nat → Int} (h : Arr w g n T (fun k => .int .i64 (F k))) (hg : g < B) : Nq w B (some ⟨g, 0, none⟩) n ((List.range n).map F) :=
 ⟨by simp, fun hn => ⟨g, 0, rfl, hg, fun k hk => by rw [Nat.zero_add, h.cell hk]; simp [List.getD, hk]⟩⟩
end Go.Proofs.YtdpblimhfmfbnaaGreat
namespace Go.Proofs.YtdpblimhfmfbnaaGreat
open Go.ChangeShapes Go.WideShapes Go.ChangeAt Go.RowKit Go.Deep
end Go.Proofs.YtdpblimhfmfbnaaGreat
namespace Go.Proofs.YtdpblimhfmfbnaaGreat
open Go.ChangeShapes Go.WideShapes Go.ChangeAt Go.RowKit Go.Deep
end Go.Proofs.YtdpblimhfmfbnaaGreat
namespace Go.Proofs.YtdpblimhfmfbnaaGreat
open Go.ChangeShapes Go.WideShapes Go.ChangeAt Go.RowKit
def ctL : List Int := [2, 1, 3, 5, 0, 0, 2, 1, 6, 0, 0, 0, 2, 1, 0, 3, 2, 0]
def ctS (c t : Nat) : Int := ctL.getD (c * 6 + t) 0
section
variable {H : Type} {enc : TypeId × Value → H} {w : World} {base : Nat} {sp : Nat → Bool} {held : Bool}
end
end Go.Proofs.YtdpblimhfmfbnaaGreat
