import Derived.Deep.QuietTactic
import Derived.BigQuiet
import Derived.Deep.RegionWith
import Derived.Deep.RegionHeld3
import Derived.Deep.DeepCutAuto
import Derived.Deep.DeepFit
import Derived.Outline
import Derived.Test.YtdpblimhfmfbnaaZsad
set_option linter.unusedVariables false
set_option linter.unusedSimpArgs false
namespace Go.Proofs.Ytdpblimhfmfbnaa
open Go.ChangeShapes Go.WideShapes Go.ChangeAt Go.RowKit Go.Deep
theorem below_m {w z : World} (h : ∃ m, z = w.drewN m) : Below w.heap.size w z := by
 obtain ⟨m, rfl⟩ := h
 exact below_drewN (Below.refl _ _) m
theorem bool_of (P : Prop) : ∃ r : Bool, P ↔ r = true := by
 by_cases h : P
 ·exact ⟨true, fun _ => rfl, fun _ => h⟩
 ·exact ⟨false, fun k => absurd k h, fun k => by cases k⟩
theorem ab_iff (p q : Pv) : p.ab = q.ab ↔ (p.i = q.i ∧ p.n = q.n ∧ p.d = q.d ∧ p.t = q.t ∧ p.s = q.s ∧ abI p.ml = abI q.ml ∧ abI p.ll = abI q.ll ∧ p.hl = q.hl ∧ p.al = q.al ∧ p.xl = q.xl ∧ p.b = q.b) := by
 unfold Pv.ab
 simp only [Pm.mk.injEq]
end Go.Proofs.Ytdpblimhfmfbnaa
