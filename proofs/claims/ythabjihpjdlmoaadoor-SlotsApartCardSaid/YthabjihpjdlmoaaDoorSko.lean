import Derived.Deep.QuietTactic
import Derived.BigQuiet
import Derived.Deep.RegionWith
import Derived.Deep.RegionHeld3
import Derived.Deep.DeepCutAuto
import Derived.Deep.DeepFit
import Derived.Outline
import Derived.Test.YthabjihpjdlmoaaDoorSkl
import Derived.Test.YthabjihpjdlmoaaDoorSkn
/- Layer 12: the argument of its statements; wakes. -/
namespace Go.Proofs.YthabjihpjdlmoaaDoor
open Go.ChangeShapes Go.WideShapes Go.ChangeAt Go.RowKit Go.Deep
set_option linter.unusedVariables false
set_option linter.unusedSimpArgs false
/-- A list of acts: what, a key, a value. -/
def Aq (w : World) (B : Nat) (a : Option Addr) (n : Nat) (D : Nat → Int) (L : Nat → PrQ) : Prop :=
  ∀ k, k < n → ∃ b off, a = some ⟨b, off, none⟩ ∧ b < B ∧ Fx.I64 (D k) ∧ w.cell? ⟨b, off + k * 3, none⟩ = some (.int .i64 (D k)) ∧ w.cell? ⟨b, off + k * 3 + 1, none⟩ = some (.int .i64 (L k).1) ∧ w.cell? ⟨b, off + k * 3 + 2, none⟩ = some (.int .i64 (L k).2)
def Asks12 (w : World) (a : Option Addr) (len cap : Nat) : Prop := len ≤ cap ∧ cap ≤ 9223372036854775807 ∧ ∃ D L, Aq w w.heap.size a len D L
theorem Hq.bel {w w' : World} {base Q n c : Nat} {a : Option Addr} {F : Nat → PrQ} (h : Hq w base Q a n c F) (hf : Fr (MQ Q a) w w') : Below base w w' := by
  refine hf.below (by have := h.bs; have := h.lt; omega) (fun j hj hm => ?_)
  rcases hm with e | ⟨ad, e, e2⟩
  · have := h.bs; omega
  · rcases h.row.2 with ⟨e3, _⟩ | ⟨g, cap, cur, e3, hg, _⟩
    · injection e3 with e3
      rw [e3] at e; cases e
    · injection e3 with e3
      rw [e3] at e
      injection e with e
      subst e
      simp only at e2
      omega
theorem qpush_at (base Q n c : Nat) (a : Option Addr) (F : Nat → PrQ) (k v : Int) (p : PrQ) (E : Hk (p = (k, v))) (w : World) (h : Hq w base Q a n c F) (hp : HpQ F n) (hn : n ≤ 200000000000) :
    Calls Tryd.prog 91 #[.pointer (some ⟨Q, 0, none⟩), .int .i64 k, .int .i64 v] w fun e w' => e = .returned (.tuple #[]) ∧ ∃ g c' G, PushQ w w' base Q a n F p g c' G := by
  have := E.out
  subst this
  exact qpush_any base Q n c a F (k, v) w h hp hn
theorem three_min {G : Nat → PrQ} (hp : HpQ G 3) (hc : ∀ x, cntQ G x 3 = (if ((2, 1) : PrQ) = x then 1 else 0) + (if ((1, 9) : PrQ) = x then 1 else 0) + (if ((1, 3) : PrQ) = x then 1 else 0)) : G 0 = (1, 3) := by
  have h1 : 0 < cntQ G (1, 3) 3 := by rw [hc]; simp
  obtain ⟨k, hk, e⟩ := cntQ_pos h1
  have h2 := hp.min k hk
  rw [e] at h2
  have h3 := cntQ_has (F := G) (k := 0) (n := 3) (by omega)
  rw [hc] at h3
  by_cases c1 : ((2, 1) : PrQ) = G 0
  · rw [← c1] at h2; exact absurd h2 (by unfold leQ ltQ; decide)
  by_cases c2 : ((1, 9) : PrQ) = G 0
  · rw [← c2] at h2; exact absurd h2 (by unfold leQ ltQ; decide)
  by_cases c3 : ((1, 3) : PrQ) = G 0
  · exact c3.symm
  · rw [if_neg c1, if_neg c2, if_neg c3] at h3; omega
end Go.Proofs.YthabjihpjdlmoaaDoor
