/- Layer 4: an append inside a region that leaves its order open; bytes with their number ahead, written out. -/
import Derived.Test.YtmkehmeoglpkeaaWire
import Derived.Test.YtmkehmeoglpkeaaBye
namespace Go.Proofs.Ytmkehmeoglpkeaa
open Go.RowKit
set_option linter.unusedVariables false
theorem OwnB.cap {w : World} {base n c : Nat} {a : Option Addr} {xs : List Int} (h : OwnB w base (.slice a n c) n xs) : c ≤ 9223372036854775807 := by
  rcases h.2.2.2 with ⟨e, _⟩ | ⟨g, cap, cur, e, _, _, _, hm, _⟩
  · injection e with _ _ e; omega
  · injection e with _ _ e; unfold maxLen at hm; omega
theorem rawN_le {xs : List Int} (hx : ∀ b ∈ xs, Fn.Byt b) (h : rawErr xs = 0) : rawN xs ≤ 1048576 := by
  obtain ⟨N, K, E, HS, _, _, hc⟩ := raw_cases xs hx
  have e : rawN xs = N := by unfold rawN; rw [HS.out]; rfl
  rw [e]
  rcases hc with ⟨he, h2⟩ | ⟨rfl, h1, h3, h2⟩ | ⟨rfl, h1, h3, h4, h2⟩ | ⟨rfl, h1, h3, h4, h2⟩ <;> omega
end Go.Proofs.Ytmkehmeoglpkeaa
