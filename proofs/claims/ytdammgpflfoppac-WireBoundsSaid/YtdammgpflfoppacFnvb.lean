/- Layer 3: sums by another name. -/
import Derived.Test.YtdammgpflfoppacFnva
import Derived.StillTailTactics
namespace Go.Proofs.Ytdammgpflfoppac
open Go.RowKit
set_option linter.unusedVariables false
theorem By.cut {w : World} {B n c k b off : Nat} {xs : List Int} (h : By w B (some ⟨b, off, none⟩) n xs) (hk : k ≤ n) (hc : n ≤ c) : By w B (if c = k then some ⟨b, off, none⟩ else some ⟨b, off + k, none⟩) (n - k) (xs.drop k) := by
  by_cases h1 : c = k
  · have hl := h.len
    rw [List.drop_of_length_le (by omega), show n - k = 0 by omega]; exact By.nil _ _ _
  · rw [if_neg h1]; exact h.tail hk
end Go.Proofs.Ytdammgpflfoppac
