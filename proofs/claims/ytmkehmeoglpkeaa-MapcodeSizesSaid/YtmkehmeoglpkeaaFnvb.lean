/- Layer 3: sums by another name. -/
import Derived.Test.YtmkehmeoglpkeaaFnva
import Derived.StillTailTactics
namespace Go.Proofs.Ytmkehmeoglpkeaa
open Go.RowKit
set_option linter.unusedVariables false
theorem sum_as (s : Int) (a : Option Addr) (n c : Nat) (xs : List Int) (r : Int) (w : World) (h : By w w.heap.size a n xs) (hn : n ≤ 1099511627776) (hr : Hk (Fn.sumS s xs = r)) :
    Calls Try.prog 46 #[.int .u64 s, .slice a n c] w fun e w' => e = .returned (.int .u64 r) ∧ ∃ m, w' = w.drewN m := by
  rw [← hr.out]; exact sum_q s a n c xs w h hn
theorem By.cut {w : World} {B n c k b off : Nat} {xs : List Int} (h : By w B (some ⟨b, off, none⟩) n xs) (hk : k ≤ n) (hc : n ≤ c) : By w B (if c = k then some ⟨b, off, none⟩ else some ⟨b, off + k, none⟩) (n - k) (xs.drop k) := by
  by_cases h1 : c = k
  · have hl := h.len
    rw [List.drop_of_length_le (by omega), show n - k = 0 by omega]; exact By.nil _ _ _
  · rw [if_neg h1]; exact h.tail hk
end Go.Proofs.Ytmkehmeoglpkeaa
