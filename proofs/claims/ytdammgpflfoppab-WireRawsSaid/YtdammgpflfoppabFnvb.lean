/- Layer 3: sums by another name. -/
import Derived.Test.YtdammgpflfoppabFnva
import Derived.StillTailTactics
namespace Go.Proofs.Ytdammgpflfoppab
open Go.RowKit
set_option linter.unusedVariables false
theorem sum_as (s : Int) (a : Option Addr) (n c : Nat) (xs : List Int) (r : Int) (w : World) (h : By w w.heap.size a n xs) (hn : n ≤ 1099511627776) (hr : Hk (Fn.sumS s xs = r)) :
    Calls Try.prog 29 #[.int .u64 s, .slice a n c] w fun e w' => e = .returned (.int .u64 r) ∧ ∃ m, w' = w.drewN m := by
  rw [← hr.out]; exact sum_q s a n c xs w h hn
theorem By.cut {w : World} {B n c k b off : Nat} {xs : List Int} (h : By w B (some ⟨b, off, none⟩) n xs) (hk : k ≤ n) (hc : n ≤ c) : By w B (if c = k then some ⟨b, off, none⟩ else some ⟨b, off + k, none⟩) (n - k) (xs.drop k) := by
  by_cases h1 : c = k
  · have hl := h.len
    rw [List.drop_of_length_le (by omega), show n - k = 0 by omega]; exact By.nil _ _ _
  · rw [if_neg h1]; exact h.tail hk
theorem within_eq (i n r : Int) (w : World) (hi : -9223372036854775808 ≤ i ∧ i ≤ 9223372036854775807) (hn : 1 ≤ n) (hn2 : n ≤ 1099511627776) (h : Hk (Fn.wiS i n = r)) :
    Calls Try.prog 34 #[.int .i64 i, .int .i64 n] w fun e w' => e = .returned (.int .i64 r) ∧ w = w' := by
  have hb := Fn.wi_bd i hn
  have e1 : (IntKind.u64.wrap i).tmod n = Fn.wiS i n := by
    rw [Fn.wrapu, Int.tmod_eq_emod_of_nonneg (by omega)]; rfl
  have E : Hk (wrap64 ((IntKind.u64.wrap i).tmod n) = r) := ⟨by rw [e1, h.out] at *; unfold wrap64; omega⟩
  clear e1 hb
  obtain ⟨i0, i1⟩ := hi
  have hn0 : (n == 0) = false := by simp; omega
  go_enter Try.func34, Try.ntmps34
  go_wp2
  go_ret
  exact ⟨ri E.out, rfl⟩
theorem within_still (i n r : Int) (w : World) (hi : -9223372036854775808 ≤ i ∧ i ≤ 9223372036854775807) (hn : 1 ≤ n) (hn2 : n ≤ 1099511627776) (h : Hk (Fn.wiS i n = r)) :
    Calls Try.prog 34 #[.int .i64 i, .int .i64 n] w fun e w' => e = .returned (.int .i64 r) ∧ w' = w := (within_eq i n r w hi hn hn2 h).mono fun e w' ⟨h1, h2⟩ => ⟨h1, h2.symm⟩
end Go.Proofs.Ytdammgpflfoppab
