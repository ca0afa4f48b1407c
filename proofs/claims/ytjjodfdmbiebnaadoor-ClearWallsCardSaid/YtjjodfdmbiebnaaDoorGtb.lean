/- Layer 6: whether a number is in a list (the reference's In), for GroundBack. -/
import Derived.Test.YtjjodfdmbiebnaaDoorGrl
namespace Go.Proofs.YtjjodfdmbiebnaaDoor
open Go.RowKit
set_option linter.unusedVariables false
theorem dropg {xs : List Int} {k : Nat} (h : k < xs.length) : xs.drop k = xs.getD k 0 :: xs.drop (k + 1) := by
  rw [List.drop_eq_getElem_cons h]; simp [List.getD, List.getElem?_eq_getElem h]
set_option maxRecDepth 100000 in
theorem in_as (r : Bool) (N : Int) (a : Option Addr) (n c : Nat) (xs : List Int) (w : World) (h : Nq w w.heap.size a n xs) (hn : n ≤ 1099511627776) (E : Hk (decide (N ∈ xs) = r)) :
    Calls Tryd.prog 21 #[.slice a n c, .int .i64 N] w fun e w' => (∃ v : Int, e = .returned (.int .i64 v) ∧ decide (v < 0) = (!r) ∧ decide (0 ≤ v) = r) ∧ w = w' := by
  have H := Hk.mk h
  clear h
  go_enter Tryd.func21, Tryd.ntmps21
  go_wp2
  go_loop [5] (fun i => ∃ (k : Nat), i = .int .i64 k ∧ k ≤ n ∧ Hk (decide (N ∈ xs.drop k) = r)) (fun i => n - (intOf i).toNat)
  case atStart => exact ⟨0, rfl, Nat.zero_le _, ⟨by simpa using E.out⟩⟩
  case round =>
    obtain ⟨k, rfl, hk, HR⟩ := hrel
    by_cases hlt : k < n
    · obtain ⟨b, off, rfl, hbl, hc⟩ := H.out.rd (by omega)
      have hcx := hc k hlt
      clear hc
      have hr := HR.out
      rw [dropg (by rw [H.out.len]; exact hlt)] at hr
      generalize xs.getD k 0 = y at *
      have i1 : (0 : Int) ≤ (k : Int) := by omega
      have i2 : (k : Int) < (n : Int) := by omega
      by_cases q1 : y = N
      · have R : Hk (true = r) := ⟨by rw [← hr]; simp [q1]⟩
        clear hr
        subst q1
        go_wp2
        go_ret
        exact ⟨⟨_, rfl, by rw [← R.out]; simp, by rw [← R.out]; simp⟩, rfl⟩
      · have b1 : (y == N) = false := by simp [q1]
        have R : Hk (decide (N ∈ xs.drop (k + 1)) = r) := ⟨by rw [← hr]; simp [Ne.symm q1]⟩
        clear hr
        go_wp2
        go_round
        case rel => exact ⟨k + 1, by go_num, by omega, R⟩
        case measure => simp [intOf]; omega
    · have hkn : k = n := by omega
      subst hkn
      have R : Hk (false = r) := ⟨by have := HR.out; rw [List.drop_of_length_le (by rw [H.out.len]; omega)] at this; simpa using this⟩
      go_wp2
      go_ret
      exact ⟨⟨_, rfl, by rw [← R.out]; rfl, by rw [← R.out]; rfl⟩, rfl⟩
end Go.Proofs.YtjjodfdmbiebnaaDoor
