/- Layer 3: what each function answers. -/
import Derived.Test.YtmkehmeoglpkeaaBya
namespace Go.Proofs.Ytmkehmeoglpkeaa
open Go.RowKit
set_option linter.unusedVariables false
theorem sum_any (s : Int) (a : Option Addr) (n c : Nat) (xs : List Int) (w : World) (h : By w w.heap.size a n xs) (hn : n ≤ 1099511627776) :
    Calls Try.prog 46 #[.int .u64 s, .slice a n c] w fun e w' => e = .returned (.int .u64 (Fn.sumS s xs)) ∧ w = w' := by
  have H := Hk.mk h
  clear h
  go_enter Try.func46, Try.ntmps46
  go_wp2
  go_loop [0, 9] (fun v i => ∃ k : Nat, k ≤ n ∧ i = .int .i64 k ∧ v = .int .u64 (Fn.sumS s (xs.take k))) (fun _ i => n - (intOf i).toNat)
  case atStart => exact ⟨0, Nat.zero_le _, rfl, rfl⟩
  case round =>
    obtain ⟨k, hk, rfl, rfl⟩ := hrel
    by_cases hlt : k < n
    · obtain ⟨b, off, rfl, hbl, hc⟩ := H.out.at_ (by omega)
      have hcx := hc k hlt
      have hb := H.out.bd hlt
      have HS := Hk.mk (Fn.sum_take (s := s) (l := xs) (k := k) (by rw [H.out.len]; exact hlt))
      clear hc
      obtain ⟨x, hx⟩ : ∃ x, xs.getD k 0 = x := ⟨_, rfl⟩
      rw [hx] at hcx hb HS
      clear hx
      go_wp2
      go_round
      case rel => exact ⟨k + 1, by omega, by go_num, by rw [HS.out]; rfl⟩
      case measure => simp [intOf]; omega
    · have hkn : k = n := by omega
      subst hkn
      go_wp2
      go_ret
      exact ⟨ri (congrArg (Fn.sumS s) (List.take_of_length_le (by rw [H.out.len]; omega))), rfl⟩
theorem rsum_any (s : Int) (a : Option Addr) (n c : Nat) (xs : List Int) (w : World) (h : By w w.heap.size a n xs) (hn : n ≤ 1099511627776) :
    Calls Try.prog 27 #[.int .u64 s, .slice a n c] w fun e w' => e = .returned (.int .u64 (Fn.sumS s xs)) ∧ w = w' := by
  have H := Hk.mk h
  clear h
  go_enter Try.func27, Try.ntmps27
  go_wp2
  go_loop [0, 5] (fun v i => ∃ k : Nat, k ≤ n ∧ i = .int .i64 k ∧ v = .int .u64 (Fn.sumS s (xs.take k))) (fun _ i => n - (intOf i).toNat)
  case atStart => exact ⟨0, Nat.zero_le _, rfl, rfl⟩
  case round =>
    obtain ⟨k, hk, rfl, rfl⟩ := hrel
    by_cases hlt : k < n
    · obtain ⟨b, off, rfl, hbl, hc⟩ := H.out.at_ (by omega)
      have hcx := hc k hlt
      have hb := H.out.bd hlt
      have HS := Hk.mk (Fn.sum_take (s := s) (l := xs) (k := k) (by rw [H.out.len]; exact hlt))
      clear hc
      obtain ⟨x, hx⟩ : ∃ x, xs.getD k 0 = x := ⟨_, rfl⟩
      rw [hx] at hcx hb HS
      clear hx
      go_wp2
      go_round
      case rel => exact ⟨k + 1, by omega, by go_num, by rw [HS.out]; rfl⟩
      case measure => simp [intOf]; omega
    · have hkn : k = n := by omega
      subst hkn
      go_wp2
      go_ret
      exact ⟨ri (congrArg (Fn.sumS s) (List.take_of_length_le (by rw [H.out.len]; omega))), rfl⟩
theorem sum_q (s : Int) (a : Option Addr) (n c : Nat) (xs : List Int) (w : World) (h : By w w.heap.size a n xs) (hn : n ≤ 1099511627776) :
    Calls Try.prog 46 #[.int .u64 s, .slice a n c] w fun e w' => e = .returned (.int .u64 (Fn.sumS s xs)) ∧ ∃ m, w' = w.drewN m := (sum_any s a n c xs w h hn).mono fun e w' ⟨h1, h2⟩ => ⟨h1, 0, h2.symm⟩
theorem rsum_q (s : Int) (a : Option Addr) (n c : Nat) (xs : List Int) (w : World) (h : By w w.heap.size a n xs) (hn : n ≤ 1099511627776) :
    Calls Try.prog 27 #[.int .u64 s, .slice a n c] w fun e w' => e = .returned (.int .u64 (Fn.sumS s xs)) ∧ ∃ m, w' = w.drewN m := (rsum_any s a n c xs w h hn).mono fun e w' ⟨h1, h2⟩ => ⟨h1, 0, h2.symm⟩
theorem start_any (w : World) : Calls Try.prog 45 #[] w fun e w' => e = .returned (.int .u64 14695981039346656037) ∧ w = w' := by
  go_enter Try.func45, Try.ntmps45
  go_wp2
  go_ret
  exact ⟨rfl, rfl⟩
end Go.Proofs.Ytmkehmeoglpkeaa
