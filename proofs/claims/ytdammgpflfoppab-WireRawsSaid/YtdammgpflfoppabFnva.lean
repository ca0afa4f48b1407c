/- Layer 3: what each function answers. -/
import Derived.Test.YtdammgpflfoppabBya
namespace Go.Proofs.Ytdammgpflfoppab
open Go.RowKit
set_option linter.unusedVariables false
theorem sum_any (s : Int) (a : Option Addr) (n c : Nat) (xs : List Int) (w : World) (h : By w w.heap.size a n xs) (hn : n ≤ 1099511627776) :
    Calls Try.prog 29 #[.int .u64 s, .slice a n c] w fun e w' => e = .returned (.int .u64 (Fn.sumS s xs)) ∧ w = w' := by
  have H := Hk.mk h
  clear h
  go_enter Try.func29, Try.ntmps29
  go_wp2
  go_loop [0, 9] (fun v i => ∃ k : Nat, k ≤ n ∧ i = .int .i64 k ∧ v = .int .u64 (Fn.sumS s (xs.take k))) (fun _ i => n - (intOf i).toNat)
  case atStart => exact ⟨0, Nat.zero_le _, rfl, rfl⟩
  case round =>
    obtain ⟨k, hk, rfl, rfl⟩ := hrel
    by_cases hlt : k < n
    · obtain ⟨b, off, rfl, hbl, hc⟩ := H.out.at_ (by omega)
      have hcx := hc k hlt
      have hb := H.out.bd hlt
      have HS := Hk.mk (Fn.sum_take (s := s) (l := xs) (k := k) (by rw [H.out.len]; exact hlt))
      clear hc
      obtain ⟨x, hx⟩ : ∃ x, xs.getD k 0 = x := ⟨_, rfl⟩
      rw [hx] at hcx hb HS
      clear hx
      go_wp2
      go_round
      case rel => exact ⟨k + 1, by omega, by go_num, by rw [HS.out]; rfl⟩
      case measure => simp [intOf]; omega
    · have hkn : k = n := by omega
      subst hkn
      go_wp2
      go_ret
      exact ⟨ri (congrArg (Fn.sumS s) (List.take_of_length_le (by rw [H.out.len]; omega))), rfl⟩
theorem rsum_any (s : Int) (a : Option Addr) (n c : Nat) (xs : List Int) (w : World) (h : By w w.heap.size a n xs) (hn : n ≤ 1099511627776) :
    Calls Try.prog 30 #[.int .u64 s, .slice a n c] w fun e w' => e = .returned (.int .u64 (Fn.sumS s xs)) ∧ w = w' := by
  have H := Hk.mk h
  clear h
  go_enter Try.func30, Try.ntmps30
  go_wp2
  go_loop [0, 5] (fun v i => ∃ k : Nat, k ≤ n ∧ i = .int .i64 k ∧ v = .int .u64 (Fn.sumS s (xs.take k))) (fun _ i => n - (intOf i).toNat)
  case atStart => exact ⟨0, Nat.zero_le _, rfl, rfl⟩
  case round =>
    obtain ⟨k, hk, rfl, rfl⟩ := hrel
    by_cases hlt : k < n
    · obtain ⟨b, off, rfl, hbl, hc⟩ := H.out.at_ (by omega)
      have hcx := hc k hlt
      have hb := H.out.bd hlt
      have HS := Hk.mk (Fn.sum_take (s := s) (l := xs) (k := k) (by rw [H.out.len]; exact hlt))
      clear hc
      obtain ⟨x, hx⟩ : ∃ x, xs.getD k 0 = x := ⟨_, rfl⟩
      rw [hx] at hcx hb HS
      clear hx
      go_wp2
      go_round
      case rel => exact ⟨k + 1, by omega, by go_num, by rw [HS.out]; rfl⟩
      case measure => simp [intOf]; omega
    · have hkn : k = n := by omega
      subst hkn
      go_wp2
      go_ret
      exact ⟨ri (congrArg (Fn.sumS s) (List.take_of_length_le (by rw [H.out.len]; omega))), rfl⟩
theorem sum_q (s : Int) (a : Option Addr) (n c : Nat) (xs : List Int) (w : World) (h : By w w.heap.size a n xs) (hn : n ≤ 1099511627776) :
    Calls Try.prog 29 #[.int .u64 s, .slice a n c] w fun e w' => e = .returned (.int .u64 (Fn.sumS s xs)) ∧ ∃ m, w' = w.drewN m := (sum_any s a n c xs w h hn).mono fun e w' ⟨h1, h2⟩ => ⟨h1, 0, h2.symm⟩
theorem rsum_q (s : Int) (a : Option Addr) (n c : Nat) (xs : List Int) (w : World) (h : By w w.heap.size a n xs) (hn : n ≤ 1099511627776) :
    Calls Try.prog 30 #[.int .u64 s, .slice a n c] w fun e w' => e = .returned (.int .u64 (Fn.sumS s xs)) ∧ ∃ m, w' = w.drewN m := (rsum_any s a n c xs w h hn).mono fun e w' ⟨h1, h2⟩ => ⟨h1, 0, h2.symm⟩
theorem within_as (i n r : Int) (w : World) (hi : -9223372036854775808 ≤ i ∧ i ≤ 9223372036854775807) (hn : 1 ≤ n) (hn2 : n ≤ 1099511627776) (h : Hk (Fn.wiS i n = r)) :
    Calls Try.prog 34 #[.int .i64 i, .int .i64 n] w fun e w' => e = .returned (.int .i64 r) ∧ ∃ m, w' = w.drewN m := by
  have hb := Fn.wi_bd i hn
  have e1 : (IntKind.u64.wrap i).tmod n = Fn.wiS i n := by
    rw [Fn.wrapu, Int.tmod_eq_emod_of_nonneg (by omega)]; rfl
  have E : Hk (wrap64 ((IntKind.u64.wrap i).tmod n) = r) := ⟨by rw [e1, h.out] at *; unfold wrap64; omega⟩
  clear e1 hb
  obtain ⟨i0, i1⟩ := hi
  have hn0 : (n == 0) = false := by simp; omega
  go_enter Try.func34, Try.ntmps34
  go_wp2
  go_ret
  exact ⟨ri E.out, 0, rfl⟩
theorem start_any (w : World) : Calls Try.prog 32 #[] w fun e w' => e = .returned (.int .u64 14695981039346656037) ∧ w = w' := by
  go_enter Try.func32, Try.ntmps32
  go_wp2
  go_ret
  exact ⟨rfl, rfl⟩
theorem wakes3_any (w : World) : Calls Try.prog 33 #[] w fun e w' => e = .returned (.bool true) ∧ Below w.heap.size w w' := by
  have hb := By.lit w [97] 5 (1, 2) (w.heap.size + 1) 1 rfl (by intro b hb; simp at hb; subst hb; unfold Fn.Byt; omega) (by omega)
  have hs : Fn.sumS 14695981039346656037 [97] = 12638187200555641996 := by decide +kernel
  have HS := Hk.mk hs
  have HB := Hk.mk hb
  clear hs hb
  have kc := fun (w : World) (C : Array Value) (n c : Nat) => Lib.run_convert_bytes_const (P := Try.prog) w 39 5 C n c Try.underlying39 Try.underlying5
  go_enter Try.func33, Try.ntmps33
  go_wp2_with (first | (go_at_call 32; refine (start_any _).mono ?_; rintro e w' ⟨rfl, rfl⟩) | (go_at_call 29; refine (sum_any _ _ 1 1 [97] _ ?_ (by omega)).mono ?_; (first | exact HB.out | (go_simp; exact HB.out)); rw [HS.out]; rintro e w' ⟨rfl, rfl⟩))
  go_ret
  exact ⟨rfl, (Below.refl _ _).alloc (Nat.le_refl _) _⟩
end Go.Proofs.Ytdammgpflfoppab
