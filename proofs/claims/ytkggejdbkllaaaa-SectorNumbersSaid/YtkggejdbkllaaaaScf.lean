/- Layer 10: numbers compared; wakes. -/
import Derived.Test.YtkggejdbkllaaaaSce
import Derived.Test.YtkggejdbkllaaaaVq
import Derived.Deep.QuietTactic
import Derived.BigQuiet
namespace Go.Proofs.Ytkggejdbkllaaaa
open Go.RowKit
set_option linter.unusedVariables false
theorem eqn_yes (a a' : Option Addr) (n c c' B B' : Nat) (xs : List Int) (w : World) (h : Nq w B a n xs) (h' : Nq w B' a' n xs) (hn : n ≤ 1099511627776) :
    Calls Try.prog 22 #[.slice a n c, .slice a' n c'] w fun e w' => e = .returned (.bool true) ∧ ∃ m, w' = w.drewN m := by
  have H := Hk.mk h
  have H' := Hk.mk h'
  clear h h'
  go_enter Try.func22, Try.ntmps22
  go_wp2
  go_loopw [5] (fun i wr => ∃ k : Nat, k ≤ n ∧ i = .int .i64 k ∧ Hk (∃ m, wr = w.drewN m)) (fun i _ => n - (intOf i).toNat)
  case atStart => exact ⟨0, Nat.zero_le _, rfl, ⟨0, rfl⟩⟩
  case round =>
    obtain ⟨k, hk, rfl, HB⟩ := hrel
    by_cases hlt : k < n
    · obtain ⟨b, off, rfl, hbl, hc⟩ := H.out.rd (by omega)
      obtain ⟨b', off', rfl, hbl', hc'⟩ := H'.out.rd (by omega)
      have hcx : wr.cell? ⟨b, off + k, none⟩ = some (.int .i64 (xs.getD k 0)) := by obtain ⟨m, rfl⟩ := HB.out; exact hc k hlt
      have hcy : wr.cell? ⟨b', off' + k, none⟩ = some (.int .i64 (xs.getD k 0)) := by obtain ⟨m, rfl⟩ := HB.out; exact hc' k hlt
      clear hc hc'
      generalize xs.getD k 0 = x at *
      have i1 : (0 : Int) ≤ (k : Int) := by omega
      have i2 : (k : Int) < (n : Int) := by omega
      go_wp2
      go_quiet (fail)
      go_wp2
      go_roundw
      case rel => exact ⟨k + 1, by omega, by go_num, ⟨by obtain ⟨m, rfl⟩ := HB.out; exact ⟨_, by rw [World.drewN_drewN]⟩⟩⟩
      case measure => simp [intOf]; omega
    · have hkn : k = n := by omega
      subst hkn
      go_wp2
      go_ret
      exact ⟨rfl, HB.out⟩
theorem num10_any (x : Int) (w : World) : Calls Try.prog 14 #[.int .i64 x] w fun e w' => e = .returned (.int .i64 x) ∧ w = w' := by
  go_enter Try.func14, Try.ntmps14
  go_wp2
  go_ret
  exact ⟨rfl, rfl⟩
theorem nq_two (w : World) (G : Nat) (B : Nat) (hG : G < B) (g0 : w.cell? ⟨G, 0, none⟩ = some (.int .i64 0)) (g1 : w.cell? ⟨G, 1, none⟩ = some (.int .i64 0)) : Nq w B (some ⟨G, 0, none⟩) 2 [0, 0] := ⟨rfl, fun _ => ⟨G, 0, rfl, hG, fun k hk => by
  match k, hk with
  | 0, _ => exact g0
  | 1, _ => exact g1⟩⟩
set_option maxHeartbeats 1600000 in
theorem wakes10_any (w : World) : Calls Try.prog 17 #[] w fun e w' => e = .returned (.bool true) ∧ Below w.heap.size w w' := by
  have hb0 : Below w.heap.size w (w.alloc (.cells #[.bool true, .bool true] 4)) := (Below.refl _ _).alloc (Nat.le_refl _) _
  have f0 : (w.alloc (.cells #[.bool true, .bool true] 4)).cell? ⟨w.heap.size, 0, none⟩ = some (.bool true) := by go_simp
  have f1 : (w.alloc (.cells #[.bool true, .bool true] 4)).cell? ⟨w.heap.size, 1, none⟩ = some (.bool true) := by go_simp
  go_enter Try.func17, Try.ntmps17
  go_wp2_with (first | (go_at_call 21; (with_reducible refine (parts10 w.heap.size _ f0 f1).mono ?_); rintro e w1 ⟨G, rfl, g0, g1, hb1⟩; have HB1 := Hk.mk (hb0.trans (hb1.mono (by simp))); clear hb1 hb0 f0 f1; have hG : G < w1.heap.size := World.block_lt_of_cell? _ _ g0) | (go_at_call 14; (with_reducible refine (num10_any _ _).mono ?_); rintro e w' ⟨rfl, rfl⟩) | (go_at_call 22; go_must (refine (eqn_yes (some ⟨G, 0, none⟩) (some ⟨w1.heap.size, 0, none⟩) 2 2 2 (w1.heap.size + 1) (w1.heap.size + 1) [0, 0] _ (nq_two _ G _ (by omega) ?_ ?_) (nq_two _ _ _ (by omega) (by go_simp) (by go_simp)) (by omega)).mono ?_); (exact ((((Below.refl _ _).alloc (Nat.le_refl _) _).cell (p := ⟨G, 0, none⟩) hG).trans g0)); (exact ((((Below.refl _ _).alloc (Nat.le_refl _) _).cell (p := ⟨G, 1, none⟩) hG).trans g1)); rintro e w4 ⟨rfl, m4, rfl⟩))
  go_ret
  exact ⟨rfl, below_drewN (HB1.out.alloc HB1.out.size _) _⟩
end Go.Proofs.Ytkggejdbkllaaaa
