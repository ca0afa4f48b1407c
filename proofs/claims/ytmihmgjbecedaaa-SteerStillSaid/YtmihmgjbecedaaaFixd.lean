/- The contracts of the reference's division of a number of 128 bits (Over) and of its end (signed). -/
import Derived.Test.YtmihmgjbecedaaaFixb
namespace Go.Proofs.Ytmihmgjbecedaaa
open Go.RowKit
set_option linter.unusedVariables false
set_option maxHeartbeats 800000 in
theorem over_any (h l b : Int) (w : World) (h0 : 0 ≤ h) (h1 : h ≤ 18446744073709551615) (l0 : 0 ≤ l) (l1 : l ≤ 18446744073709551615) (b0 : 1 ≤ b) (b1 : b ≤ 9223372036854775808) :
    Calls Try.prog 51 #[.agg #[.int .u64 h, .int .u64 l], .int .u64 b] w fun e w' => e = .returned (.tuple #[.int .u64 (Fx.ovQ (Fx.dT h l) b), .bool (decide (0 < Fx.dT h l % b))]) ∧ Below w.heap.size w w' := by
  go_enter Try.func51, Try.ntmps51
  go_wp2
  go_loop [6, 7, 8, 9] (fun q r g i => ∃ (k : Nat) (R Q : Int), i = .int .i64 (127 - k) ∧ r = .int .u64 R ∧ q = .int .u64 (Q % 18446744073709551616) ∧ g = .bool (decide (18446744073709551616 ≤ Q)) ∧ Fx.Ov (Fx.dT h l) b k R Q) (fun _ _ _ i => (intOf i + 1).toNat)
  case atStart => exact ⟨0, 0, 0, rfl, rfl, rfl, rfl, Fx.Ov.start h l b h0 h1 l0 l1 b0⟩
  case round =>
    obtain ⟨k, R, Q, rfl, rfl, rfl, rfl, hO⟩ := hrel
    have hk := hO.hk
    have hR := hO.R0
    have hR' := hO.R1
    have hQ := hO.Q0
    have hov : (R / 9223372036854775808 == 1) = false := by simp; omega
    have hcl : (63 - 0 : Nat) = 63 := rfl
    clear hcl
    by_cases hlt : k < 64
    · have hB := Fx.obit_bd (Fx.dT h l) k
      have hX : Fx.Hd (bits BinOp.or IntKind.u64 (R * 2) (bits BinOp.and IntKind.u64 (h / 2 ^ ((127 - k) % 64)) 1) = 2 * R + Fx.obit (Fx.dT h l) k) := ⟨by rw [Fx.obit_hi h l k hlt h0 h1 l0 l1]; exact hO.top b1⟩
      go_wp2
      all_goals
        rename_i hg hge
        rw [hX.out] at hge
        refine ⟨?_, by simp [intOf]; omega⟩
        first
          | refine ⟨k + 1, _, _, ?_, ?_, ?_, ?_, hO.more (by omega) (by first | exact hge | (rcases hge with hge | hge; (exact absurd hge (by rw [hov]; decide)); exact hge))⟩
          | refine ⟨k + 1, _, _, ?_, ?_, ?_, ?_, hO.less (by omega) (by first | exact hge | exact hge.2)⟩
        · rw [show (127 : Int) - ↑k - 1 = 127 - ↑(k + 1) by omega]
        · first | rw [hX.out, IntWalk.u64_in _ (by omega)] | rw [hX.out]
        · first | rw [Fx.shl_one_mod] | rw [Fx.shl_mod]
        · congr 1 <;> (first | rfl | (simp at hg; simp <;> omega))
    · by_cases hlt2 : k < 128
      · have hB := Fx.obit_bd (Fx.dT h l) k
        have hX : Fx.Hd (bits BinOp.or IntKind.u64 (R * 2) (bits BinOp.and IntKind.u64 (l / 2 ^ ((127 - k) % 64)) 1) = 2 * R + Fx.obit (Fx.dT h l) k) := ⟨by rw [Fx.obit_lo h l k hlt hlt2 l0 l1]; exact hO.top b1⟩
        go_wp2
        all_goals
          rename_i hg hge
          rw [hX.out] at hge
          refine ⟨?_, by simp [intOf]; omega⟩
          first
            | refine ⟨k + 1, _, _, ?_, ?_, ?_, ?_, hO.more (by omega) (by first | exact hge | (rcases hge with hge | hge; (exact absurd hge (by rw [hov]; decide)); exact hge))⟩
            | refine ⟨k + 1, _, _, ?_, ?_, ?_, ?_, hO.less (by omega) (by first | exact hge | exact hge.2)⟩
          · rw [show (127 : Int) - ↑k - 1 = 127 - ↑(k + 1) by omega]
          · first | rw [hX.out, IntWalk.u64_in _ (by omega)] | rw [hX.out]
          · first | rw [Fx.shl_one_mod] | rw [Fx.shl_mod]
          · congr 1 <;> (first | rfl | (simp at hg; simp <;> omega))
      · have e : k = 128 := by omega
        subst e
        have HD := Fx.Hd.mk (hO.done b0)
        go_wp2
        all_goals
          obtain ⟨⟨d1, d2⟩⟩ := HD
          go_ret2
          refine ⟨?_, (Below.refl _ _).alloc (Nat.le_refl _) _⟩
          unfold Fx.ovQ
          rw [d1, d2]
          first | (rw [if_pos (by assumption)]; rfl) | (rw [if_neg (by omega), show Q = Q % 18446744073709551616 by omega, Int.emod_emod_of_dvd _ (Int.dvd_refl _)]; rfl) | (rw [if_neg (by omega)]; rfl)
theorem signed_any (q : Int) (n l : Bool) (w : World) (q0 : 0 ≤ q) (q1 : q ≤ 18446744073709551615) :
    Calls Try.prog 52 #[.int .u64 q, .bool n, .bool l] w fun e w' => e = .returned (.int .i64 (Fx.sgS q n l)) ∧ w = w' := by
  cases n <;> cases l
  all_goals
    go_enter Try.func52, Try.ntmps52
    go_wp2
  all_goals
    go_ret
    exact ⟨Fx.ri (by simp [Fx.sgS, Fx.Most] <;> omega), rfl⟩
end Go.Proofs.Ytmihmgjbecedaaa
