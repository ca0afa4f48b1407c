/- The contract of wide.Div: quotient and rest of a number of 128 bits, for every divisor from 1 to 2^63. -/
import Derived.Test.YtgmhalcofcokbaaFixa
import Derived.Deep.RegionHeld3
namespace Go.Proofs.Ytgmhalcofcokbaa
open Go.RowKit
set_option linter.unusedVariables false
set_option maxHeartbeats 400000 in
theorem wdiv_rest (h l b : Int) (w : World) (h0 : 0 ≤ h) (h1 : h ≤ 18446744073709551615) (l0 : 0 ≤ l) (l1 : l ≤ 18446744073709551615) (b0 : 1 ≤ b) (b1 : b ≤ 9223372036854775808) (hr : ¬ h % b = 0) :
    Calls Try.prog 47 #[.agg #[.int .u64 h, .int .u64 l], .int .u64 b] w fun e w' => e = .returned (.tuple #[.agg #[.int .u64 (Fx.dT h l / b / 18446744073709551616), .int .u64 (Fx.dT h l / b % 18446744073709551616)], .int .u64 (Fx.dT h l % b)]) ∧ Below w.heap.size w w' := by
  have hr1 : 0 ≤ h % b := Int.emod_nonneg _ (by omega)
  have hr2 : h % b < b := Int.emod_lt_of_pos _ (by omega)
  go_enter Try.func47, Try.ntmps47
  go_wp2
  go_loopw [7, 8] (fun r i wr => ∃ (k : Nat) (R Q : Int), i = .int .i64 (63 - k) ∧ r = .int .u64 R ∧ Fx.Dv (h % b) l b k R Q ∧ wr = ((w.alloc (.cells #[.int .u64 h, .int .u64 l] 65)).alloc (.cells #[.int .u64 0, .int .u64 0] 65)).alloc (.cells #[.int .u64 (h / b), .int .u64 Q] 65)) (fun _ i _ => (intOf i + 1).toNat)
  case atStart => exact ⟨0, h % b, 0, rfl, rfl, Fx.Dv.start _ _ _ hr1 hr2 l0 l1, rfl⟩
  case round =>
    obtain ⟨k, R, Q, rfl, rfl, hD, rfl⟩ := hrel
    have hk := hD.hk
    have hR := hD.R0
    have hR' := hD.R1
    have hQ := hD.Q0
    by_cases hlt : k < 64
    · have hQ' := hD.small hlt
      have ht := hD.top l0 l1 b1
      have hX : Fx.Hd (bits BinOp.or IntKind.u64 (R * 2) (bits BinOp.and IntKind.u64 (l / 2 ^ (63 - k)) 1) = 2 * R + Fx.bitAt l k) := ⟨ht.1⟩
      obtain ⟨_, t1, t2⟩ := ht
      go_wp2
      · rename_i hge
        rw [hX.out] at hge
        refine ⟨⟨k + 1, _, _, ?_, ?_, hD.more hlt l0 l1 hge, ?_⟩, by simp [intOf]; omega⟩
        · rw [show (63 : Int) - ↑k - 1 = 63 - ↑(k + 1) by omega]
        · rw [hX.out, IntWalk.u64_in _ (by omega)]
        · rw [Int.mul_comm Q 2, Fx.or_one Q 1 hQ (by omega) (by omega) (by omega)]
      · rename_i hge
        rw [hX.out] at hge
        refine ⟨⟨k + 1, _, _, ?_, ?_, hD.less hlt l0 l1 hge, ?_⟩, by simp [intOf]; omega⟩
        · rw [show (63 : Int) - ↑k - 1 = 63 - ↑(k + 1) by omega]
        · rw [hX.out]
        · rw [Int.mul_comm Q 2]
    · have e : k = 64 := by omega
      subst e
      have hd := hD.done b0
      have HD : Fx.Hd _ := ⟨hd⟩
      clear hd
      go_wp2
      obtain ⟨⟨d1, d2, d3⟩⟩ := HD
      rw [d1, d2, d3]
      refine bodyPost_ret (v := .tuple #[.agg #[.int .u64 (h / b), .int .u64 Q], .int .u64 R]) (by simp [results, Try.results47, go_sem]) rfl ⟨rfl, ?_⟩
      exact (((Below.refl _ _).alloc (Nat.le_refl _) _).alloc (by simp) _).alloc (by simp; omega) _
set_option maxHeartbeats 400000 in
theorem wdiv_even (h l b : Int) (w : World) (h0 : 0 ≤ h) (h1 : h ≤ 18446744073709551615) (l0 : 0 ≤ l) (l1 : l ≤ 18446744073709551615) (b0 : 1 ≤ b) (b1 : b ≤ 9223372036854775808) (hr : h % b = 0) :
    Calls Try.prog 47 #[.agg #[.int .u64 h, .int .u64 l], .int .u64 b] w fun e w' => e = .returned (.tuple #[.agg #[.int .u64 (Fx.dT h l / b / 18446744073709551616), .int .u64 (Fx.dT h l / b % 18446744073709551616)], .int .u64 (Fx.dT h l % b)]) ∧ Below w.heap.size w w' := by
  have HD := Fx.Hd.mk (Fx.divs0 h l b b0 l0 l1 hr)
  go_enter Try.func47, Try.ntmps47
  go_wp2
  go_region
  go_wp2
  obtain ⟨⟨d1, d2, d3⟩⟩ := HD
  rw [d1, d2, d3]
  refine bodyPost_ret (v := .tuple #[.agg #[.int .u64 (h / b), .int .u64 (l / b)], .int .u64 (l % b)]) (by simp [results, Try.results47, go_sem]) rfl ⟨rfl, ?_⟩
  exact ((((Below.refl _ _).alloc (Nat.le_refl _) _).alloc (by simp) _).alloc (by simp; omega) _).drew
end Go.Proofs.Ytgmhalcofcokbaa
