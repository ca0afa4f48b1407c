/- The contract of the reference's root: the greatest number up to a bound whose square is at most a number of 128 bits. -/
import Derived.Test.YtgmhalcofcokbaaFixf
import Derived.Deep.RegionWith
namespace Go.Proofs.Ytgmhalcofcokbaa
open Go.RowKit
set_option linter.unusedVariables false
theorem times_full (n h l : Int) (w : World) (hn : 0 ≤ n) (hn' : n ≤ 18446744073709551615) (e : Fx.Hd (h = n * n / 18446744073709551616 ∧ l = n * n % 18446744073709551616)) :
    Calls Try.prog 45 #[.int .u64 n, .int .u64 n] w fun e w' => e = .returned (.agg #[.int .u64 h, .int .u64 l]) ∧ Below w.heap.size w w' := by
  obtain ⟨⟨rfl, rfl⟩⟩ := e
  exact times_any n n w hn hn' hn hn'
theorem rless_as (a b c d : Int) (g : Bool) (w : World) (e : Fx.Hd (g = Fx.lessB a b c d)) :
    Calls Try.prog 44 #[.agg #[.int .u64 a, .int .u64 b], .agg #[.int .u64 c, .int .u64 d]] w fun e w' => e = .returned (.bool g) ∧ Below w.heap.size w w' := by
  obtain ⟨rfl⟩ := e
  exact rless_any a b c d w
set_option maxHeartbeats 400000 in
theorem rroot_any (h l m S : Int) (w : World) (h0 : 0 ≤ h) (h1 : h ≤ 18446744073709551615) (l0 : 0 ≤ l) (l1 : l ≤ 18446744073709551615) (m0 : 0 ≤ m) (m1 : m ≤ 9223372036854775807) (hS : Fx.IsRoot (Fx.dT h l) S) (hm : S ≤ m) :
    Calls Try.prog 39 #[.agg #[.int .u64 h, .int .u64 l], .int .u64 m] w fun e w' => e = .returned (.int .u64 S) ∧ Below w.heap.size w w' := by
  have HS := Fx.Hd.mk hS
  have S0 := hS.R0
  clear hS
  go_enter Try.func39, Try.ntmps39
  go_wp2
  go_loopw [5, 6] (fun x y wr => ∃ A B : Int, x = .int .u64 A ∧ y = .int .u64 B ∧ 0 ≤ A ∧ A ≤ S ∧ S ≤ B ∧ B ≤ 9223372036854775807 ∧ Fx.Hd (Below w.heap.size w wr) ∧ w.heap.size < wr.heap.size ∧ wr.cell? ⟨w.heap.size, 0, none⟩ = some (.int .u64 h) ∧ wr.cell? ⟨w.heap.size, 1, none⟩ = some (.int .u64 l)) (fun x y _ => (intOf y - intOf x).toNat)
  case atStart => exact ⟨0, m, rfl, rfl, by omega, S0, hm, m1, ⟨(Below.refl _ _).alloc (Nat.le_refl _) _⟩, by simp, by go_simp, by go_simp⟩
  case round =>
    obtain ⟨A, B, rfl, rfl, A0, AS, SB, B1, HB, hsz, hc0, hc1⟩ := hrel
    by_cases hlt : A < B
    · obtain ⟨N, hN⟩ : ∃ N, A + (B - A + 1) / 2 = N := ⟨_, rfl⟩
      have n2 : 0 ≤ N := by omega
      have n3 : N ≤ 18446744073709551615 := by omega
      have nA : A < N := by omega
      have nB : N ≤ B := by omega
      obtain ⟨nh, hnh⟩ : ∃ nh, nh = N * N / 18446744073709551616 := ⟨_, rfl⟩
      obtain ⟨nl, hnl⟩ : ∃ nl, nl = N * N % 18446744073709551616 := ⟨_, rfl⟩
      have E := Fx.Hd.mk (And.intro hnh hnl)
      clear hnh hnl
      have hb0 := (Fx.dT_bd h l (by omega) h1 l0 l1).1
      have hl1 : Fx.dT h l / 18446744073709551616 = h := by unfold Fx.dT; omega
      have hl2 : Fx.dT h l % 18446744073709551616 = l := by unfold Fx.dT; omega
      by_cases hT : Fx.dT h l < N * N
      · have G : Fx.Hd (true = Fx.lessB h l nh nl) := ⟨by have hq := Fx.lessB_pair hb0 (Int.mul_nonneg n2 n2); rw [hl1, hl2] at hq; rw [E.out.1, E.out.2, hq]; simp [hT]⟩
        clear hl1 hl2 hb0
        have I := Fx.root_lt HS.out n2 hT
        clear hT
        go_wp2
        go_region_with (first | (go_at_call 45; refine (times_full N nh nl _ n2 n3 E).mono ?_; rintro e w2 ⟨rfl, hb2⟩; have c20 := (hb2.cell (p := ⟨w.heap.size, 0, none⟩) hsz).trans hc0; have c21 := (hb2.cell (p := ⟨w.heap.size, 1, none⟩) hsz).trans hc1; have s2 := hb2.size; have B2 := Fx.Hd.mk hb2; clear hb2) | (go_at_call 44; refine (rless_as h l nh nl true _ G).mono ?_; rintro e w3 ⟨rfl, hb3⟩; have s3 := hb3.size; have B3 := Fx.Hd.mk hb3; clear hb3))
        all_goals
          go_wp2
          refine ⟨⟨A, (N - 1), rfl, rfl, by omega, by omega, by omega, by omega, ⟨by first | exact (HB.out.trans (B2.out.mono (Nat.le_of_lt hsz))).trans (B3.out.mono (Nat.le_trans (Nat.le_of_lt hsz) s2)) | exact (HB.out.drew.trans (B2.out.mono (Nat.le_of_lt hsz))).trans (B3.out.mono (Nat.le_trans (Nat.le_of_lt hsz) s2)) | exact (HB.out.trans (B2.out.mono (Nat.le_of_lt hsz))).drew.trans (B3.out.mono (Nat.le_trans (Nat.le_of_lt hsz) s2)) | exact (HB.out.drew.trans (B2.out.mono (Nat.le_of_lt hsz))).drew.trans (B3.out.mono (Nat.le_trans (Nat.le_of_lt hsz) s2))⟩, Nat.lt_of_lt_of_le hsz (Nat.le_trans s2 s3), ?_, ?_⟩, by simp [intOf]; omega⟩
          · exact (B3.out.cell (p := ⟨w.heap.size, 0, none⟩) (Nat.lt_of_lt_of_le hsz s2)).trans c20
          · exact (B3.out.cell (p := ⟨w.heap.size, 1, none⟩) (Nat.lt_of_lt_of_le hsz s2)).trans c21
      · have G : Fx.Hd (false = Fx.lessB h l nh nl) := ⟨by have hq := Fx.lessB_pair hb0 (Int.mul_nonneg n2 n2); rw [hl1, hl2] at hq; rw [E.out.1, E.out.2, hq]; simp [hT]⟩
        clear hl1 hl2 hb0
        have I := Fx.root_ge HS.out n2 hT
        clear hT
        go_wp2
        go_region_with (first | (go_at_call 45; refine (times_full N nh nl _ n2 n3 E).mono ?_; rintro e w2 ⟨rfl, hb2⟩; have c20 := (hb2.cell (p := ⟨w.heap.size, 0, none⟩) hsz).trans hc0; have c21 := (hb2.cell (p := ⟨w.heap.size, 1, none⟩) hsz).trans hc1; have s2 := hb2.size; have B2 := Fx.Hd.mk hb2; clear hb2) | (go_at_call 44; refine (rless_as h l nh nl false _ G).mono ?_; rintro e w3 ⟨rfl, hb3⟩; have s3 := hb3.size; have B3 := Fx.Hd.mk hb3; clear hb3))
        all_goals
          go_wp2
          refine ⟨⟨N, B, rfl, rfl, by omega, by omega, by omega, by omega, ⟨by first | exact (HB.out.trans (B2.out.mono (Nat.le_of_lt hsz))).trans (B3.out.mono (Nat.le_trans (Nat.le_of_lt hsz) s2)) | exact (HB.out.drew.trans (B2.out.mono (Nat.le_of_lt hsz))).trans (B3.out.mono (Nat.le_trans (Nat.le_of_lt hsz) s2)) | exact (HB.out.trans (B2.out.mono (Nat.le_of_lt hsz))).drew.trans (B3.out.mono (Nat.le_trans (Nat.le_of_lt hsz) s2)) | exact (HB.out.drew.trans (B2.out.mono (Nat.le_of_lt hsz))).drew.trans (B3.out.mono (Nat.le_trans (Nat.le_of_lt hsz) s2))⟩, Nat.lt_of_lt_of_le hsz (Nat.le_trans s2 s3), ?_, ?_⟩, by simp [intOf]; omega⟩
          · exact (B3.out.cell (p := ⟨w.heap.size, 0, none⟩) (Nat.lt_of_lt_of_le hsz s2)).trans c20
          · exact (B3.out.cell (p := ⟨w.heap.size, 1, none⟩) (Nat.lt_of_lt_of_le hsz s2)).trans c21
    · have e1 : A = S := by omega
      subst e1
      go_wp2
      go_ret
      exact ⟨rfl, HB.out⟩
end Go.Proofs.Ytgmhalcofcokbaa
