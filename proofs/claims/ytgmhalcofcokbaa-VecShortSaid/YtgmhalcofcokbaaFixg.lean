/- The contract of wide.Root: the greatest number whose square is at most a number of 128 bits. -/
import Derived.Test.YtgmhalcofcokbaaFixf
import Derived.Deep.RegionHeld3
import Derived.Deep.RegionWith
namespace Go.Proofs.Ytgmhalcofcokbaa
open Go.RowKit
set_option linter.unusedVariables false
theorem wmul_full (n h l : Int) (w : World) (hn : 0 ≤ n) (hn' : n ≤ 18446744073709551615) (e : Fx.Hd (h = n * n / 18446744073709551616 ∧ l = n * n % 18446744073709551616)) :
    Calls Try.prog 38 #[.int .u64 n, .int .u64 n] w fun e w' => e = .returned (.agg #[.int .u64 h, .int .u64 l]) ∧ Below w.heap.size w w' := by
  obtain ⟨⟨rfl, rfl⟩⟩ := e
  exact wmul_any n n w hn hn' hn hn'
theorem wless_as (a b c d : Int) (g : Bool) (w : World) (e : Fx.Hd (g = Fx.lessB a b c d)) :
    Calls Try.prog 37 #[.agg #[.int .u64 a, .int .u64 b], .agg #[.int .u64 c, .int .u64 d]] w fun e w' => e = .returned (.bool g) ∧ Below w.heap.size w w' := by
  obtain ⟨rfl⟩ := e
  exact wless_any a b c d w
set_option maxHeartbeats 400000 in
theorem root_hi (h l S : Int) (w : World) (h0 : 0 < h) (h1 : h ≤ 18446744073709551615) (l0 : 0 ≤ l) (l1 : l ≤ 18446744073709551615) (hS : Fx.IsRoot (Fx.dT h l) S) :
    Calls Try.prog 34 #[.agg #[.int .u64 h, .int .u64 l]] w fun e w' => e = .returned (.int .u64 S) ∧ Below w.heap.size w w' := by
  have HS := Fx.Hd.mk hS
  clear hS
  go_enter Try.func34, Try.ntmps34
  go_wp2
  go_loopw [4, 5] (fun r i wr => ∃ (k : Nat) (R : Int), i = .int .i64 (k - 1) ∧ r = .int .u64 R ∧ Fx.Rt (Fx.dT h l) k R ∧ Fx.Hd (Below w.heap.size w wr) ∧ w.heap.size < wr.heap.size ∧ wr.cell? ⟨w.heap.size, 0, none⟩ = some (.int .u64 h) ∧ wr.cell? ⟨w.heap.size, 1, none⟩ = some (.int .u64 l)) (fun _ i _ => (intOf i + 1).toNat)
  case atStart => exact ⟨64, 0, rfl, rfl, Fx.Rt.start64 (Fx.dT_bd h l (by omega) h1 l0 l1).1 (Fx.dT_bd h l (by omega) h1 l0 l1).2, ⟨(Below.refl _ _).alloc (Nat.le_refl _) _⟩, by simp, by go_simp, by go_simp⟩
  case round =>
    obtain ⟨k, R, rfl, rfl, hR, HB, hsz, hc0, hc1⟩ := hrel
    have hk := hR.hk
    have R0 := hR.R0
    by_cases hlt : 0 < k
    · obtain ⟨n1, n2, n3⟩ := hR.next hlt
      obtain ⟨N, hN⟩ : ∃ N, N = R + 2 ^ (k - 1) := ⟨_, rfl⟩
      rw [← hN] at n1 n2 n3
      have HN := Fx.Hd.mk hN
      clear hN
      obtain ⟨nh, hnh⟩ : ∃ nh, nh = N * N / 18446744073709551616 := ⟨_, rfl⟩
      obtain ⟨nl, hnl⟩ : ∃ nl, nl = N * N % 18446744073709551616 := ⟨_, rfl⟩
      have E := Fx.Hd.mk (And.intro hnh hnl)
      clear hnh hnl
      have hb0 := (Fx.dT_bd h l (by omega) h1 l0 l1).1
      have hl1 : Fx.dT h l / 18446744073709551616 = h := by unfold Fx.dT; omega
      have hl2 : Fx.dT h l % 18446744073709551616 = l := by unfold Fx.dT; omega
      by_cases hT : Fx.dT h l < N * N
      · have G : Fx.Hd (true = Fx.lessB h l nh nl) := ⟨by have hq := Fx.lessB_pair hb0 (Int.mul_nonneg n2 n2); rw [hl1, hl2] at hq; rw [E.out.1, E.out.2, hq]; simp [hT]⟩
        clear hl1 hl2 hb0
        have HT := Fx.Hd.mk hT
        clear hT
        go_wp2
        go_region_with (first | (go_at_call 38; refine (wmul_full N nh nl _ n2 n3 E).mono ?_; rintro e w2 ⟨rfl, hb2⟩; have c20 := (hb2.cell (p := ⟨w.heap.size, 0, none⟩) hsz).trans hc0; have c21 := (hb2.cell (p := ⟨w.heap.size, 1, none⟩) hsz).trans hc1; have s2 := hb2.size; have B2 := Fx.Hd.mk hb2; clear hb2) | (go_at_call 37; refine (wless_as h l nh nl true _ G).mono ?_; rintro e w3 ⟨rfl, hb3⟩; have s3 := hb3.size; have B3 := Fx.Hd.mk hb3; clear hb3))
        all_goals
          go_wp2
          refine ⟨⟨k - 1, R, ?_, rfl, by rw [HN.out] at HT; exact hR.no hlt HT.out, ⟨by first | exact (HB.out.trans (B2.out.mono (Nat.le_of_lt hsz))).trans (B3.out.mono (Nat.le_trans (Nat.le_of_lt hsz) s2)) | exact (HB.out.drew.trans (B2.out.mono (Nat.le_of_lt hsz))).trans (B3.out.mono (Nat.le_trans (Nat.le_of_lt hsz) s2)) | exact (HB.out.trans (B2.out.mono (Nat.le_of_lt hsz))).drew.trans (B3.out.mono (Nat.le_trans (Nat.le_of_lt hsz) s2)) | exact (HB.out.drew.trans (B2.out.mono (Nat.le_of_lt hsz))).drew.trans (B3.out.mono (Nat.le_trans (Nat.le_of_lt hsz) s2))⟩, Nat.lt_of_lt_of_le hsz (Nat.le_trans s2 s3), ?_, ?_⟩, by simp [intOf]; omega⟩
          · rw [show (k : Int) - 1 - 1 = ((k - 1 : Nat) : Int) - 1 by omega]
          · exact (B3.out.cell (p := ⟨w.heap.size, 0, none⟩) (Nat.lt_of_lt_of_le hsz s2)).trans c20
          · exact (B3.out.cell (p := ⟨w.heap.size, 1, none⟩) (Nat.lt_of_lt_of_le hsz s2)).trans c21
      · have G : Fx.Hd (false = Fx.lessB h l nh nl) := ⟨by have hq := Fx.lessB_pair hb0 (Int.mul_nonneg n2 n2); rw [hl1, hl2] at hq; rw [E.out.1, E.out.2, hq]; simp [hT]⟩
        clear hl1 hl2 hb0
        have HT := Fx.Hd.mk hT
        clear hT
        go_wp2
        go_region_with (first | (go_at_call 38; refine (wmul_full N nh nl _ n2 n3 E).mono ?_; rintro e w2 ⟨rfl, hb2⟩; have c20 := (hb2.cell (p := ⟨w.heap.size, 0, none⟩) hsz).trans hc0; have c21 := (hb2.cell (p := ⟨w.heap.size, 1, none⟩) hsz).trans hc1; have s2 := hb2.size; have B2 := Fx.Hd.mk hb2; clear hb2) | (go_at_call 37; refine (wless_as h l nh nl false _ G).mono ?_; rintro e w3 ⟨rfl, hb3⟩; have s3 := hb3.size; have B3 := Fx.Hd.mk hb3; clear hb3))
        all_goals
          go_wp2
          refine ⟨⟨k - 1, N, ?_, rfl, by have := hR.yes hlt (by rw [← HN.out]; have := HT.out; omega); rw [← HN.out] at this; exact this, ⟨by first | exact (HB.out.trans (B2.out.mono (Nat.le_of_lt hsz))).trans (B3.out.mono (Nat.le_trans (Nat.le_of_lt hsz) s2)) | exact (HB.out.drew.trans (B2.out.mono (Nat.le_of_lt hsz))).trans (B3.out.mono (Nat.le_trans (Nat.le_of_lt hsz) s2)) | exact (HB.out.trans (B2.out.mono (Nat.le_of_lt hsz))).drew.trans (B3.out.mono (Nat.le_trans (Nat.le_of_lt hsz) s2)) | exact (HB.out.drew.trans (B2.out.mono (Nat.le_of_lt hsz))).drew.trans (B3.out.mono (Nat.le_trans (Nat.le_of_lt hsz) s2))⟩, Nat.lt_of_lt_of_le hsz (Nat.le_trans s2 s3), ?_, ?_⟩, by simp [intOf]; omega⟩
          · rw [show (k : Int) - 1 - 1 = ((k - 1 : Nat) : Int) - 1 by omega]
          · exact (B3.out.cell (p := ⟨w.heap.size, 0, none⟩) (Nat.lt_of_lt_of_le hsz s2)).trans c20
          · exact (B3.out.cell (p := ⟨w.heap.size, 1, none⟩) (Nat.lt_of_lt_of_le hsz s2)).trans c21
    · have e0 : k = 0 := by omega
      subst e0
      have e1 := hR.done.uniq HS.out
      subst e1
      go_wp2
      go_ret
      exact ⟨rfl, HB.out⟩
set_option maxHeartbeats 400000 in
theorem root_lo (h l S : Int) (w : World) (h0 : h ≤ 0) (h00 : 0 ≤ h) (h1 : h ≤ 18446744073709551615) (l0 : 0 ≤ l) (l1 : l ≤ 18446744073709551615) (hS : Fx.IsRoot (Fx.dT h l) S) :
    Calls Try.prog 34 #[.agg #[.int .u64 h, .int .u64 l]] w fun e w' => e = .returned (.int .u64 S) ∧ Below w.heap.size w w' := by
  have HS := Fx.Hd.mk hS
  clear hS
  go_enter Try.func34, Try.ntmps34
  go_wp2
  go_loopw [4, 5] (fun r i wr => ∃ (k : Nat) (R : Int), i = .int .i64 (k - 1) ∧ r = .int .u64 R ∧ Fx.Rt (Fx.dT h l) k R ∧ Fx.Hd (Below w.heap.size w wr) ∧ w.heap.size < wr.heap.size ∧ wr.cell? ⟨w.heap.size, 0, none⟩ = some (.int .u64 h) ∧ wr.cell? ⟨w.heap.size, 1, none⟩ = some (.int .u64 l)) (fun _ i _ => (intOf i + 1).toNat)
  case atStart => exact ⟨32, 0, rfl, rfl, Fx.Rt.start32 (by unfold Fx.dT; omega) (by unfold Fx.dT; omega), ⟨(Below.refl _ _).alloc (Nat.le_refl _) _⟩, by simp, by go_simp, by go_simp⟩
  case round =>
    obtain ⟨k, R, rfl, rfl, hR, HB, hsz, hc0, hc1⟩ := hrel
    have hk := hR.hk
    have R0 := hR.R0
    by_cases hlt : 0 < k
    · obtain ⟨n1, n2, n3⟩ := hR.next hlt
      obtain ⟨N, hN⟩ : ∃ N, N = R + 2 ^ (k - 1) := ⟨_, rfl⟩
      rw [← hN] at n1 n2 n3
      have HN := Fx.Hd.mk hN
      clear hN
      obtain ⟨nh, hnh⟩ : ∃ nh, nh = N * N / 18446744073709551616 := ⟨_, rfl⟩
      obtain ⟨nl, hnl⟩ : ∃ nl, nl = N * N % 18446744073709551616 := ⟨_, rfl⟩
      have E := Fx.Hd.mk (And.intro hnh hnl)
      clear hnh hnl
      have hb0 := (Fx.dT_bd h l (by omega) h1 l0 l1).1
      have hl1 : Fx.dT h l / 18446744073709551616 = h := by unfold Fx.dT; omega
      have hl2 : Fx.dT h l % 18446744073709551616 = l := by unfold Fx.dT; omega
      by_cases hT : Fx.dT h l < N * N
      · have G : Fx.Hd (true = Fx.lessB h l nh nl) := ⟨by have hq := Fx.lessB_pair hb0 (Int.mul_nonneg n2 n2); rw [hl1, hl2] at hq; rw [E.out.1, E.out.2, hq]; simp [hT]⟩
        clear hl1 hl2 hb0
        have HT := Fx.Hd.mk hT
        clear hT
        go_wp2
        go_region_with (first | (go_at_call 38; refine (wmul_full N nh nl _ n2 n3 E).mono ?_; rintro e w2 ⟨rfl, hb2⟩; have c20 := (hb2.cell (p := ⟨w.heap.size, 0, none⟩) hsz).trans hc0; have c21 := (hb2.cell (p := ⟨w.heap.size, 1, none⟩) hsz).trans hc1; have s2 := hb2.size; have B2 := Fx.Hd.mk hb2; clear hb2) | (go_at_call 37; refine (wless_as h l nh nl true _ G).mono ?_; rintro e w3 ⟨rfl, hb3⟩; have s3 := hb3.size; have B3 := Fx.Hd.mk hb3; clear hb3))
        all_goals
          go_wp2
          refine ⟨⟨k - 1, R, ?_, rfl, by rw [HN.out] at HT; exact hR.no hlt HT.out, ⟨by first | exact (HB.out.trans (B2.out.mono (Nat.le_of_lt hsz))).trans (B3.out.mono (Nat.le_trans (Nat.le_of_lt hsz) s2)) | exact (HB.out.drew.trans (B2.out.mono (Nat.le_of_lt hsz))).trans (B3.out.mono (Nat.le_trans (Nat.le_of_lt hsz) s2)) | exact (HB.out.trans (B2.out.mono (Nat.le_of_lt hsz))).drew.trans (B3.out.mono (Nat.le_trans (Nat.le_of_lt hsz) s2)) | exact (HB.out.drew.trans (B2.out.mono (Nat.le_of_lt hsz))).drew.trans (B3.out.mono (Nat.le_trans (Nat.le_of_lt hsz) s2))⟩, Nat.lt_of_lt_of_le hsz (Nat.le_trans s2 s3), ?_, ?_⟩, by simp [intOf]; omega⟩
          · rw [show (k : Int) - 1 - 1 = ((k - 1 : Nat) : Int) - 1 by omega]
          · exact (B3.out.cell (p := ⟨w.heap.size, 0, none⟩) (Nat.lt_of_lt_of_le hsz s2)).trans c20
          · exact (B3.out.cell (p := ⟨w.heap.size, 1, none⟩) (Nat.lt_of_lt_of_le hsz s2)).trans c21
      · have G : Fx.Hd (false = Fx.lessB h l nh nl) := ⟨by have hq := Fx.lessB_pair hb0 (Int.mul_nonneg n2 n2); rw [hl1, hl2] at hq; rw [E.out.1, E.out.2, hq]; simp [hT]⟩
        clear hl1 hl2 hb0
        have HT := Fx.Hd.mk hT
        clear hT
        go_wp2
        go_region_with (first | (go_at_call 38; refine (wmul_full N nh nl _ n2 n3 E).mono ?_; rintro e w2 ⟨rfl, hb2⟩; have c20 := (hb2.cell (p := ⟨w.heap.size, 0, none⟩) hsz).trans hc0; have c21 := (hb2.cell (p := ⟨w.heap.size, 1, none⟩) hsz).trans hc1; have s2 := hb2.size; have B2 := Fx.Hd.mk hb2; clear hb2) | (go_at_call 37; refine (wless_as h l nh nl false _ G).mono ?_; rintro e w3 ⟨rfl, hb3⟩; have s3 := hb3.size; have B3 := Fx.Hd.mk hb3; clear hb3))
        all_goals
          go_wp2
          refine ⟨⟨k - 1, N, ?_, rfl, by have := hR.yes hlt (by rw [← HN.out]; have := HT.out; omega); rw [← HN.out] at this; exact this, ⟨by first | exact (HB.out.trans (B2.out.mono (Nat.le_of_lt hsz))).trans (B3.out.mono (Nat.le_trans (Nat.le_of_lt hsz) s2)) | exact (HB.out.drew.trans (B2.out.mono (Nat.le_of_lt hsz))).trans (B3.out.mono (Nat.le_trans (Nat.le_of_lt hsz) s2)) | exact (HB.out.trans (B2.out.mono (Nat.le_of_lt hsz))).drew.trans (B3.out.mono (Nat.le_trans (Nat.le_of_lt hsz) s2)) | exact (HB.out.drew.trans (B2.out.mono (Nat.le_of_lt hsz))).drew.trans (B3.out.mono (Nat.le_trans (Nat.le_of_lt hsz) s2))⟩, Nat.lt_of_lt_of_le hsz (Nat.le_trans s2 s3), ?_, ?_⟩, by simp [intOf]; omega⟩
          · rw [show (k : Int) - 1 - 1 = ((k - 1 : Nat) : Int) - 1 by omega]
          · exact (B3.out.cell (p := ⟨w.heap.size, 0, none⟩) (Nat.lt_of_lt_of_le hsz s2)).trans c20
          · exact (B3.out.cell (p := ⟨w.heap.size, 1, none⟩) (Nat.lt_of_lt_of_le hsz s2)).trans c21
    · have e0 : k = 0 := by omega
      subst e0
      have e1 := hR.done.uniq HS.out
      subst e1
      go_wp2
      go_ret
      exact ⟨rfl, HB.out⟩
theorem root_any (h l S : Int) (w : World) (h0 : 0 ≤ h) (h1 : h ≤ 18446744073709551615) (l0 : 0 ≤ l) (l1 : l ≤ 18446744073709551615) (hS : Fx.IsRoot (Fx.dT h l) S) :
    Calls Try.prog 34 #[.agg #[.int .u64 h, .int .u64 l]] w fun e w' => e = .returned (.int .u64 S) ∧ Below w.heap.size w w' := by
  by_cases hc : 0 < h
  · exact root_hi h l S w hc h1 l0 l1 hS
  · exact root_lo h l S w (by omega) h0 h1 l0 l1 hS
end Go.Proofs.Ytgmhalcofcokbaa
