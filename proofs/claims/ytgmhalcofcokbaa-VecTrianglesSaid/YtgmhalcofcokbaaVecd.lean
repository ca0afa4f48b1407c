/- The contracts of the reference's root up to a bound, and of the squares of a way. -/
import Derived.Test.YtgmhalcofcokbaaVecc
import Derived.Test.YtgmhalcofcokbaaVeca
import Derived.Test.YtgmhalcofcokbaaVecb
import Derived.Test.YtgmhalcofcokbaaFt
namespace Go.Proofs.Ytgmhalcofcokbaa
open Go.RowKit
set_option linter.unusedVariables false
set_option maxHeartbeats 400000 in
theorem rroot_upto (h l m S : Int) (w : World) (h0 : 0 ≤ h) (h1 : h ≤ 18446744073709551615) (l0 : 0 ≤ l) (l1 : l ≤ 18446744073709551615) (m0 : 0 ≤ m) (m1 : m ≤ 9223372036854775807) (hS : Fx.IsRootUpto (Fx.dT h l) m S) :
    Calls Try.prog 39 #[.agg #[.int .u64 h, .int .u64 l], .int .u64 m] w fun e w' => e = .returned (.int .u64 S) ∧ Below w.heap.size w w' := by
  have HS := Fx.Hd.mk hS
  have S0 := hS.R0
  have hm := hS.top
  clear hS
  go_enter Try.func39, Try.ntmps39
  go_wp2
  go_loopw [5, 6] (fun x y wr => ∃ A B : Int, x = .int .u64 A ∧ y = .int .u64 B ∧ 0 ≤ A ∧ A ≤ S ∧ S ≤ B ∧ B ≤ m ∧ Fx.Hd (Below w.heap.size w wr) ∧ w.heap.size < wr.heap.size ∧ wr.cell? ⟨w.heap.size, 0, none⟩ = some (.int .u64 h) ∧ wr.cell? ⟨w.heap.size, 1, none⟩ = some (.int .u64 l)) (fun x y _ => (intOf y - intOf x).toNat)
  case atStart => exact ⟨0, m, rfl, rfl, by omega, S0, hm, Int.le_refl _, ⟨(Below.refl _ _).alloc (Nat.le_refl _) _⟩, by simp, by go_simp, by go_simp⟩
  case round =>
    obtain ⟨A, B, rfl, rfl, A0, AS, SB, B1, HB, hsz, hc0, hc1⟩ := hrel
    by_cases hlt : A < B
    · obtain ⟨N, hN⟩ : ∃ N, A + (B - A + 1) / 2 = N := ⟨_, rfl⟩
      have n2 : 0 ≤ N := by omega
      have n3 : N ≤ 18446744073709551615 := by omega
      have nA : A < N := by omega
      have nB : N ≤ B := by omega
      obtain ⟨nh, hnh⟩ : ∃ nh, nh = N * N / 18446744073709551616 := ⟨_, rfl⟩
      obtain ⟨nl, hnl⟩ : ∃ nl, nl = N * N % 18446744073709551616 := ⟨_, rfl⟩
      have E := Fx.Hd.mk (And.intro hnh hnl)
      clear hnh hnl
      have hb0 := (Fx.dT_bd h l (by omega) h1 l0 l1).1
      have hl1 : Fx.dT h l / 18446744073709551616 = h := by unfold Fx.dT; omega
      have hl2 : Fx.dT h l % 18446744073709551616 = l := by unfold Fx.dT; omega
      by_cases hT : Fx.dT h l < N * N
      · have G : Fx.Hd (true = Fx.lessB h l nh nl) := ⟨by have hq := Fx.lessB_pair hb0 (Int.mul_nonneg n2 n2); rw [hl1, hl2] at hq; rw [E.out.1, E.out.2, hq]; simp [hT]⟩
        clear hl1 hl2 hb0
        have I := Fx.upto_lt HS.out n2 hT
        clear hT
        go_wp2
        go_region_with (first | (go_at_call 45; refine (times_full N nh nl _ n2 n3 E).mono ?_; rintro e w2 ⟨rfl, hb2⟩; have c20 := (hb2.cell (p := ⟨w.heap.size, 0, none⟩) hsz).trans hc0; have c21 := (hb2.cell (p := ⟨w.heap.size, 1, none⟩) hsz).trans hc1; have s2 := hb2.size; have B2 := Fx.Hd.mk hb2; clear hb2) | (go_at_call 44; refine (rless_as h l nh nl true _ G).mono ?_; rintro e w3 ⟨rfl, hb3⟩; have s3 := hb3.size; have B3 := Fx.Hd.mk hb3; clear hb3))
        all_goals
          go_wp2
          refine ⟨⟨A, (N - 1), rfl, rfl, by omega, by omega, by omega, by omega, ⟨by first | exact (HB.out.trans (B2.out.mono (Nat.le_of_lt hsz))).trans (B3.out.mono (Nat.le_trans (Nat.le_of_lt hsz) s2)) | exact (HB.out.drew.trans (B2.out.mono (Nat.le_of_lt hsz))).trans (B3.out.mono (Nat.le_trans (Nat.le_of_lt hsz) s2)) | exact (HB.out.trans (B2.out.mono (Nat.le_of_lt hsz))).drew.trans (B3.out.mono (Nat.le_trans (Nat.le_of_lt hsz) s2)) | exact (HB.out.drew.trans (B2.out.mono (Nat.le_of_lt hsz))).drew.trans (B3.out.mono (Nat.le_trans (Nat.le_of_lt hsz) s2))⟩, Nat.lt_of_lt_of_le hsz (Nat.le_trans s2 s3), ?_, ?_⟩, by simp [intOf]; omega⟩
          · exact (B3.out.cell (p := ⟨w.heap.size, 0, none⟩) (Nat.lt_of_lt_of_le hsz s2)).trans c20
          · exact (B3.out.cell (p := ⟨w.heap.size, 1, none⟩) (Nat.lt_of_lt_of_le hsz s2)).trans c21
      · have G : Fx.Hd (false = Fx.lessB h l nh nl) := ⟨by have hq := Fx.lessB_pair hb0 (Int.mul_nonneg n2 n2); rw [hl1, hl2] at hq; rw [E.out.1, E.out.2, hq]; simp [hT]⟩
        clear hl1 hl2 hb0
        have I := Fx.upto_ge HS.out n2 nB B1 hT
        clear hT
        go_wp2
        go_region_with (first | (go_at_call 45; refine (times_full N nh nl _ n2 n3 E).mono ?_; rintro e w2 ⟨rfl, hb2⟩; have c20 := (hb2.cell (p := ⟨w.heap.size, 0, none⟩) hsz).trans hc0; have c21 := (hb2.cell (p := ⟨w.heap.size, 1, none⟩) hsz).trans hc1; have s2 := hb2.size; have B2 := Fx.Hd.mk hb2; clear hb2) | (go_at_call 44; refine (rless_as h l nh nl false _ G).mono ?_; rintro e w3 ⟨rfl, hb3⟩; have s3 := hb3.size; have B3 := Fx.Hd.mk hb3; clear hb3))
        all_goals
          go_wp2
          refine ⟨⟨N, B, rfl, rfl, by omega, by omega, by omega, by omega, ⟨by first | exact (HB.out.trans (B2.out.mono (Nat.le_of_lt hsz))).trans (B3.out.mono (Nat.le_trans (Nat.le_of_lt hsz) s2)) | exact (HB.out.drew.trans (B2.out.mono (Nat.le_of_lt hsz))).trans (B3.out.mono (Nat.le_trans (Nat.le_of_lt hsz) s2)) | exact (HB.out.trans (B2.out.mono (Nat.le_of_lt hsz))).drew.trans (B3.out.mono (Nat.le_trans (Nat.le_of_lt hsz) s2)) | exact (HB.out.drew.trans (B2.out.mono (Nat.le_of_lt hsz))).drew.trans (B3.out.mono (Nat.le_trans (Nat.le_of_lt hsz) s2))⟩, Nat.lt_of_lt_of_le hsz (Nat.le_trans s2 s3), ?_, ?_⟩, by simp [intOf]; omega⟩
          · exact (B3.out.cell (p := ⟨w.heap.size, 0, none⟩) (Nat.lt_of_lt_of_le hsz s2)).trans c20
          · exact (B3.out.cell (p := ⟨w.heap.size, 1, none⟩) (Nat.lt_of_lt_of_le hsz s2)).trans c21
    · have e1 : A = S := by omega
      subst e1
      go_wp2
      go_ret
      exact ⟨rfl, HB.out⟩
theorem rplus_any (a b c d : Int) (w : World) (ha : 0 ≤ a) (hb : 0 ≤ b) (hc : 0 ≤ c) (hd : 0 ≤ d) (hb' : b ≤ 18446744073709551615) (hd' : d ≤ 18446744073709551615) (hs : a + c < 18446744073709551615) :
    Calls Try.prog 52 #[.agg #[.int .u64 a, .int .u64 b], .agg #[.int .u64 c, .int .u64 d]] w fun e w' => e = .returned (.agg #[.int .u64 (a + c + (b + d) / 18446744073709551616), .int .u64 ((b + d) % 18446744073709551616)]) ∧ Below w.heap.size w w' := by
  go_enter Try.func52, Try.ntmps52
  go_wp2
  · rename_i hl
    refine bodyPost_ret (v := .agg #[.int .u64 (a + c + 1), .int .u64 (IntKind.u64.wrap (b + d))]) (by simp [results, Try.results52, go_sem]) rfl ⟨?_, ?_⟩
    · rw [Fx.wrapu] at hl ⊢
      rw [show a + c + (b + d) / 18446744073709551616 = a + c + 1 by omega]
    · exact ((((Below.refl _ _).alloc (Nat.le_refl _) _).alloc (by simp) _).alloc (by simp; omega) _).alloc (by simp; omega) _
  · rename_i hl
    refine bodyPost_ret (v := .agg #[.int .u64 (a + c), .int .u64 (IntKind.u64.wrap (b + d))]) (by simp [results, Try.results52, go_sem]) rfl ⟨?_, ?_⟩
    · rw [Fx.wrapu] at hl ⊢
      rw [show a + c + (b + d) / 18446744073709551616 = a + c by omega]
    · exact ((((Below.refl _ _).alloc (Nat.le_refl _) _).alloc (by simp) _).alloc (by simp; omega) _).alloc (by simp; omega) _
theorem wadd_sq (a b c d x y h l : Int) (w : World) (hx : Fx.Hd (0 ≤ x ∧ x ≤ 85070591730234615847396907784232501249)) (hy : Fx.Hd (0 ≤ y ∧ y ≤ 85070591730234615847396907784232501249))
    (e1 : Fx.Hd (a = x / 18446744073709551616 ∧ b = x % 18446744073709551616)) (e2 : Fx.Hd (c = y / 18446744073709551616 ∧ d = y % 18446744073709551616)) (e : Fx.Hd (h = (x + y) / 18446744073709551616 ∧ l = (x + y) % 18446744073709551616)) :
    Calls Try.prog 49 #[.agg #[.int .u64 a, .int .u64 b], .agg #[.int .u64 c, .int .u64 d]] w fun e w' => e = .returned (.agg #[.int .u64 h, .int .u64 l]) ∧ Below w.heap.size w w' := by
  obtain ⟨⟨rfl, rfl⟩⟩ := e1
  obtain ⟨⟨rfl, rfl⟩⟩ := e2
  obtain ⟨⟨rfl, rfl⟩⟩ := e
  obtain ⟨hx⟩ := hx
  obtain ⟨hy⟩ := hy
  have hp := Fx.SQ_parts x y hx.1 hy.1
  have := wadd_any (x / 18446744073709551616) (x % 18446744073709551616) (y / 18446744073709551616) (y % 18446744073709551616) w (by omega) (by omega) (by omega) (by omega) (by omega) (by omega) (by omega)
  rw [hp.1, hp.2] at this
  exact this
theorem rplus_sq (a b c d x y h l : Int) (w : World) (hx : Fx.Hd (0 ≤ x ∧ x ≤ 85070591730234615847396907784232501249)) (hy : Fx.Hd (0 ≤ y ∧ y ≤ 85070591730234615847396907784232501249))
    (e1 : Fx.Hd (a = x / 18446744073709551616 ∧ b = x % 18446744073709551616)) (e2 : Fx.Hd (c = y / 18446744073709551616 ∧ d = y % 18446744073709551616)) (e : Fx.Hd (h = (x + y) / 18446744073709551616 ∧ l = (x + y) % 18446744073709551616)) :
    Calls Try.prog 52 #[.agg #[.int .u64 a, .int .u64 b], .agg #[.int .u64 c, .int .u64 d]] w fun e w' => e = .returned (.agg #[.int .u64 h, .int .u64 l]) ∧ Below w.heap.size w w' := by
  obtain ⟨⟨rfl, rfl⟩⟩ := e1
  obtain ⟨⟨rfl, rfl⟩⟩ := e2
  obtain ⟨⟨rfl, rfl⟩⟩ := e
  obtain ⟨hx⟩ := hx
  obtain ⟨hy⟩ := hy
  have hp := Fx.SQ_parts x y hx.1 hy.1
  have := rplus_any (x / 18446744073709551616) (x % 18446744073709551616) (y / 18446744073709551616) (y % 18446744073709551616) w (by omega) (by omega) (by omega) (by omega) (by omega) (by omega) (by omega)
  rw [hp.1, hp.2] at this
  exact this
set_option maxHeartbeats 400000 in
theorem square_core (a b xh xl yh yl h l : Int) (w : World) (ha : Fx.I64 a) (hb : Fx.I64 b)
    (e1 : Fx.Hd (xh = Fx.sz a * Fx.sz a / 18446744073709551616 ∧ xl = Fx.sz a * Fx.sz a % 18446744073709551616)) (e2 : Fx.Hd (yh = Fx.sz b * Fx.sz b / 18446744073709551616 ∧ yl = Fx.sz b * Fx.sz b % 18446744073709551616))
    (e : Fx.Hd (h = (Fx.sz a * Fx.sz a + Fx.sz b * Fx.sz b) / 18446744073709551616 ∧ l = (Fx.sz a * Fx.sz a + Fx.sz b * Fx.sz b) % 18446744073709551616)) :
    Calls Try.prog 35 #[.agg #[.int .i64 a, .int .i64 b]] w fun e w' => e = .returned (.agg #[.int .u64 h, .int .u64 l]) ∧ Below w.heap.size w w' := by
  have k0 := Kept.start w (.int .i64 a) (.int .i64 b) (.int .u64 0) (.int .u64 0) 24 65
  have sa := Fx.sz_bd ha
  have sb := Fx.sz_bd hb
  have P1 := Fx.Hd.mk (Fx.prod_bd sa sa)
  have P2 := Fx.Hd.mk (Fx.prod_bd sb sb)
  go_enter Try.func35, Try.ntmps35
  go_wp2
  generalize (w.alloc (.cells #[.int .i64 a, .int .i64 b] 24)).alloc (.cells #[.int .u64 0, .int .u64 0] 65) = W at *
  have c0 := k0.c0
  have c1 := k0.c1
  go_region_held3 (fun w' => w'.cell? ⟨w.heap.size, 0, none⟩ = some (.int .i64 a) ∧ w'.cell? ⟨w.heap.size, 1, none⟩ = some (.int .i64 b)) (first | exact ⟨c0, c1⟩ | go_keep)
    (first | (go_at_call 48; refine (vsize_any _ _ (by assumption)).mono ?_; rintro e w' ⟨rfl, rfl⟩))
  replace k0 := k0.drew
  generalize W.drew = W2 at *
  clear c0 c1
  have e10 := k0.d0
  have e11 := k0.d1
  have e12 := k0.f0
  have e13 := k0.f1
  have e14 := k0.c0
  have e15 := k0.c1
  have K := Fx.Hd.mk k0
  clear k0
  go_wp2_with (first | (go_at_call 38; (first | (with_reducible refine (heldV (wmul_as (Fx.sz a) (Fx.sz a) xh xl _ sa sa e1) K).mono ?_) | (with_reducible refine (heldV (wmul_as (Fx.sz b) (Fx.sz b) yh yl _ sb sb e2) K).mono ?_)); clear K e10 e11 e12 e13 e14 e15; rintro e w2 ⟨rfl, K, e14, e15, e10, e11, e12, e13⟩) | (go_at_call 49; (with_reducible refine (heldV (wadd_sq xh xl yh yl _ _ h l _ P1 P2 e1 e2 e) K).mono ?_); clear K e10 e11 e12 e13 e14 e15; rintro e w2 ⟨rfl, K, e14, e15, e10, e11, e12, e13⟩))
  refine bodyPost_ret (v := .agg #[.int .u64 h, .int .u64 l]) (by simp [results, Try.results35, go_sem, e10, e11]) rfl ⟨rfl, ?_⟩
  exact (K.out.hB.setCell (by simp) _).setCell (by simp) _
set_option maxHeartbeats 400000 in
theorem squares_core (a b xh xl yh yl h l : Int) (w : World) (ha : Fx.I64 a) (hb : Fx.I64 b)
    (e1 : Fx.Hd (xh = Fx.sz a * Fx.sz a / 18446744073709551616 ∧ xl = Fx.sz a * Fx.sz a % 18446744073709551616)) (e2 : Fx.Hd (yh = Fx.sz b * Fx.sz b / 18446744073709551616 ∧ yl = Fx.sz b * Fx.sz b % 18446744073709551616))
    (e : Fx.Hd (h = (Fx.sz a * Fx.sz a + Fx.sz b * Fx.sz b) / 18446744073709551616 ∧ l = (Fx.sz a * Fx.sz a + Fx.sz b * Fx.sz b) % 18446744073709551616)) :
    Calls Try.prog 40 #[.agg #[.int .i64 a, .int .i64 b]] w fun e w' => e = .returned (.agg #[.int .u64 h, .int .u64 l]) ∧ Below w.heap.size w w' := by
  have k0 := Kept.start w (.int .i64 a) (.int .i64 b) (.int .u64 0) (.int .u64 0) 24 71
  have sa := Fx.sz_bd ha
  have sb := Fx.sz_bd hb
  have P1 := Fx.Hd.mk (Fx.prod_bd sa sa)
  have P2 := Fx.Hd.mk (Fx.prod_bd sb sb)
  go_enter Try.func40, Try.ntmps40
  go_wp2
  generalize (w.alloc (.cells #[.int .i64 a, .int .i64 b] 24)).alloc (.cells #[.int .u64 0, .int .u64 0] 71) = W at *
  have c0 := k0.c0
  have c1 := k0.c1
  go_region_held3 (fun w' => w'.cell? ⟨w.heap.size, 0, none⟩ = some (.int .i64 a) ∧ w'.cell? ⟨w.heap.size, 1, none⟩ = some (.int .i64 b)) (first | exact ⟨c0, c1⟩ | go_keep)
    (first | (go_at_call 43; refine (of_any _ _ (by assumption)).mono ?_; rintro e w' ⟨rfl, rfl⟩) | (go_at_call 51; refine (rsize_of _ _ (by assumption)).mono ?_; rintro e w' ⟨rfl, rfl⟩))
  replace k0 := k0.drew
  generalize W.drew = W2 at *
  clear c0 c1
  have e10 := k0.d0
  have e11 := k0.d1
  have e12 := k0.f0
  have e13 := k0.f1
  have e14 := k0.c0
  have e15 := k0.c1
  have K := Fx.Hd.mk k0
  clear k0
  go_wp2_with (first | (go_at_call 45; (first | (with_reducible refine (heldV (times_as (Fx.sz a) (Fx.sz a) xh xl _ sa sa e1) K).mono ?_) | (with_reducible refine (heldV (times_as (Fx.sz b) (Fx.sz b) yh yl _ sb sb e2) K).mono ?_)); clear K e10 e11 e12 e13 e14 e15; rintro e w2 ⟨rfl, K, e14, e15, e10, e11, e12, e13⟩) | (go_at_call 52; (with_reducible refine (heldV (rplus_sq xh xl yh yl _ _ h l _ P1 P2 e1 e2 e) K).mono ?_); clear K e10 e11 e12 e13 e14 e15; rintro e w2 ⟨rfl, K, e14, e15, e10, e11, e12, e13⟩))
  refine bodyPost_ret (v := .agg #[.int .u64 h, .int .u64 l]) (by simp [results, Try.results40, go_sem, e10, e11]) rfl ⟨rfl, ?_⟩
  exact (K.out.hB.setCell (by simp) _).setCell (by simp) _
end Go.Proofs.Ytgmhalcofcokbaa
