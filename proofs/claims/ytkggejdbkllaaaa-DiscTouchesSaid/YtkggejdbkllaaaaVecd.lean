/- The contracts of the reference's root up to a bound, and of the squares of a way. -/
import Derived.Test.YtkggejdbkllaaaaVecc
import Derived.Test.YtkggejdbkllaaaaVeca
import Derived.Test.YtkggejdbkllaaaaVecb
import Derived.Test.YtkggejdbkllaaaaFt
namespace Go.Proofs.Ytkggejdbkllaaaa
open Go.RowKit
set_option linter.unusedVariables false
theorem rplus_any (a b c d : Int) (w : World) (ha : 0 ≤ a) (hb : 0 ≤ b) (hc : 0 ≤ c) (hd : 0 ≤ d) (hb' : b ≤ 18446744073709551615) (hd' : d ≤ 18446744073709551615) (hs : a + c < 18446744073709551615) :
    Calls Try.prog 69 #[.agg #[.int .u64 a, .int .u64 b], .agg #[.int .u64 c, .int .u64 d]] w fun e w' => e = .returned (.agg #[.int .u64 (a + c + (b + d) / 18446744073709551616), .int .u64 ((b + d) % 18446744073709551616)]) ∧ Below w.heap.size w w' := by
  go_enter Try.func69, Try.ntmps69
  go_wp2
  · rename_i hl
    refine bodyPost_ret (v := .agg #[.int .u64 (a + c + 1), .int .u64 (IntKind.u64.wrap (b + d))]) (by simp [results, Try.results69, go_sem]) rfl ⟨?_, ?_⟩
    · rw [Fx.wrapu] at hl ⊢
      rw [show a + c + (b + d) / 18446744073709551616 = a + c + 1 by omega]
    · exact ((((Below.refl _ _).alloc (Nat.le_refl _) _).alloc (by simp) _).alloc (by simp; omega) _).alloc (by simp; omega) _
  · rename_i hl
    refine bodyPost_ret (v := .agg #[.int .u64 (a + c), .int .u64 (IntKind.u64.wrap (b + d))]) (by simp [results, Try.results69, go_sem]) rfl ⟨?_, ?_⟩
    · rw [Fx.wrapu] at hl ⊢
      rw [show a + c + (b + d) / 18446744073709551616 = a + c by omega]
    · exact ((((Below.refl _ _).alloc (Nat.le_refl _) _).alloc (by simp) _).alloc (by simp; omega) _).alloc (by simp; omega) _
theorem wadd_sq (a b c d x y h l : Int) (w : World) (hx : Fx.Hd (0 ≤ x ∧ x ≤ 85070591730234615847396907784232501249)) (hy : Fx.Hd (0 ≤ y ∧ y ≤ 85070591730234615847396907784232501249))
    (e1 : Fx.Hd (a = x / 18446744073709551616 ∧ b = x % 18446744073709551616)) (e2 : Fx.Hd (c = y / 18446744073709551616 ∧ d = y % 18446744073709551616)) (e : Fx.Hd (h = (x + y) / 18446744073709551616 ∧ l = (x + y) % 18446744073709551616)) :
    Calls Try.prog 66 #[.agg #[.int .u64 a, .int .u64 b], .agg #[.int .u64 c, .int .u64 d]] w fun e w' => e = .returned (.agg #[.int .u64 h, .int .u64 l]) ∧ Below w.heap.size w w' := by
  obtain ⟨⟨rfl, rfl⟩⟩ := e1
  obtain ⟨⟨rfl, rfl⟩⟩ := e2
  obtain ⟨⟨rfl, rfl⟩⟩ := e
  obtain ⟨hx⟩ := hx
  obtain ⟨hy⟩ := hy
  have hp := Fx.SQ_parts x y hx.1 hy.1
  have := wadd_any (x / 18446744073709551616) (x % 18446744073709551616) (y / 18446744073709551616) (y % 18446744073709551616) w (by omega) (by omega) (by omega) (by omega) (by omega) (by omega) (by omega)
  rw [hp.1, hp.2] at this
  exact this
theorem rplus_sq (a b c d x y h l : Int) (w : World) (hx : Fx.Hd (0 ≤ x ∧ x ≤ 85070591730234615847396907784232501249)) (hy : Fx.Hd (0 ≤ y ∧ y ≤ 85070591730234615847396907784232501249))
    (e1 : Fx.Hd (a = x / 18446744073709551616 ∧ b = x % 18446744073709551616)) (e2 : Fx.Hd (c = y / 18446744073709551616 ∧ d = y % 18446744073709551616)) (e : Fx.Hd (h = (x + y) / 18446744073709551616 ∧ l = (x + y) % 18446744073709551616)) :
    Calls Try.prog 69 #[.agg #[.int .u64 a, .int .u64 b], .agg #[.int .u64 c, .int .u64 d]] w fun e w' => e = .returned (.agg #[.int .u64 h, .int .u64 l]) ∧ Below w.heap.size w w' := by
  obtain ⟨⟨rfl, rfl⟩⟩ := e1
  obtain ⟨⟨rfl, rfl⟩⟩ := e2
  obtain ⟨⟨rfl, rfl⟩⟩ := e
  obtain ⟨hx⟩ := hx
  obtain ⟨hy⟩ := hy
  have hp := Fx.SQ_parts x y hx.1 hy.1
  have := rplus_any (x / 18446744073709551616) (x % 18446744073709551616) (y / 18446744073709551616) (y % 18446744073709551616) w (by omega) (by omega) (by omega) (by omega) (by omega) (by omega) (by omega)
  rw [hp.1, hp.2] at this
  exact this
set_option maxHeartbeats 400000 in
theorem square_core (a b xh xl yh yl h l : Int) (w : World) (ha : Fx.I64 a) (hb : Fx.I64 b)
    (e1 : Fx.Hd (xh = Fx.sz a * Fx.sz a / 18446744073709551616 ∧ xl = Fx.sz a * Fx.sz a % 18446744073709551616)) (e2 : Fx.Hd (yh = Fx.sz b * Fx.sz b / 18446744073709551616 ∧ yl = Fx.sz b * Fx.sz b % 18446744073709551616))
    (e : Fx.Hd (h = (Fx.sz a * Fx.sz a + Fx.sz b * Fx.sz b) / 18446744073709551616 ∧ l = (Fx.sz a * Fx.sz a + Fx.sz b * Fx.sz b) % 18446744073709551616)) :
    Calls Try.prog 57 #[.agg #[.int .i64 a, .int .i64 b]] w fun e w' => e = .returned (.agg #[.int .u64 h, .int .u64 l]) ∧ Below w.heap.size w w' := by
  have k0 := Kept.start w (.int .i64 a) (.int .i64 b) (.int .u64 0) (.int .u64 0) 59 79
  have sa := Fx.sz_bd ha
  have sb := Fx.sz_bd hb
  have P1 := Fx.Hd.mk (Fx.prod_bd sa sa)
  have P2 := Fx.Hd.mk (Fx.prod_bd sb sb)
  go_enter Try.func57, Try.ntmps57
  go_wp2
  generalize (w.alloc (.cells #[.int .i64 a, .int .i64 b] 59)).alloc (.cells #[.int .u64 0, .int .u64 0] 79) = W at *
  have c0 := k0.c0
  have c1 := k0.c1
  go_region_held3 (fun w' => w'.cell? ⟨w.heap.size, 0, none⟩ = some (.int .i64 a) ∧ w'.cell? ⟨w.heap.size, 1, none⟩ = some (.int .i64 b)) (first | exact ⟨c0, c1⟩ | go_keep)
    (first | (go_at_call 65; refine (vsize_any _ _ (by assumption)).mono ?_; rintro e w' ⟨rfl, rfl⟩))
  replace k0 := k0.drew
  generalize W.drew = W2 at *
  clear c0 c1
  have e10 := k0.d0
  have e11 := k0.d1
  have e12 := k0.f0
  have e13 := k0.f1
  have e14 := k0.c0
  have e15 := k0.c1
  have K := Fx.Hd.mk k0
  clear k0
  go_wp2_with (first | (go_at_call 59; (first | (with_reducible refine (heldV (wmul_as (Fx.sz a) (Fx.sz a) xh xl _ sa sa e1) K).mono ?_) | (with_reducible refine (heldV (wmul_as (Fx.sz b) (Fx.sz b) yh yl _ sb sb e2) K).mono ?_)); clear K e10 e11 e12 e13 e14 e15; rintro e w2 ⟨rfl, K, e14, e15, e10, e11, e12, e13⟩) | (go_at_call 66; (with_reducible refine (heldV (wadd_sq xh xl yh yl _ _ h l _ P1 P2 e1 e2 e) K).mono ?_); clear K e10 e11 e12 e13 e14 e15; rintro e w2 ⟨rfl, K, e14, e15, e10, e11, e12, e13⟩))
  refine bodyPost_ret (v := .agg #[.int .u64 h, .int .u64 l]) (by simp [results, Try.results57, go_sem, e10, e11]) rfl ⟨rfl, ?_⟩
  exact (K.out.hB.setCell (by simp) _).setCell (by simp) _
set_option maxHeartbeats 400000 in
theorem squares_core (a b xh xl yh yl h l : Int) (w : World) (ha : Fx.I64 a) (hb : Fx.I64 b)
    (e1 : Fx.Hd (xh = Fx.sz a * Fx.sz a / 18446744073709551616 ∧ xl = Fx.sz a * Fx.sz a % 18446744073709551616)) (e2 : Fx.Hd (yh = Fx.sz b * Fx.sz b / 18446744073709551616 ∧ yl = Fx.sz b * Fx.sz b % 18446744073709551616))
    (e : Fx.Hd (h = (Fx.sz a * Fx.sz a + Fx.sz b * Fx.sz b) / 18446744073709551616 ∧ l = (Fx.sz a * Fx.sz a + Fx.sz b * Fx.sz b) % 18446744073709551616)) :
    Calls Try.prog 62 #[.agg #[.int .i64 a, .int .i64 b]] w fun e w' => e = .returned (.agg #[.int .u64 h, .int .u64 l]) ∧ Below w.heap.size w w' := by
  have k0 := Kept.start w (.int .i64 a) (.int .i64 b) (.int .u64 0) (.int .u64 0) 59 84
  have sa := Fx.sz_bd ha
  have sb := Fx.sz_bd hb
  have P1 := Fx.Hd.mk (Fx.prod_bd sa sa)
  have P2 := Fx.Hd.mk (Fx.prod_bd sb sb)
  go_enter Try.func62, Try.ntmps62
  go_wp2
  generalize (w.alloc (.cells #[.int .i64 a, .int .i64 b] 59)).alloc (.cells #[.int .u64 0, .int .u64 0] 84) = W at *
  have c0 := k0.c0
  have c1 := k0.c1
  go_region_held3 (fun w' => w'.cell? ⟨w.heap.size, 0, none⟩ = some (.int .i64 a) ∧ w'.cell? ⟨w.heap.size, 1, none⟩ = some (.int .i64 b)) (first | exact ⟨c0, c1⟩ | go_keep)
    (first | (go_at_call 60; refine (of_any _ _ (by assumption)).mono ?_; rintro e w' ⟨rfl, rfl⟩) | (go_at_call 68; refine (rsize_of _ _ (by assumption)).mono ?_; rintro e w' ⟨rfl, rfl⟩))
  replace k0 := k0.drew
  generalize W.drew = W2 at *
  clear c0 c1
  have e10 := k0.d0
  have e11 := k0.d1
  have e12 := k0.f0
  have e13 := k0.f1
  have e14 := k0.c0
  have e15 := k0.c1
  have K := Fx.Hd.mk k0
  clear k0
  go_wp2_with (first | (go_at_call 64; (first | (with_reducible refine (heldV (times_as (Fx.sz a) (Fx.sz a) xh xl _ sa sa e1) K).mono ?_) | (with_reducible refine (heldV (times_as (Fx.sz b) (Fx.sz b) yh yl _ sb sb e2) K).mono ?_)); clear K e10 e11 e12 e13 e14 e15; rintro e w2 ⟨rfl, K, e14, e15, e10, e11, e12, e13⟩) | (go_at_call 69; (with_reducible refine (heldV (rplus_sq xh xl yh yl _ _ h l _ P1 P2 e1 e2 e) K).mono ?_); clear K e10 e11 e12 e13 e14 e15; rintro e w2 ⟨rfl, K, e14, e15, e10, e11, e12, e13⟩))
  refine bodyPost_ret (v := .agg #[.int .u64 h, .int .u64 l]) (by simp [results, Try.results62, go_sem, e10, e11]) rfl ⟨rfl, ?_⟩
  exact (K.out.hB.setCell (by simp) _).setCell (by simp) _
end Go.Proofs.Ytkggejdbkllaaaa
