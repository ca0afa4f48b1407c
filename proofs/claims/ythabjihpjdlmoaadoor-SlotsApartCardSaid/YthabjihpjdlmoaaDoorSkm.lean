import Derived.Test.YthabjihpjdlmoaaDoorSkl
import Derived.Deep.RegionHeld3
import Derived.Deep.RegionWith
/- The contract of fixed.quotient, the end of products and quotients: rounded towards minus infinity, cut off at Most. -/
namespace Go.Proofs.YthabjihpjdlmoaaDoor
open Go.RowKit
set_option linter.unusedVariables false
end Go.Proofs.YthabjihpjdlmoaaDoor
/- More plain arithmetic for layer 1: no program in it. -/
namespace Go.Proofs.YthabjihpjdlmoaaDoor.Fx
set_option linter.unusedVariables false
theorem ovQ_bd {p b : Int} (hp : 0 ≤ p) (hb : 1 ≤ b) : 0 ≤ ovQ p b ∧ ovQ p b ≤ 18446744073709551615 := by
  have h0 : 0 ≤ p / b := Int.ediv_nonneg hp (by omega)
  unfold ovQ; split <;> omega
theorem div0 {a : Int} (ha : I64 a) : divS a 0 = if 0 < cnt a then 9223372036854775807 else if cnt a < 0 then -9223372036854775807 else 0 := by
  have := cnt_sign ha; have := cnt_pos ha
  unfold divS; simp; split <;> split <;> (try split) <;> omega
/-! ### Roots -/
structure IsRoot (T R : Int) : Prop where
  R0 : 0 ≤ R
  lo : R * R ≤ T
  hi : T < (R + 1) * (R + 1)
theorem sq_le {a b : Int} (ha : 0 ≤ a) (hab : a ≤ b) : a * a ≤ b * b := Int.mul_le_mul hab hab ha (by omega)
theorem sq_lt {a b : Int} (ha : 0 ≤ a) (h : a * a < b * b) (hb : 0 ≤ b) : a < b := by
  rcases Int.lt_or_le a b with h1 | h1
  · exact h1
  · have := sq_le hb h1; omega
theorem IsRoot.uniq {T R S : Int} (h : IsRoot T R) (g : IsRoot T S) : R = S := by
  have h1 := sq_lt h.R0 (Int.lt_of_le_of_lt h.lo g.hi) (by have := g.R0; omega)
  have h2 := sq_lt g.R0 (Int.lt_of_le_of_lt g.lo h.hi) (by have := h.R0; omega)
  omega
theorem root_nat (n : Nat) : ∃ R : Int, IsRoot n R := by
  induction n with
  | zero => exact ⟨0, by omega, by simp, by simp⟩
  | succ n ih =>
    obtain ⟨R, h0, h1, h2⟩ := ih
    by_cases hc : (R + 1) * (R + 1) ≤ ((n + 1 : Nat) : Int)
    · refine ⟨R + 1, by omega, hc, ?_⟩
      have : (R + 1 + 1) * (R + 1 + 1) = (R + 1) * (R + 1) + 2 * (R + 1) + 1 := by rw [Int.add_mul (R + 1) 1, Int.mul_add (R + 1) (R + 1) 1]; omega
      omega
    · exact ⟨R, h0, by omega, by omega⟩
theorem root_ex {T : Int} (h : 0 ≤ T) : ∃ R : Int, IsRoot T R := by
  have := root_nat T.toNat
  rwa [Int.toNat_of_nonneg h] at this
/-- What k bits are left to find of the root: R is found so far. -/
structure Rt (T : Int) (k : Nat) (R : Int) : Prop where
  hk : k ≤ 64
  R0 : 0 ≤ R
  dv : ∃ c : Nat, R = 2 ^ k * (c : Int)
  top : R + 2 ^ k ≤ 18446744073709551616
  lo : R * R ≤ T
  hi : T < (R + 2 ^ k) * (R + 2 ^ k)
theorem Rt.start64 {T : Int} (h0 : 0 ≤ T) (h1 : T < 340282366920938463463374607431768211456) : Rt T 64 0 :=
  ⟨by omega, by omega, ⟨0, by simp⟩, by simp, by simpa using h0, by simpa using h1⟩
theorem Rt.start32 {T : Int} (h0 : 0 ≤ T) (h1 : T < 18446744073709551616) : Rt T 32 0 :=
  ⟨by omega, by omega, ⟨0, by simp⟩, by simp, by simpa using h0, by simpa using h1⟩
theorem two_pow_succ (k : Nat) (hk : 0 < k) : (2 : Int) ^ k = 2 * 2 ^ (k - 1) := by
  rw [show k = (k - 1) + 1 by omega, Int.pow_succ, Nat.add_sub_cancel]; omega
theorem Rt.next {T R : Int} {k : Nat} (h : Rt T k R) (hk : 0 < k) :
    bits BinOp.or IntKind.u64 R (IntKind.u64.wrap (2 ^ (k - 1))) = R + 2 ^ (k - 1) ∧ 0 ≤ R + 2 ^ (k - 1) ∧ R + 2 ^ (k - 1) ≤ 18446744073709551615 := by
  have hp : (0 : Int) < 2 ^ (k - 1) := Int.pow_pos (by omega)
  have e := two_pow_succ k hk
  have ht := h.top
  have h0 := h.R0
  refine ⟨?_, by omega, by omega⟩
  rw [wrapu, Int.emod_eq_of_lt (by omega) (by omega)]
  obtain ⟨c, hc⟩ := h.dv
  rw [u64_or R _ h0 (by omega) (by omega) (by omega)]
  have hn : R.toNat = 2 ^ k * c := by
    have : R = ((2 ^ k * c : Nat) : Int) := by rw [hc]; simp [Int.natCast_pow]
    rw [this]; rfl
  have hm : ((2 : Int) ^ (k - 1)).toNat = 2 ^ (k - 1) := by
    have : (2 : Int) ^ (k - 1) = ((2 ^ (k - 1) : Nat) : Int) := by simp [Int.natCast_pow]
    rw [this]; rfl
  rw [hn, hm, or_nat k c _ (Nat.pow_lt_pow_right (by omega) (by omega))]
  have h3 : ((2 ^ k * c + 2 ^ (k - 1) : Nat) : Int) = 2 ^ k * (c : Int) + 2 ^ (k - 1) := by simp [Int.natCast_pow]
  rw [h3, hc]
theorem Rt.yes {T R : Int} {k : Nat} (h : Rt T k R) (hk : 0 < k) (hy : (R + 2 ^ (k - 1)) * (R + 2 ^ (k - 1)) ≤ T) : Rt T (k - 1) (R + 2 ^ (k - 1)) := by
  have hp : (0 : Int) < 2 ^ (k - 1) := Int.pow_pos (by omega)
  have e := two_pow_succ k hk
  have ht := h.top; have h0 := h.R0; have hh := h.hi; have hk' := h.hk
  have e2 : R + 2 ^ (k - 1) + 2 ^ (k - 1) = R + 2 ^ k := by omega
  refine ⟨by omega, by omega, ?_, by omega, hy, by rw [e2]; exact hh⟩
  obtain ⟨c, hc⟩ := h.dv
  refine ⟨2 * c + 1, ?_⟩
  rw [hc, e, show ((2 * c + 1 : Nat) : Int) = 2 * (c : Int) + 1 by omega, Int.mul_add, Int.mul_one, ← Int.mul_assoc, Int.mul_comm 2 (2 ^ (k - 1) : Int)]
theorem Rt.no {T R : Int} {k : Nat} (h : Rt T k R) (hk : 0 < k) (hy : T < (R + 2 ^ (k - 1)) * (R + 2 ^ (k - 1))) : Rt T (k - 1) R := by
  have hp : (0 : Int) < 2 ^ (k - 1) := Int.pow_pos (by omega)
  have e := two_pow_succ k hk
  have ht := h.top; have h0 := h.R0; have hk' := h.hk
  refine ⟨by omega, h0, ?_, by omega, h.lo, hy⟩
  obtain ⟨c, hc⟩ := h.dv
  refine ⟨2 * c, ?_⟩
  rw [hc, e, show ((2 * c : Nat) : Int) = 2 * (c : Int) by omega, ← Int.mul_assoc, Int.mul_comm 2 (2 ^ (k - 1) : Int)]
theorem Rt.done {T R : Int} (h : Rt T 0 R) : IsRoot T R := ⟨h.R0, h.lo, by simpa using h.hi⟩
theorem lessB_pair {T p : Int} (hT : 0 ≤ T) (hp : 0 ≤ p) : lessB (T / 18446744073709551616) (T % 18446744073709551616) (p / 18446744073709551616) (p % 18446744073709551616) = decide (T < p) := by
  unfold lessB
  by_cases h : T < p
  · simp [h]; omega
  · simp [h]; omega
theorem root_lt {T S N : Int} (h : IsRoot T S) (n0 : 0 ≤ N) (hT : T < N * N) : S < N := sq_lt h.R0 (Int.lt_of_le_of_lt h.lo hT) n0
theorem root_ge {T S N : Int} (h : IsRoot T S) (n0 : 0 ≤ N) (hT : ¬ T < N * N) : N ≤ S := by
  have := sq_lt n0 (Int.lt_of_le_of_lt (by omega) h.hi) (by have := h.R0; omega)
  omega
end Go.Proofs.YthabjihpjdlmoaaDoor.Fx
/- The contracts of the products and quotients of package fixed and of the reference of layer 1. -/
namespace Go.Proofs.YthabjihpjdlmoaaDoor
open Go.RowKit
set_option linter.unusedVariables false
theorem times_as (a b h l : Int) (w : World) (ha : 0 ≤ a ∧ a ≤ 9223372036854775807) (hb : 0 ≤ b ∧ b ≤ 9223372036854775807)
    (e : Fx.Hd (h = a * b / 18446744073709551616 ∧ l = a * b % 18446744073709551616)) :
    Calls Tryd.prog 105 #[.int .u64 a, .int .u64 b] w fun e w' => e = .returned (.agg #[.int .u64 h, .int .u64 l]) ∧ Below w.heap.size w w' := by
  obtain ⟨⟨rfl, rfl⟩⟩ := e
  exact times_any a b w ha.1 (by omega) hb.1 (by omega)
theorem rsize_of (a : Int) (w : World) (h : Fx.I64 a) :
    Calls Tryd.prog 125 #[.int .i64 (Fx.cnt a)] w fun e w' => e = .returned (.int .u64 (Fx.sz a)) ∧ w = w' :=
  rsize_any (Fx.cnt a) w (Fx.cnt_bd h).1 (Fx.cnt_bd h).2
end Go.Proofs.YthabjihpjdlmoaaDoor
/- The contract of wide.Root: the greatest number whose square is at most a number of 128 bits. -/
namespace Go.Proofs.YthabjihpjdlmoaaDoor
open Go.RowKit
set_option linter.unusedVariables false
end Go.Proofs.YthabjihpjdlmoaaDoor
/- The contract of the reference's root: the greatest number up to a bound whose square is at most a number of 128 bits. -/
namespace Go.Proofs.YthabjihpjdlmoaaDoor
open Go.RowKit
set_option linter.unusedVariables false
theorem times_full (n h l : Int) (w : World) (hn : 0 ≤ n) (hn' : n ≤ 18446744073709551615) (e : Fx.Hd (h = n * n / 18446744073709551616 ∧ l = n * n % 18446744073709551616)) :
    Calls Tryd.prog 105 #[.int .u64 n, .int .u64 n] w fun e w' => e = .returned (.agg #[.int .u64 h, .int .u64 l]) ∧ Below w.heap.size w w' := by
  obtain ⟨⟨rfl, rfl⟩⟩ := e
  exact times_any n n w hn hn' hn hn'
theorem rless_as (a b c d : Int) (g : Bool) (w : World) (e : Fx.Hd (g = Fx.lessB a b c d)) :
    Calls Tryd.prog 102 #[.agg #[.int .u64 a, .int .u64 b], .agg #[.int .u64 c, .int .u64 d]] w fun e w' => e = .returned (.bool g) ∧ Below w.heap.size w w' := by
  obtain ⟨rfl⟩ := e
  exact rless_any a b c d w
end Go.Proofs.YthabjihpjdlmoaaDoor
/- The root of a fixed number, as a number. -/
namespace Go.Proofs.YthabjihpjdlmoaaDoor.Fx
set_option linter.unusedVariables false
/-- The square that a root is of. -/
def under (a : Int) : Int := if a < 0 then 0 else a * 65536
theorem under_nonneg (a : Int) : 0 ≤ under a := by unfold under; split <;> omega
noncomputable def sqrtS (a : Int) : Int := Classical.choose (root_ex (under_nonneg a))
theorem sqrtS_root (a : Int) : IsRoot (under a) (sqrtS a) := Classical.choose_spec (root_ex (under_nonneg a))
theorem sqrtS_of {a S : Int} (h : IsRoot (under a) S) : sqrtS a = S := (sqrtS_root a).uniq h
theorem sqrtS_neg {a : Int} (h : a < 0) : sqrtS a = 0 := sqrtS_of (by unfold under; rw [if_pos h]; exact ⟨by omega, by omega, by omega⟩)
theorem sqrtS_zero : sqrtS 0 = 0 := sqrtS_of ⟨by omega, by decide, by decide⟩
theorem sqrtS_bd {a : Int} (h : I64 a) : 0 ≤ sqrtS a ∧ sqrtS a ≤ 1099511627775 := by
  have hr := sqrtS_root a
  refine ⟨hr.R0, ?_⟩
  have hu : under a < 1208925819614629174706176 := by unfold I64 at h; unfold under; split <;> omega
  have h2 : sqrtS a * sqrtS a < 1099511627776 * 1099511627776 := by have := hr.lo; omega
  have := sq_lt hr.R0 h2 (by omega)
  omega
theorem sqrtS_four : sqrtS 262144 = 131072 := sqrtS_of ⟨by omega, by decide, by decide⟩
theorem mulS_nine : mulS 98304 98304 = 147456 := by decide
end Go.Proofs.YthabjihpjdlmoaaDoor.Fx
