/- Layer 10: what SectorNumbers calls. -/
import Derived.Test.YtkggejdbkllaaaaAsk10
namespace Go.Proofs.Ytkggejdbkllaaaa
open Go.RowKit
set_option linter.unusedVariables false
def heavyS (n tn pn : Nat) : Bool := decide (900 < n ∨ 60 < tn ∨ 2000 < pn)
theorem heavy10_any (W H : Int) (a ta pa : Option Addr) (n c tn tc pn pc : Nat) (w : World) (hn : n ≤ 9223372036854775807) (htn : tn ≤ 9223372036854775807) (hpn : pn ≤ 9223372036854775807) :
    Calls Try.prog 11 #[.agg #[.int .i64 W, .int .i64 H, .slice a n c, .slice ta tn tc, .slice pa pn pc]] w fun e w' => e = .returned (.bool (heavyS n tn pn)) ∧ Below w.heap.size w w' := by
  by_cases q1 : 900 < n
  · have b1 : decide ((900 : Int) < n) = true := by simp; omega
    have R : Hk (heavyS n tn pn = true) := ⟨by unfold heavyS; simp; omega⟩
    go_enter Try.func11, Try.ntmps11
    go_wp2
    go_ret
    exact ⟨rbo R.out.symm, (Below.refl _ _).alloc (Nat.le_refl _) _⟩
  have b1 : decide ((900 : Int) < n) = false := by simp; omega
  by_cases q2 : 60 < tn
  · have b2 : decide ((60 : Int) < tn) = true := by simp; omega
    have R : Hk (heavyS n tn pn = true) := ⟨by unfold heavyS; simp; omega⟩
    go_enter Try.func11, Try.ntmps11
    go_wp2
    go_ret
    exact ⟨rbo R.out.symm, (Below.refl _ _).alloc (Nat.le_refl _) _⟩
  have b2 : decide ((60 : Int) < tn) = false := by simp; omega
  by_cases q3 : 2000 < pn
  · have b3 : decide ((2000 : Int) < pn) = true := by simp; omega
    have R : Hk (heavyS n tn pn = true) := ⟨by unfold heavyS; simp; omega⟩
    go_enter Try.func11, Try.ntmps11
    go_wp2
    go_ret
    exact ⟨rbo R.out.symm, (Below.refl _ _).alloc (Nat.le_refl _) _⟩
  · have b3 : decide ((2000 : Int) < pn) = false := by simp; omega
    have R : Hk (heavyS n tn pn = false) := ⟨by unfold heavyS; simp; omega⟩
    go_enter Try.func11, Try.ntmps11
    go_wp2
    go_ret
    exact ⟨rbo R.out.symm, (Below.refl _ _).alloc (Nat.le_refl _) _⟩
theorem heavy10_as (r : Bool) (W H : Int) (a ta pa : Option Addr) (n c tn tc pn pc : Nat) (w : World) (hn : n ≤ 9223372036854775807) (htn : tn ≤ 9223372036854775807) (hpn : pn ≤ 9223372036854775807) (R : Hk (heavyS n tn pn = r)) :
    Calls Try.prog 11 #[.agg #[.int .i64 W, .int .i64 H, .slice a n c, .slice ta tn tc, .slice pa pn pc]] w fun e w' => e = .returned (.bool r) ∧ Below w.heap.size w w' := by
  obtain ⟨rfl⟩ := R; exact heavy10_any W H a ta pa n c tn tc pn pc w hn htn hpn
theorem rof10_as (W t z : Int) (w : World) (w1 : 1 ≤ W) (w2 : W ≤ 128) (t0 : 0 ≤ t) (t1 : t ≤ 16384) (EZ : Hk (Fx.ofS W t = z)) : Calls Try.prog 15 #[.int .i64 W, .int .i64 t] w fun e w' => e = .returned (.int .i64 z) ∧ Below w.heap.size w w' := by
  obtain ⟨rfl⟩ := EZ; exact rsof_any W t w w1 w2 t0 t1
theorem racross_as (n z : Int) (w : World) (a : 1 ≤ n) (b : n ≤ 128) (EZ : Hk (Fx.acS n = z)) : Calls Try.prog 12 #[.int .i64 n] w fun e w' => e = .returned (.int .i64 z) ∧ Below w.heap.size w w' := by
  obtain ⟨rfl⟩ := EZ; exact racross_any n w a b
end Go.Proofs.Ytkggejdbkllaaaa
