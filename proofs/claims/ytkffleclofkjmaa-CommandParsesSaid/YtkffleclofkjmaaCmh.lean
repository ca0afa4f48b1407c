/- Whether a command may be, by the reference: all kinds. -/
import Derived.Test.YtkffleclofkjmaaCme
import Derived.Test.YtkffleclofkjmaaCmf
import Derived.Test.YtkffleclofkjmaaCmg
namespace Go.Proofs.Ytkffleclofkjmaa
open Go.RowKit
set_option linter.unusedVariables false
set_option maxRecDepth 100000 in
set_option maxHeartbeats 1600000 in
theorem rcmd_no (p s k n : Int) (a : Option Addr) (m c : Nat) (u : List Int) (t wd h x y : Int) (w : World) (hk : k < 1 ∨ 7 < k) :
    Calls Try.prog 16 #[.agg #[.int .i64 p, .int .i64 s, .int .i64 k, .int .i64 n, .slice a m c, .int .i64 t, .int .i64 wd, .int .i64 h, .int .i64 x, .int .i64 y]] w fun e w' => e = .returned (.bool false) ∧ Below w.heap.size w w' := by
  have HW0 : Hk (Below w.heap.size w ((w.alloc (.cells #[.int .i64 p, .int .i64 s, .int .i64 k, .int .i64 n, .slice a m c, .int .i64 t, .int .i64 wd, .int .i64 h, .int .i64 x, .int .i64 y] 28)).alloc (.cells #[.int .i64 p, .int .i64 s, .int .i64 k, .int .i64 0, .slice none 0 0, .int .i64 0, .int .i64 0, .int .i64 0, .int .i64 0, .int .i64 0] 28))) := ⟨((Below.refl _ _).alloc (Nat.le_refl _) _).alloc (by simp) _⟩
  have a1 : (k == 1) = false := by simp; omega
  have a2 : (k == 2) = false := by simp; omega
  have a3 : (k == 3) = false := by simp; omega
  have a4 : (k == 4) = false := by simp; omega
  have a5 : (k == 5) = false := by simp; omega
  have a6 : (k == 6) = false := by simp; omega
  have a7 : (k == 7) = false := by simp; omega
  clear hk
  by_cases g0 : ¬ (1 ≤ p)
  · have b0 : decide (1 ≤ p) = false := by simp; omega
    go_enter Try.func16, Try.ntmps16
    go_wp2
    go_ret
    exact ⟨rfl, HW0.out⟩
  have b0 : decide (1 ≤ p) = true := by simp; omega
  by_cases g1 : ¬ (p ≤ 8)
  · have b1 : decide (p ≤ 8) = false := by simp; omega
    go_enter Try.func16, Try.ntmps16
    go_wp2
    go_ret
    exact ⟨rfl, HW0.out⟩
  have b1 : decide (p ≤ 8) = true := by simp; omega
  obtain ⟨b, hb⟩ : ∃ b, decide (0 ≤ s ∧ s ≤ 1099511627776) = b := ⟨_, rfl⟩
  have E1 := Hk.mk hb
  clear hb
  cases b <;>
  · go_enter Try.func16, Try.ntmps16
    go_wp2_with (go_at_call 33; (with_reducible refine (rnum22_as _ s 1099511627776 _ E1).mono ?_); rintro e w' ⟨rfl, rfl⟩)
    go_ret
    exact ⟨rfl, HW0.out⟩
theorem rcmd_as (r : Bool) (p s k n : Int) (a : Option Addr) (m c : Nat) (u : List Int) (t wd h x y : Int) (w : World) (hN : Nq w w.heap.size a m u) (hm : m ≤ 1099511627776) (E : Hk (okC p s k ⟨n, u, t, wd, h, x, y⟩ = r)) :
    Calls Try.prog 16 #[.agg #[.int .i64 p, .int .i64 s, .int .i64 k, .int .i64 n, .slice a m c, .int .i64 t, .int .i64 wd, .int .i64 h, .int .i64 x, .int .i64 y]] w fun e w' => e = .returned (.bool r) ∧ Below w.heap.size w w' := by
  have E : Hk (refC p s k ⟨n, u, t, wd, h, x, y⟩ = r) := ⟨by rw [← refC_eq]; exact E.out⟩
  by_cases h1 : k = 1
  · subst h1; exact rcmd1 r p s n a m c u t wd h x y w hN hm E
  by_cases h2 : k = 2
  · subst h2; exact rcmd2 r p s n a m c u t wd h x y w hN hm E
  by_cases h3 : k = 3
  · subst h3; exact rcmd3 r p s n a m c u t wd h x y w hN hm E
  by_cases h4 : k = 4
  · subst h4; exact rcmd4 r p s n a m c u t wd h x y w hN hm E
  by_cases h5 : k = 5
  · subst h5; exact rcmd5 r p s n a m c u t wd h x y w hN hm E
  by_cases h6 : k = 6
  · subst h6; exact rcmd6 r p s n a m c u t wd h x y w hN hm E
  by_cases h7 : k = 7
  · subst h7; exact rcmd7 r p s n a m c u t wd h x y w hN hm E
  have hr : r = false := by rw [← E.out]; unfold refC; simp [h1, h2, h3, h4, h5, h6, h7]
  subst hr
  exact rcmd_no p s k n a m c u t wd h x y w (by omega)
end Go.Proofs.Ytkffleclofkjmaa
