/- The contracts of parts and of what is made shorter, of package vec and of the reference. -/
import Derived.Test.YtgmhalcofcokbaaVech
import Derived.Test.YtgmhalcofcokbaaFrp
namespace Go.Proofs.Ytgmhalcofcokbaa
open Go.RowKit
set_option linter.unusedVariables false
theorem wdiv_pas (h l n q p r : Int) (w : World) (hp : Fx.Hd (0 ≤ p ∧ p ≤ 85070591730234615847396907784232501249)) (b0 : 1 ≤ n ∧ n ≤ 9223372036854775808)
    (e : Fx.Hd (h = p / 18446744073709551616 ∧ l = p % 18446744073709551616)) (e2 : Fx.Hd (q = p / n ∧ r = p % n)) (hq : 0 ≤ q ∧ q ≤ 9223372036854775807) :
    Calls Try.prog 47 #[.agg #[.int .u64 h, .int .u64 l], .int .u64 n] w fun e w' => e = .returned (.tuple #[.agg #[.int .u64 0, .int .u64 q], .int .u64 r]) ∧ Below w.heap.size w w' := by
  obtain ⟨⟨rfl, rfl⟩⟩ := e
  obtain ⟨⟨rfl, rfl⟩⟩ := e2
  have := hp.out
  have h := wdiv_any (p / 18446744073709551616) (p % 18446744073709551616) n w (by omega) (by omega) (by omega) (by omega) b0.1 b0.2
  rw [Fx.dT_div, show p / n / 18446744073709551616 = 0 by omega, show p / n % 18446744073709551616 = p / n by omega] at h
  exact h
set_option maxHeartbeats 400000 in
theorem part_any (c m n : Int) (w : World) (hc : Fx.I64 c) (hm : 0 ≤ m) (hn : m < n) (hn2 : n ≤ 9223372036854775807) :
    Calls Try.prog 33 #[.int .i64 c, .int .i64 m, .int .i64 n] w fun e w' => e = .returned (.int .i64 (Fx.partS c m n)) ∧ Below w.heap.size w w' := by
  have sc := Fx.sz_bd hc
  have sm : 0 ≤ m ∧ m ≤ 9223372036854775807 := by omega
  have P := Fx.Hd.mk (Fx.prod_bd sc sm)
  have hq := Fx.part_q hc hm hn
  obtain ⟨h, hh⟩ : ∃ h, h = Fx.sz c * m / 18446744073709551616 := ⟨_, rfl⟩
  obtain ⟨l, hl⟩ : ∃ l, l = Fx.sz c * m % 18446744073709551616 := ⟨_, rfl⟩
  have E := Fx.Hd.mk (And.intro hh hl)
  clear hh hl
  obtain ⟨q, eq⟩ : ∃ q, q = Fx.sz c * m / n := ⟨_, rfl⟩
  obtain ⟨r, er⟩ : ∃ r, r = Fx.sz c * m % n := ⟨_, rfl⟩
  rw [← eq] at hq
  have E2 := Fx.Hd.mk (And.intro eq er)
  clear eq er
  have q0 : 0 ≤ q ∧ q ≤ 9223372036854775807 := by omega
  have HB : Fx.Hd (Below w.heap.size w w) := ⟨Below.refl _ _⟩
  cases c1 : decide (c < 0)
  · have ED : Fx.Hd (Fx.partS c m n = q) := ⟨by rw [E2.out.1]; unfold Fx.partS; rw [if_neg (by simpa using c1)]⟩
    go_enter Try.func33, Try.ntmps33
    go_wp2_with (first | (go_at_call 48; (with_reducible refine (vsize_any c _ hc).mono ?_); rintro e w' ⟨rfl, rfl⟩) | (go_at_call 38; (with_reducible refine (up (wmul_as (Fx.sz c) m h l _ sc sm E) HB).mono ?_); clear HB; rintro e w' ⟨rfl, HB⟩) | (go_at_call 47; (with_reducible refine (up (wdiv_pas h l n q (Fx.sz c * m) r _ P (by omega) E E2 q0) HB).mono ?_); clear HB; rintro e w' ⟨rfl, HB⟩))
    go_ret
    exact ⟨Fx.ri ED.out.symm, HB.out.alloc HB.out.size _⟩
  · have ED : Fx.Hd (Fx.partS c m n = -q) := ⟨by rw [E2.out.1]; unfold Fx.partS; rw [if_pos (by simpa using c1)]⟩
    go_enter Try.func33, Try.ntmps33
    go_wp2_with (first | (go_at_call 48; (with_reducible refine (vsize_any c _ hc).mono ?_); rintro e w' ⟨rfl, rfl⟩) | (go_at_call 38; (with_reducible refine (up (wmul_as (Fx.sz c) m h l _ sc sm E) HB).mono ?_); clear HB; rintro e w' ⟨rfl, HB⟩) | (go_at_call 47; (with_reducible refine (up (wdiv_pas h l n q (Fx.sz c * m) r _ P (by omega) E E2 q0) HB).mono ?_); clear HB; rintro e w' ⟨rfl, HB⟩))
    go_ret
    exact ⟨Fx.ri ED.out.symm, HB.out.alloc HB.out.size _⟩
end Go.Proofs.Ytgmhalcofcokbaa
