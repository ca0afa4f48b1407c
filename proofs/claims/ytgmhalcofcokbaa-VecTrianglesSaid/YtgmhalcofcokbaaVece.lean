/- The contracts of lengths of package vec and of the reference. -/
import Derived.Test.YtgmhalcofcokbaaVecd
namespace Go.Proofs.Ytgmhalcofcokbaa
open Go.RowKit
set_option linter.unusedVariables false
theorem square_any (a b h l : Int) (w : World) (ha : Fx.I64 a) (hb : Fx.I64 b) (e : Fx.Hd (h = Fx.SQ a b / 18446744073709551616 ∧ l = Fx.SQ a b % 18446744073709551616)) :
    Calls Try.prog 35 #[.agg #[.int .i64 a, .int .i64 b]] w fun e w' => e = .returned (.agg #[.int .u64 h, .int .u64 l]) ∧ Below w.heap.size w w' :=
  square_core a b _ _ _ _ h l w ha hb ⟨rfl, rfl⟩ ⟨rfl, rfl⟩ e
theorem squares_any (a b h l : Int) (w : World) (ha : Fx.I64 a) (hb : Fx.I64 b) (e : Fx.Hd (h = Fx.SQ a b / 18446744073709551616 ∧ l = Fx.SQ a b % 18446744073709551616)) :
    Calls Try.prog 40 #[.agg #[.int .i64 a, .int .i64 b]] w fun e w' => e = .returned (.agg #[.int .u64 h, .int .u64 l]) ∧ Below w.heap.size w w' :=
  squares_core a b _ _ _ _ h l w ha hb ⟨rfl, rfl⟩ ⟨rfl, rfl⟩ e
theorem rroot_uas (h l p S : Int) (w : World) (p0 : Fx.Hd (0 ≤ p ∧ p < 340282366920938463463374607431768211456)) (e : Fx.Hd (h = p / 18446744073709551616 ∧ l = p % 18446744073709551616)) (hS : Fx.Hd (Fx.IsRootUpto p 9223372036854775807 S)) :
    Calls Try.prog 39 #[.agg #[.int .u64 h, .int .u64 l], .int .u64 9223372036854775807] w fun e w' => e = .returned (.int .u64 S) ∧ Below w.heap.size w w' := by
  obtain ⟨⟨rfl, rfl⟩⟩ := e
  have := p0.out
  exact rroot_upto _ _ _ S w (by omega) (by omega) (by omega) (by omega) (by omega) (by omega) (by rw [Fx.dT_div]; exact hS.out)
set_option maxHeartbeats 400000 in
theorem len_any (a b : Int) (w : World) (ha : Fx.I64 a) (hb : Fx.I64 b) :
    Calls Try.prog 8 #[.agg #[.int .i64 a, .int .i64 b]] w fun e w' => e = .returned (.int .i64 (Fx.lenS a b)) ∧ Below w.heap.size w w' := by
  have hs := Fx.SQ_bd ha hb
  have P : Fx.Hd (0 ≤ Fx.SQ a b ∧ Fx.SQ a b < 340282366920938463463374607431768211456) := ⟨by omega⟩
  obtain ⟨h, hh⟩ : ∃ h, h = Fx.SQ a b / 18446744073709551616 := ⟨_, rfl⟩
  obtain ⟨l, hl⟩ : ∃ l, l = Fx.SQ a b % 18446744073709551616 := ⟨_, rfl⟩
  have E := Fx.Hd.mk (And.intro hh hl)
  clear hh hl
  have HB : Fx.Hd (Below w.heap.size w (w.alloc (.cells #[.int .i64 a, .int .i64 b] 24))) := ⟨(Below.refl _ _).alloc (Nat.le_refl _) _⟩
  have hR := Fx.Hd.mk (Fx.rootS_root hs.1)
  have hr := Fx.rootS_bd ha hb
  obtain ⟨S, es⟩ : ∃ S, S = Fx.rootS (Fx.SQ a b) := ⟨_, rfl⟩
  have ED : Fx.Hd (Fx.lenS a b = if 9223372036854775807 < S then 9223372036854775807 else S) := ⟨by rw [es]; rfl⟩
  rw [← es] at hR hr
  clear es hs
  by_cases hm : 9223372036854775807 < S
  all_goals
    go_enter Try.func8, Try.ntmps8
    go_wp2_with (first | (go_at_call 35; (with_reducible refine (up (square_any a b h l _ ha hb E) HB).mono ?_); clear HB; rintro e w' ⟨rfl, HB⟩) | (go_at_call 34; (with_reducible refine (up (root_as h l (Fx.SQ a b) S _ P E hR) HB).mono ?_); clear HB; rintro e w' ⟨rfl, HB⟩))
    go_ret
    refine ⟨?_, HB.out⟩
    rw [ED.out]
    first | (rw [if_pos (by omega)]; done) | (rw [if_pos (by omega)]; rfl) | (rw [if_neg (by omega)]; done) | (rw [if_neg (by omega)]; rfl)

set_option maxHeartbeats 400000 in
theorem rlen_any (a b : Int) (w : World) (ha : Fx.I64 a) (hb : Fx.I64 b) :
    Calls Try.prog 26 #[.agg #[.int .i64 a, .int .i64 b]] w fun e w' => e = .returned (.int .i64 (Fx.lenS a b)) ∧ Below w.heap.size w w' := by
  have hs := Fx.SQ_bd ha hb
  have P : Fx.Hd (0 ≤ Fx.SQ a b ∧ Fx.SQ a b < 340282366920938463463374607431768211456) := ⟨by omega⟩
  obtain ⟨h, hh⟩ : ∃ h, h = Fx.SQ a b / 18446744073709551616 := ⟨_, rfl⟩
  obtain ⟨l, hl⟩ : ∃ l, l = Fx.SQ a b % 18446744073709551616 := ⟨_, rfl⟩
  have E := Fx.Hd.mk (And.intro hh hl)
  clear hh hl
  have HB : Fx.Hd (Below w.heap.size w (w.alloc (.cells #[.int .i64 a, .int .i64 b] 24))) := ⟨(Below.refl _ _).alloc (Nat.le_refl _) _⟩
  have hR := Fx.Hd.mk (Fx.lenS_upto ha hb)
  have hr := Fx.lenS_bd ha hb
  clear hs
  go_enter Try.func26, Try.ntmps26
  go_wp2_with (first | (go_at_call 40; (with_reducible refine (up (squares_any a b h l _ ha hb E) HB).mono ?_); clear HB; rintro e w' ⟨rfl, HB⟩) | (go_at_call 39; (with_reducible refine (up (rroot_uas h l (Fx.SQ a b) (Fx.lenS a b) _ P E hR) HB).mono ?_); clear HB; rintro e w' ⟨rfl, HB⟩))
  go_ret
  exact ⟨rfl, HB.out⟩

theorem wakes2_any (w : World) :
    Calls Try.prog 9 #[] w fun e w' => e = .returned (.bool true) ∧ Below w.heap.size w w' := by
  have h1 := len_any 196608 262144 w (by unfold Fx.I64; omega) (by unfold Fx.I64; omega)
  rw [Fx.len_five] at h1
  have H1 := Fx.Hd.mk h1
  clear h1
  go_enter Try.func9, Try.ntmps9
  go_wp2_with (go_at_call 8; (with_reducible refine H1.out.mono ?_); rintro e w1 ⟨rfl, hb1⟩; have B1 := Fx.Hd.mk hb1; clear hb1)
  go_ret
  exact ⟨rfl, B1.out⟩
end Go.Proofs.Ytgmhalcofcokbaa
