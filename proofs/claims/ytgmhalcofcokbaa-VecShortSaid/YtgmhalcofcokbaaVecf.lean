/- The contracts of nearness of package vec and of the reference. -/
import Derived.Test.YtgmhalcofcokbaaAsk2
import Derived.Test.YtgmhalcofcokbaaFs
namespace Go.Proofs.Ytgmhalcofcokbaa
open Go.RowKit
set_option linter.unusedVariables false
set_option maxHeartbeats 800000 in
theorem within_any (a b c d r : Int) (w : World) (ha : Fx.I64 a) (hb : Fx.I64 b) (hc : Fx.I64 c) (hd : Fx.I64 d) (hr : Fx.I64 r) :
    Calls Try.prog 12 #[.agg #[.int .i64 a, .int .i64 b], .agg #[.int .i64 c, .int .i64 d], .int .i64 r] w fun e w' => e = .returned (.bool (Fx.withinS a b c d r)) ∧ Below w.heap.size w w' := by
  have HB : Fx.Hd (Below w.heap.size w ((w.alloc (.cells #[.int .i64 a, .int .i64 b] 24)).alloc (.cells #[.int .i64 c, .int .i64 d] 24))) := ⟨((Below.refl _ _).alloc (Nat.le_refl _) _).alloc (by simp) _⟩
  by_cases hn : r < 0
  · have ED : Fx.Hd (Fx.withinS a b c d r = false) := ⟨by unfold Fx.withinS; simp; omega⟩
    have hn2 := (Fx.cnt_sign hr).2 hn
    go_enter Try.func12, Try.ntmps12
    go_wp2_with fail
    go_ret
    exact ⟨Fx.rb ED.out.symm, HB.out⟩
  · obtain ⟨r0, r1⟩ : 0 ≤ r ∧ r ≤ 9223372036854775807 := ⟨by omega, hr.2⟩
    have hof := fun w => of_any r w hr
    rw [Fx.cnt_in (by omega)] at hof
    have HOF := Fx.Hd.mk hof
    clear hof hn
    have s1 := Fx.sub_i64 a c
    have s2 := Fx.sub_i64 b d
    have hs := (Fx.SQ_bd s1 s2).1
    obtain ⟨h, hh⟩ : ∃ h, h = Fx.SQ (Fx.subS a c) (Fx.subS b d) / 18446744073709551616 := ⟨_, rfl⟩
    obtain ⟨l, hl⟩ : ∃ l, l = Fx.SQ (Fx.subS a c) (Fx.subS b d) % 18446744073709551616 := ⟨_, rfl⟩
    obtain ⟨mh, hmh⟩ : ∃ mh, mh = r * r / 18446744073709551616 := ⟨_, rfl⟩
    obtain ⟨ml, hml⟩ : ∃ ml, ml = r * r % 18446744073709551616 := ⟨_, rfl⟩
    have G : Fx.Hd (Fx.withinS a b c d r = Fx.lessB h l mh ml) := ⟨by rw [hh, hl, hmh, hml, Fx.lessB_pair hs (Int.mul_nonneg r0 r0)]; unfold Fx.withinS; simp [r0]⟩
    have E := Fx.Hd.mk (And.intro hh hl)
    have E2 := Fx.Hd.mk (And.intro hmh hml)
    clear hh hl hmh hml hs
    go_enter Try.func12, Try.ntmps12
    go_wp2_with (first | (go_at_call 11; (with_reducible refine (up (vsub_any a b c d _ ha hb hc hd) HB).mono ?_); clear HB; rintro e w' ⟨rfl, HB⟩) | (go_at_call 35; (with_reducible refine (up (square_any (Fx.subS a c) (Fx.subS b d) h l _ s1 s2 E) HB).mono ?_); clear HB; rintro e w' ⟨rfl, HB⟩) | (go_at_call 38; (with_reducible refine (up (wmul_as r r mh ml _ ⟨r0, r1⟩ ⟨r0, r1⟩ E2) HB).mono ?_); clear HB; rintro e w' ⟨rfl, HB⟩) | (go_at_call 37; (with_reducible refine (up (wless_as h l mh ml (Fx.withinS a b c d r) _ G) HB).mono ?_); clear HB; rintro e w' ⟨rfl, HB⟩))
    go_ret
    exact ⟨rfl, HB.out⟩
set_option maxHeartbeats 800000 in
theorem rwithin_any (a b c d r : Int) (w : World) (ha : Fx.I64 a) (hb : Fx.I64 b) (hc : Fx.I64 c) (hd : Fx.I64 d) (hr : Fx.I64 r) :
    Calls Try.prog 30 #[.agg #[.int .i64 a, .int .i64 b], .agg #[.int .i64 c, .int .i64 d], .int .i64 r] w fun e w' => e = .returned (.bool (Fx.withinS a b c d r)) ∧ Below w.heap.size w w' := by
  have HB : Fx.Hd (Below w.heap.size w ((w.alloc (.cells #[.int .i64 a, .int .i64 b] 24)).alloc (.cells #[.int .i64 c, .int .i64 d] 24))) := ⟨((Below.refl _ _).alloc (Nat.le_refl _) _).alloc (by simp) _⟩
  by_cases hn : r < 0
  · have ED : Fx.Hd (Fx.withinS a b c d r = false) := ⟨by unfold Fx.withinS; simp; omega⟩
    have hn2 := (Fx.cnt_sign hr).2 hn
    go_enter Try.func30, Try.ntmps30
    go_wp2_with (go_at_call 43; (with_reducible refine (of_any r _ hr).mono ?_); rintro e w' ⟨rfl, rfl⟩)
    go_ret
    exact ⟨Fx.rb ED.out.symm, HB.out⟩
  · obtain ⟨r0, r1⟩ : 0 ≤ r ∧ r ≤ 9223372036854775807 := ⟨by omega, hr.2⟩
    have hof := fun w => of_any r w hr
    rw [Fx.cnt_in (by omega)] at hof
    have HOF := Fx.Hd.mk hof
    clear hof hn
    have s1 := Fx.sub_i64 a c
    have s2 := Fx.sub_i64 b d
    have hs := (Fx.SQ_bd s1 s2).1
    obtain ⟨h, hh⟩ : ∃ h, h = Fx.SQ (Fx.subS a c) (Fx.subS b d) / 18446744073709551616 := ⟨_, rfl⟩
    obtain ⟨l, hl⟩ : ∃ l, l = Fx.SQ (Fx.subS a c) (Fx.subS b d) % 18446744073709551616 := ⟨_, rfl⟩
    obtain ⟨mh, hmh⟩ : ∃ mh, mh = r * r / 18446744073709551616 := ⟨_, rfl⟩
    obtain ⟨ml, hml⟩ : ∃ ml, ml = r * r % 18446744073709551616 := ⟨_, rfl⟩
    have G : Fx.Hd (Fx.withinS a b c d r = Fx.lessB h l mh ml) := ⟨by rw [hh, hl, hmh, hml, Fx.lessB_pair hs (Int.mul_nonneg r0 r0)]; unfold Fx.withinS; simp [r0]⟩
    have E := Fx.Hd.mk (And.intro hh hl)
    have E2 := Fx.Hd.mk (And.intro hmh hml)
    clear hh hl hmh hml hs
    go_enter Try.func30, Try.ntmps30
    go_wp2_with (first | (go_at_call 43; (with_reducible refine (HOF.out _).mono ?_); rintro e w' ⟨rfl, rfl⟩) | (go_at_call 27; (with_reducible refine (up (rvsub_any a b c d _ ha hb hc hd) HB).mono ?_); clear HB; rintro e w' ⟨rfl, HB⟩) | (go_at_call 40; (with_reducible refine (up (squares_any (Fx.subS a c) (Fx.subS b d) h l _ s1 s2 E) HB).mono ?_); clear HB; rintro e w' ⟨rfl, HB⟩) | (go_at_call 45; (with_reducible refine (up (times_as r r mh ml _ ⟨r0, r1⟩ ⟨r0, r1⟩ E2) HB).mono ?_); clear HB; rintro e w' ⟨rfl, HB⟩) | (go_at_call 44; (with_reducible refine (up (rless_as h l mh ml (Fx.withinS a b c d r) _ G) HB).mono ?_); clear HB; rintro e w' ⟨rfl, HB⟩))
    go_ret
    exact ⟨rfl, HB.out⟩
theorem within_k0 (a b c d : Int) (w : World) (ha : Fx.I64 a) (hb : Fx.I64 b) (hc : Fx.I64 c) (hd : Fx.I64 d) :
    Calls Try.prog 12 #[.agg #[.int .i64 a, .int .i64 b], .agg #[.int .i64 c, .int .i64 d], .int .i64 0] w fun e w' => e = .returned (.bool false) ∧ Below w.heap.size w w' := by
  have h := within_any a b c d 0 w ha hb hc hd (by unfold Fx.I64; omega)
  rw [Fx.within_zero] at h
  exact h
theorem within_k1 (a b : Int) (w : World) (ha : Fx.I64 a) (hb : Fx.I64 b) :
    Calls Try.prog 12 #[.agg #[.int .i64 a, .int .i64 b], .agg #[.int .i64 a, .int .i64 b], .int .i64 1] w fun e w' => e = .returned (.bool true) ∧ Below w.heap.size w w' := by
  have h := within_any a b a b 1 w ha hb ha hb (by unfold Fx.I64; omega)
  rw [Fx.within_self ha hb] at h
  exact h
end Go.Proofs.Ytgmhalcofcokbaa
