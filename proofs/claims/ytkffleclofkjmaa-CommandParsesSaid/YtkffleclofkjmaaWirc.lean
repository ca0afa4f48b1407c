/- Layer 4: numbers that may be below 0. -/
import Derived.Test.YtkffleclofkjmaaWirb
namespace Go.Proofs.Ytkffleclofkjmaa
open Go.RowKit
set_option linter.unusedVariables false
theorem num_at (x : Int) (z : Nat) (w : World) (hx : Hk (x = z)) (hz : Hk (z ≤ 9223372036854775807)) :
    Calls Try.prog 52 #[.int .i64 x] w fun e w' => ∃ v, e = .returned (.tuple #[v, .int .i64 0]) ∧ OwnB w' w.heap.size v (Wr.numL z).length (Wr.numL z) ∧ Below w.heap.size w w' := by
  rw [hx.out]; exact num_any z w hz.out
theorem rnum_at (x : Int) (z : Nat) (w : World) (hx : Hk (x = z)) (hz : Hk (z ≤ 9223372036854775807)) :
    Calls Try.prog 40 #[.int .i64 x] w fun e w' => ∃ v, e = .returned v ∧ OwnB w' w.heap.size v (Wr.numL z).length (Wr.numL z) ∧ Below w.heap.size w w' := by
  rw [hx.out]; exact rnum_any z w hz.out
def I62 (n : Int) : Prop := -4611686018427387904 ≤ n ∧ n < 4611686018427387904
theorem zig_bd {n : Int} (h : I62 n) : Wr.zig n ≤ 9223372036854775807 := by unfold I62 at h; unfold Wr.zig; split <;> omega
set_option maxRecDepth 100000 in
theorem int_any (n : Int) (w : World) (hn : I62 n) :
    Calls Try.prog 64 #[.int .i64 n] w fun e w' => ∃ v, e = .returned (.tuple #[v, .int .i64 0]) ∧ OwnB w' w.heap.size v (Wr.numL (Wr.zig n)).length (Wr.numL (Wr.zig n)) ∧ Below w.heap.size w w' := by
  have HZ := Hk.mk (zig_bd hn)
  unfold I62 at hn
  obtain ⟨h1, h2⟩ := hn
  have g1 : decide (n < -4611686018427387904) = false := by simp; omega
  have g2 : decide (4611686018427387904 ≤ n) = false := by simp; omega
  by_cases h0 : n < 0
  · have HE : Hk (-2 * (n + 1) + 1 = (Wr.zig n : Int)) := ⟨by unfold Wr.zig; rw [if_pos h0]; omega⟩
    go_enter Try.func64, Try.ntmps64
    go_wp2_with (go_at_call 52; (with_reducible refine (num_at _ (Wr.zig n) _ HE HZ).mono ?_); rintro e w' ⟨v, rfl, ho, hb⟩)
    go_ret2
    exact ⟨v, rfl, ho, hb⟩
  · have HE : Hk (2 * n = (Wr.zig n : Int)) := ⟨by unfold Wr.zig; rw [if_neg h0]; omega⟩
    go_enter Try.func64, Try.ntmps64
    go_wp2_with (go_at_call 52; (with_reducible refine (num_at _ (Wr.zig n) _ HE HZ).mono ?_); rintro e w' ⟨v, rfl, ho, hb⟩)
    go_ret2
    exact ⟨v, rfl, ho, hb⟩
set_option maxRecDepth 100000 in
theorem rint_any (n : Int) (w : World) (hn : I62 n) :
    Calls Try.prog 41 #[.int .i64 n] w fun e w' => ∃ v, e = .returned v ∧ OwnB w' w.heap.size v (Wr.numL (Wr.zig n)).length (Wr.numL (Wr.zig n)) ∧ Below w.heap.size w w' := by
  have HZ := Hk.mk (zig_bd hn)
  unfold I62 at hn
  obtain ⟨h1, h2⟩ := hn
  by_cases h0 : n < 0
  · have HE : Hk (-2 * n - 1 = (Wr.zig n : Int)) := ⟨by unfold Wr.zig; rw [if_pos h0]; omega⟩
    go_enter Try.func41, Try.ntmps41
    go_wp2_with (go_at_call 40; (with_reducible refine (rnum_at _ (Wr.zig n) _ ?_ HZ).mono ?_); exact ⟨by have := HE.out; unfold wrap64; omega⟩; rintro e w' ⟨v, rfl, ho, hb⟩)
    go_ret
    exact ⟨v, rfl, ho, hb⟩
  · have HE : Hk (2 * n = (Wr.zig n : Int)) := ⟨by unfold Wr.zig; rw [if_neg h0]; omega⟩
    go_enter Try.func41, Try.ntmps41
    go_wp2_with (go_at_call 40; (with_reducible refine (rnum_at _ (Wr.zig n) _ HE HZ).mono ?_); rintro e w' ⟨v, rfl, ho, hb⟩)
    go_ret
    exact ⟨v, rfl, ho, hb⟩
set_option maxRecDepth 100000 in
theorem int_no (n : Int) (w : World) (hn : ¬ I62 n) :
    Calls Try.prog 64 #[.int .i64 n] w fun e w' => e = .returned (.tuple #[.slice none 0 0, .int .i64 2]) ∧ w = w' := by
  unfold I62 at hn
  by_cases h1 : n < -4611686018427387904
  · go_enter Try.func64, Try.ntmps64
    go_wp2
    go_ret2
    exact ⟨rfl, rfl⟩
  · have h2 : 4611686018427387904 ≤ n := by omega
    have g1 : decide (n < -4611686018427387904) = false := by simp; omega
    go_enter Try.func64, Try.ntmps64
    go_wp2
    go_ret2
    exact ⟨rfl, rfl⟩
set_option maxRecDepth 100000 in
theorem getint_any (a : Option Addr) (n c : Nat) (xs : List Int) (w : World) (h : By w w.heap.size a n xs) (hn : n ≤ 1099511627776) :
    Calls Try.prog 66 #[.slice a n c] w fun e w' => e = .returned (.tuple #[.int .i64 (Wr.unzig (Wr.getS xs).1), .int .i64 (Wr.getS xs).2.1, .int .i64 (Wr.getS xs).2.2]) ∧ w = w' := by
  have hb := Wr.getS_bd h.byt
  have HG := Hk.mk (getnum_any a n c xs w h hn)
  obtain ⟨R, hR⟩ : ∃ R, Wr.getS xs = R := ⟨_, rfl⟩
  rw [hR] at hb HG ⊢
  obtain ⟨N, K, E⟩ := R
  unfold Wr.GetOk at hb
  obtain ⟨h1, h2, h3, h4, h5, h6⟩ := hb
  simp only at h1 h2 HG ⊢
  clear h3 h4 h5 h6 h hR
  by_cases hp : N % 2 = 1
  · have HU : Hk (-(N / 2) - 1 = Wr.unzig N) := ⟨by unfold Wr.unzig; rw [if_pos hp]⟩
    have g1 : (N % 2 == 1) = true := by simpa using hp
    clear hp
    go_enter Try.func66, Try.ntmps66
    go_wp2_with (go_at_call 58; refine HG.out.mono ?_; rintro e w' ⟨rfl, rfl⟩)
    go_ret3
    exact ⟨by rw [← HU.out]; rfl, rfl⟩
  · have HU : Hk (N / 2 = Wr.unzig N) := ⟨by unfold Wr.unzig; rw [if_neg hp]⟩
    have g1 : (N % 2 == 1) = false := by simpa using hp
    clear hp
    go_enter Try.func66, Try.ntmps66
    go_wp2_with (go_at_call 58; refine HG.out.mono ?_; rintro e w' ⟨rfl, rfl⟩)
    go_ret3
    exact ⟨by rw [← HU.out]; rfl, rfl⟩
set_option maxRecDepth 100000 in
theorem rgetint_any (a : Option Addr) (n c : Nat) (xs : List Int) (w : World) (h : By w w.heap.size a n xs) (hn : n ≤ 1099511627776) :
    Calls Try.prog 63 #[.slice a n c] w fun e w' => e = .returned (.tuple #[.int .i64 (Wr.unzig (Wr.getS xs).1), .int .i64 (Wr.getS xs).2.1, .int .i64 (Wr.getS xs).2.2]) ∧ w = w' := by
  have hb := Wr.getS_bd h.byt
  have HG := Hk.mk (rgetnum_any a n c xs w h hn)
  obtain ⟨R, hR⟩ : ∃ R, Wr.getS xs = R := ⟨_, rfl⟩
  rw [hR] at hb HG ⊢
  obtain ⟨N, K, E⟩ := R
  unfold Wr.GetOk at hb
  obtain ⟨h1, h2, h3, h4, h5, h6⟩ := hb
  simp only at h1 h2 h6 HG ⊢
  clear h3 h4 h5 h hR
  by_cases he : E = 0
  · subst he
    clear h6
    by_cases hp : N % 2 = 1
    · have HU : Hk (-(N / 2) - 1 = Wr.unzig N) := ⟨by unfold Wr.unzig; rw [if_pos hp]⟩
      have g1 : (N % 2 == 1) = true := by simpa using hp
      clear hp
      go_enter Try.func63, Try.ntmps63
      go_wp2_with (go_at_call 62; refine HG.out.mono ?_; rintro e w' ⟨rfl, rfl⟩)
      go_ret3
      exact ⟨by rw [← HU.out]; rfl, rfl⟩
    · have HU : Hk (N / 2 = Wr.unzig N) := ⟨by unfold Wr.unzig; rw [if_neg hp]⟩
      have g1 : (N % 2 == 1) = false := by simpa using hp
      clear hp
      go_enter Try.func63, Try.ntmps63
      go_wp2_with (go_at_call 62; refine HG.out.mono ?_; rintro e w' ⟨rfl, rfl⟩)
      go_ret3
      exact ⟨by rw [← HU.out]; rfl, rfl⟩
  · obtain ⟨h7, rfl, rfl⟩ : (E = 1 ∨ E = 11) ∧ N = 0 ∧ K = 0 := by omega
    have g1 : (E == 0) = false := by simpa using he
    have g2 : (E != 0) = true := by simpa using he
    clear h7 he h6
    go_enter Try.func63, Try.ntmps63
    go_wp2_with (go_at_call 62; refine HG.out.mono ?_; rintro e w' ⟨rfl, rfl⟩)
    go_ret3
    exact ⟨rfl, rfl⟩
end Go.Proofs.Ytkffleclofkjmaa
