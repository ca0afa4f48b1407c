import Derived.Test.YtcgilmjhbdehpaaZbi
import Derived.Test.YtcgilmjhbdehpaaZbd
import Derived.IntWalk
import Derived.Deep.RegionHeld3
import Derived.Deep.QuietTactic
import Derived.BigQuiet
import Derived.Deep.RegionWith
import Derived.Deep.DeepCutAuto
import Derived.Deep.DeepFit
import Derived.Outline
import Derived.Test.YtcgilmjhbdehpaaZba
import Derived.Test.YtcgilmjhbdehpaaZbb
/- Contracts of layer 17: what a disc meets. -/
namespace Go.Proofs.Ytcgilmjhbdehpaa
open Go.RowKit
set_option linter.unusedVariables false
theorem bsS_bd {x c : Int} (hx : -1099511627776 ≤ x ∧ x ≤ 1099511627776) (hc : 0 ≤ c ∧ c ≤ 16384) : 0 ≤ bsS x c ∧ bsS x c ≤ 1200000000000 := by
  unfold bsS; (repeat' split) <;> omega
theorem bcellg' {W w1 : World} (hb : Below W.heap.size W w1) : (∀ b o, b < W.heap.size → w1.cell? ⟨b, o, none⟩ = W.cell? ⟨b, o, none⟩) ∧ (∀ b o, b < W.heap.size → w1.frozen? ⟨b, o, none⟩ = W.frozen? ⟨b, o, none⟩) :=
  ⟨fun b o h => hb.cell (p := ⟨b, o, none⟩) h, fun b o h => hb.frozen (p := ⟨b, o, none⟩) h⟩
theorem m_wakes : meetsS 1 0 32768 32768 1 = true := by decide
end Go.Proofs.Ytcgilmjhbdehpaa
/- The contracts of package sector that make no list, and of its reference. -/
namespace Go.Proofs.Ytcgilmjhbdehpaa
open Go.RowKit
set_option linter.unusedVariables false
def Fx.szB (W H : Int) : Bool := decide (1 ≤ W ∧ W ≤ 128 ∧ 1 ≤ H ∧ H ≤ 128)
def Fx.acS (n : Int) : Int := (n + 8 - 1) / 8
def Fx.ofS (W t : Int) : Int := t % W / 8 + Fx.acS W * (t / W / 8)
theorem Fx.acS_bd {n : Int} (a : 1 ≤ n) (b : n ≤ 128) : 1 ≤ Fx.acS n ∧ Fx.acS n ≤ 16 := by unfold Fx.acS; omega
theorem hold0 {P : Program} {F : FuncId} {args : Array Value} {w w0 : World} {r : Ending} {B : Nat} (h : Calls P F args w fun e w' => e = r ∧ Below w.heap.size w w') (hB : Below B w0 w) (hs : B ≤ w.heap.size) : Calls P F args w fun e w' => e = r ∧ Below B w0 w' := h.mono fun e w' ⟨h1, h2⟩ => ⟨h1, hB.trans (h2.mono hs)⟩
theorem wr_in' {x : Int} (h : -9223372036854775808 ≤ x ∧ x ≤ 9223372036854775807) : IntKind.i64.wrap x = x := IntWalk.i64_in _ ⟨h.1, h.2⟩
theorem sized_any (W H : Int) (w : World) : Calls Try.prog 35 #[.int .i64 W, .int .i64 H] w fun e w' => e = .returned (.bool (Fx.szB W H)) ∧ Below w.heap.size w w' := by
  by_cases qb0 : ¬ (1 ≤ W)
  · have b0 : decide (1 ≤ W) = false := by simp; omega
    have R : Hk (Fx.szB W H = false) := ⟨by unfold Fx.szB; simp; omega⟩
    go_enter Try.func35, Try.ntmps35
    go_wp2
    go_ret
    exact ⟨rbo R.out.symm, Below.refl _ _⟩
  have b0 : decide (1 ≤ W) = true := by simp; omega
  by_cases qb1 : ¬ (W ≤ 128)
  · have b1 : decide (W ≤ 128) = false := by simp; omega
    have R : Hk (Fx.szB W H = false) := ⟨by unfold Fx.szB; simp; omega⟩
    go_enter Try.func35, Try.ntmps35
    go_wp2
    go_ret
    exact ⟨rbo R.out.symm, Below.refl _ _⟩
  have b1 : decide (W ≤ 128) = true := by simp; omega
  by_cases qb2 : ¬ (1 ≤ H)
  · have b2 : decide (1 ≤ H) = false := by simp; omega
    have R : Hk (Fx.szB W H = false) := ⟨by unfold Fx.szB; simp; omega⟩
    go_enter Try.func35, Try.ntmps35
    go_wp2
    go_ret
    exact ⟨rbo R.out.symm, Below.refl _ _⟩
  have b2 : decide (1 ≤ H) = true := by simp; omega
  by_cases qb3 : ¬ (H ≤ 128)
  · have b3 : decide (H ≤ 128) = false := by simp; omega
    have R : Hk (Fx.szB W H = false) := ⟨by unfold Fx.szB; simp; omega⟩
    go_enter Try.func35, Try.ntmps35
    go_wp2
    go_ret
    exact ⟨rbo R.out.symm, Below.refl _ _⟩
  have b3 : decide (H ≤ 128) = true := by simp; omega
  have R : Hk (Fx.szB W H = true) := ⟨by unfold Fx.szB; simp; omega⟩
  go_enter Try.func35, Try.ntmps35
  go_wp2
  go_ret
  exact ⟨rbo R.out.symm, Below.refl _ _⟩
theorem sized_as (r : Bool) (W H : Int) (w : World) (E : Hk (Fx.szB W H = r)) : Calls Try.prog 35 #[.int .i64 W, .int .i64 H] w fun e w' => e = .returned (.bool r) ∧ Below w.heap.size w w' := by
  obtain ⟨rfl⟩ := E; exact sized_any W H w
theorem across_any (n : Int) (w : World) (a : 1 ≤ n) (b : n ≤ 128) : Calls Try.prog 45 #[.int .i64 n] w fun e w' => e = .returned (.int .i64 (Fx.acS n)) ∧ Below w.heap.size w w' := by
  have e1 : IntKind.i64.wrap (n + 8) = n + 8 := wr_in' (by omega)
  have e2 : IntKind.i64.wrap (n + 8 - 1) = n + 8 - 1 := wr_in' (by omega)
  have e3 : (n + 8 - 1).tdiv 8 = (n + 8 - 1) / 8 := Int.tdiv_eq_ediv_of_nonneg (by omega)
  have e4 : IntKind.i64.wrap ((n + 8 - 1) / 8) = (n + 8 - 1) / 8 := wr_in' (by omega)
  go_enter Try.func45, Try.ntmps45
  go_wp2
  go_ret
  exact ⟨rfl, Below.refl _ _⟩
theorem racross_any (n : Int) (w : World) (a : 1 ≤ n) (b : n ≤ 128) : Calls Try.prog 43 #[.int .i64 n] w fun e w' => e = .returned (.int .i64 (Fx.acS n)) ∧ Below w.heap.size w w' := by
  have e1 : IntKind.i64.wrap (n + 8) = n + 8 := wr_in' (by omega)
  have e2 : IntKind.i64.wrap (n + 8 - 1) = n + 8 - 1 := wr_in' (by omega)
  have e3 : (n + 8 - 1).tdiv 8 = (n + 8 - 1) / 8 := Int.tdiv_eq_ediv_of_nonneg (by omega)
  have e4 : IntKind.i64.wrap ((n + 8 - 1) / 8) = (n + 8 - 1) / 8 := wr_in' (by omega)
  go_enter Try.func43, Try.ntmps43
  go_wp2
  go_ret
  exact ⟨rfl, Below.refl _ _⟩
theorem sof_any (W t : Int) (w : World) (w1 : 1 ≤ W) (w2 : W ≤ 128) (t0 : 0 ≤ t) (t1 : t ≤ 16384) : Calls Try.prog 50 #[.int .i64 W, .int .i64 t] w fun e w' => e = .returned (.int .i64 (Fx.ofS W t)) ∧ Below w.heap.size w w' := by
  have q1 : 0 ≤ t % W := Int.emod_nonneg _ (by omega)
  have q2 : t % W < W := Int.emod_lt_of_pos _ (by omega)
  have q3 : 0 ≤ t / W := Int.ediv_nonneg t0 (by omega)
  have q4 : t / W ≤ t := Int.ediv_le_self _ t0
  have w0 : ¬ W = 0 := by omega
  obtain ⟨c1, c2⟩ := Fx.acS_bd w1 w2
  have z0 : 0 ≤ t / W / 8 := by omega
  have z1 : t / W / 8 ≤ 2048 := by omega
  have m0 : 0 ≤ Fx.acS W * (t / W / 8) := Int.mul_nonneg (by omega) z0
  have m1 : Fx.acS W * (t / W / 8) ≤ 16 * 2048 := Int.mul_le_mul c2 z1 z0 (by omega)
  have r1 : t.tmod W = t % W := Int.tmod_eq_emod_of_nonneg t0
  have r2 : t.tdiv W = t / W := Int.tdiv_eq_ediv_of_nonneg t0
  have r3 : (t % W).tdiv 8 = t % W / 8 := Int.tdiv_eq_ediv_of_nonneg q1
  have r4 : (t / W).tdiv 8 = t / W / 8 := Int.tdiv_eq_ediv_of_nonneg q3
  have e1 : IntKind.i64.wrap (t / W) = t / W := wr_in' (by omega)
  have e2 : IntKind.i64.wrap (t % W / 8) = t % W / 8 := wr_in' (by omega)
  have e3 : IntKind.i64.wrap (t / W / 8) = t / W / 8 := wr_in' (by omega)
  have e4 : IntKind.i64.wrap (Fx.acS W * (t / W / 8)) = Fx.acS W * (t / W / 8) := wr_in' (by omega)
  have e5 : IntKind.i64.wrap (t % W / 8 + Fx.acS W * (t / W / 8)) = t % W / 8 + Fx.acS W * (t / W / 8) := wr_in' (by omega)
  clear q1 q2 q3 q4 z0 z1 m0 m1 c1 c2
  go_enter Try.func50, Try.ntmps50
  go_wp2
  have eb := Below.refl w.heap.size w
  go_region_held3 (fun w' => Below w.heap.size w w') (first | exact eb | exact Below.drew eb | go_keep) (first | (go_at_call 45; go_must (refine (hold0 (B := w.heap.size) (w0 := w) (across_any W _ w1 w2) ?_ ?_).mono ?_); (first | assumption | exact eb.drew); (exact (show w.heap.size ≤ _ from (by first | exact Below.size eb | exact Below.size (Below.drew eb)))); rintro e w' ⟨rfl, eb⟩))
  go_wp2
  go_ret
  exact ⟨rfl, by first | exact eb | exact eb.drew⟩
theorem rsof_any (W t : Int) (w : World) (w1 : 1 ≤ W) (w2 : W ≤ 128) (t0 : 0 ≤ t) (t1 : t ≤ 16384) : Calls Try.prog 26 #[.int .i64 W, .int .i64 t] w fun e w' => e = .returned (.int .i64 (Fx.ofS W t)) ∧ Below w.heap.size w w' := by
  have q1 : 0 ≤ t % W := Int.emod_nonneg _ (by omega)
  have q2 : t % W < W := Int.emod_lt_of_pos _ (by omega)
  have q3 : 0 ≤ t / W := Int.ediv_nonneg t0 (by omega)
  have q4 : t / W ≤ t := Int.ediv_le_self _ t0
  have w0 : ¬ W = 0 := by omega
  obtain ⟨c1, c2⟩ := Fx.acS_bd w1 w2
  have z0 : 0 ≤ t / W / 8 := by omega
  have z1 : t / W / 8 ≤ 2048 := by omega
  have m0 : 0 ≤ Fx.acS W * (t / W / 8) := Int.mul_nonneg (by omega) z0
  have m1 : Fx.acS W * (t / W / 8) ≤ 16 * 2048 := Int.mul_le_mul c2 z1 z0 (by omega)
  have r1 : t.tmod W = t % W := Int.tmod_eq_emod_of_nonneg t0
  have r2 : t.tdiv W = t / W := Int.tdiv_eq_ediv_of_nonneg t0
  have r3 : (t % W).tdiv 8 = t % W / 8 := Int.tdiv_eq_ediv_of_nonneg q1
  have r4 : (t / W).tdiv 8 = t / W / 8 := Int.tdiv_eq_ediv_of_nonneg q3
  have e1 : IntKind.i64.wrap (t / W) = t / W := wr_in' (by omega)
  have e2 : IntKind.i64.wrap (t % W / 8) = t % W / 8 := wr_in' (by omega)
  have e3 : IntKind.i64.wrap (t / W / 8) = t / W / 8 := wr_in' (by omega)
  have e4 : IntKind.i64.wrap (Fx.acS W * (t / W / 8)) = Fx.acS W * (t / W / 8) := wr_in' (by omega)
  have e5 : IntKind.i64.wrap (t % W / 8 + Fx.acS W * (t / W / 8)) = t % W / 8 + Fx.acS W * (t / W / 8) := wr_in' (by omega)
  clear q1 q2 q3 q4 z0 z1 m0 m1 c1 c2
  go_enter Try.func26, Try.ntmps26
  go_wp2
  have eb := Below.refl w.heap.size w
  go_region_held3 (fun w' => Below w.heap.size w w') (first | exact eb | exact Below.drew eb | go_keep) (first | (go_at_call 43; go_must (refine (hold0 (B := w.heap.size) (w0 := w) (racross_any W _ w1 w2) ?_ ?_).mono ?_); (first | assumption | exact eb.drew); (exact (show w.heap.size ≤ _ from (by first | exact Below.size eb | exact Below.size (Below.drew eb)))); rintro e w' ⟨rfl, eb⟩))
  go_wp2
  go_ret
  exact ⟨rfl, by first | exact eb | exact eb.drew⟩
end Go.Proofs.Ytcgilmjhbdehpaa
/- The contracts of package sector: Count and Of. -/
namespace Go.Proofs.Ytcgilmjhbdehpaa
open Go.RowKit
set_option linter.unusedVariables false
theorem count_yes (W H : Int) (w : World) (E : Hk (Fx.szB W H = true)) : Calls Try.prog 28 #[.int .i64 W, .int .i64 H] w fun e w' => e = .returned (.tuple #[.int .i64 (Fx.acS W * Fx.acS H), .int .i64 0]) ∧ Below w.heap.size w w' := by
  have hs := E.out
  unfold Fx.szB at hs
  simp at hs
  obtain ⟨w1, w2, h1, h2⟩ := hs
  obtain ⟨a1, a2⟩ := Fx.acS_bd w1 w2
  obtain ⟨a3, a4⟩ := Fx.acS_bd h1 h2
  have m0 : 0 ≤ Fx.acS W * Fx.acS H := Int.mul_nonneg (by omega) (by omega)
  have m1 : Fx.acS W * Fx.acS H ≤ 16 * 16 := Int.mul_le_mul a2 a4 (by omega) (by omega)
  have e1 : IntKind.i64.wrap (Fx.acS W * Fx.acS H) = Fx.acS W * Fx.acS H := wr_in' (by omega)
  clear m0 m1 a1 a2 a3 a4
  go_enter Try.func28, Try.ntmps28
  go_wp2_with (first | (go_at_call 35; (with_reducible refine (sized_as true W H _ E).mono ?_); rintro e w' ⟨rfl, eb⟩) | (go_at_call 45; go_must (refine (across_any _ _ ?_ ?_).mono ?_); (first | exact w1 | exact h1); (first | exact w2 | exact h2); rintro e w2 ⟨rfl, eb2⟩; replace eb := eb.trans (eb2.mono eb.size); clear eb2))
  refine bodyPost_ret (v := .tuple #[.int .i64 (Fx.acS W * Fx.acS H), .int .i64 0]) (by simp [results, Try.results28, go_sem]) rfl ⟨rfl, ?_⟩
  exact eb
theorem count_no (W H : Int) (w : World) (E : Hk (Fx.szB W H = false)) : Calls Try.prog 28 #[.int .i64 W, .int .i64 H] w fun e w' => e = .returned (.tuple #[.int .i64 0, .int .i64 1]) ∧ Below w.heap.size w w' := by
  go_enter Try.func28, Try.ntmps28
  go_wp2_with (go_at_call 35; (with_reducible refine (sized_as false W H _ E).mono ?_); rintro e w' ⟨rfl, eb⟩)
  refine bodyPost_ret (v := .tuple #[.int .i64 0, .int .i64 1]) (by simp [results, Try.results28, go_sem]) rfl ⟨rfl, ?_⟩
  exact eb
theorem of_yes10 (W H t : Int) (w : World) (E : Hk (Fx.szB W H = true)) (t0 : 0 ≤ t) (t1 : t < W * H) : Calls Try.prog 34 #[.int .i64 W, .int .i64 H, .int .i64 t] w fun e w' => e = .returned (.tuple #[.int .i64 (Fx.ofS W t), .int .i64 0]) ∧ Below w.heap.size w w' := by
  have hs := E.out
  unfold Fx.szB at hs
  simp at hs
  obtain ⟨w1, w2, h1, h2⟩ := hs
  obtain ⟨n1, n2⟩ := mul_bd w1 w2 h1 h2
  have e1 : IntKind.i64.wrap (W * H) = W * H := wr_in' (by omega)
  have b0 : decide (t < 0) = false := by simp; omega
  have b1 : decide (W * H ≤ t) = false := by simp; omega
  go_enter Try.func34, Try.ntmps34
  go_wp2_with (first | (go_at_call 35; (with_reducible refine (sized_as true W H _ E).mono ?_); rintro e w' ⟨rfl, eb⟩) | (go_at_call 50; go_must (refine (sof_any W t _ w1 w2 t0 (by omega)).mono ?_); rintro e w2 ⟨rfl, eb2⟩))
  refine bodyPost_ret (v := .tuple #[.int .i64 (Fx.ofS W t), .int .i64 0]) (by simp [results, Try.results34, go_sem]) rfl ⟨rfl, ?_⟩
  exact eb.trans (eb2.mono eb.size)
theorem of_neg10 (W H t : Int) (w : World) (E : Hk (Fx.szB W H = true)) (t0 : t < 0) : Calls Try.prog 34 #[.int .i64 W, .int .i64 H, .int .i64 t] w fun e w' => e = .returned (.tuple #[.int .i64 0, .int .i64 3]) ∧ Below w.heap.size w w' := by
  have hs := E.out
  unfold Fx.szB at hs
  simp at hs
  obtain ⟨w1, w2, h1, h2⟩ := hs
  obtain ⟨n1, n2⟩ := mul_bd w1 w2 h1 h2
  have e1 : IntKind.i64.wrap (W * H) = W * H := wr_in' (by omega)
  have b0 : decide (t < 0) = true := by simp; omega
  go_enter Try.func34, Try.ntmps34
  go_wp2_with (go_at_call 35; (with_reducible refine (sized_as true W H _ E).mono ?_); rintro e w' ⟨rfl, eb⟩)
  refine bodyPost_ret (v := .tuple #[.int .i64 0, .int .i64 3]) (by simp [results, Try.results34, go_sem]) rfl ⟨rfl, ?_⟩
  exact eb
theorem of_far10 (W H t : Int) (w : World) (E : Hk (Fx.szB W H = true)) (t0 : 0 ≤ t) (t1 : W * H ≤ t) : Calls Try.prog 34 #[.int .i64 W, .int .i64 H, .int .i64 t] w fun e w' => e = .returned (.tuple #[.int .i64 0, .int .i64 3]) ∧ Below w.heap.size w w' := by
  have hs := E.out
  unfold Fx.szB at hs
  simp at hs
  obtain ⟨w1, w2, h1, h2⟩ := hs
  obtain ⟨n1, n2⟩ := mul_bd w1 w2 h1 h2
  have e1 : IntKind.i64.wrap (W * H) = W * H := wr_in' (by omega)
  have b0 : decide (t < 0) = false := by simp; omega
  have b1 : decide (W * H ≤ t) = true := by simp; omega
  go_enter Try.func34, Try.ntmps34
  go_wp2_with (go_at_call 35; (with_reducible refine (sized_as true W H _ E).mono ?_); rintro e w' ⟨rfl, eb⟩)
  refine bodyPost_ret (v := .tuple #[.int .i64 0, .int .i64 3]) (by simp [results, Try.results34, go_sem]) rfl ⟨rfl, ?_⟩
  exact eb
theorem of_form10 (W H t : Int) (w : World) (E : Hk (Fx.szB W H = false)) : Calls Try.prog 34 #[.int .i64 W, .int .i64 H, .int .i64 t] w fun e w' => e = .returned (.tuple #[.int .i64 0, .int .i64 1]) ∧ Below w.heap.size w w' := by
  go_enter Try.func34, Try.ntmps34
  go_wp2_with (go_at_call 35; (with_reducible refine (sized_as false W H _ E).mono ?_); rintro e w' ⟨rfl, eb⟩)
  refine bodyPost_ret (v := .tuple #[.int .i64 0, .int .i64 1]) (by simp [results, Try.results34, go_sem]) rfl ⟨rfl, ?_⟩
  exact eb
end Go.Proofs.Ytcgilmjhbdehpaa
/- Plain words of layer 20: the places about a goal, ring by ring. -/
namespace Go.Proofs.Ytcgilmjhbdehpaa
open Go.RowKit
set_option linter.unusedVariables false
set_option linter.unusedSimpArgs false
/-- Is t on the ring d about g, its column and row by multiples of gap? -/
def slX (gap d : Int) (x y a b : Int) : Bool := decide (max (max (x - a) (-(x - a))) (max (y - b) (-(y - b))) = d ∧ (x - a) % gap = 0 ∧ (y - b) % gap = 0)
def slP (W : Int) (g : Nat) (gap d : Int) (t : Nat) : Bool := slX gap d ((t : Int) % W) ((t : Int) / W) ((g : Int) % W) ((g : Int) / W)
def ringL (W : Int) (g n : Nat) (gap d : Int) : List Nat := (List.range n).filter (slP W g gap d)
def slF (W : Int) (g n : Nat) (gd : Nat → Bool) (gap d : Int) : List Nat := (ringL W g n gap d).filter gd
/-- All of the first f rings. -/
def slL (W : Int) (g n : Nat) (gd : Nat → Bool) (gap : Int) : Nat → List Nat
  | 0 => []
  | f + 1 => slL W g n gd gap f ++ slF W g n gd gap f
theorem filter_range_step {n : Nat} {p q : Nat → Bool} {k : Nat} (hk : k < n) (h1 : ∀ t, t < n → q t = (p t || decide (t = k))) (h2 : ∀ t, t < n → p t = true → t < k) : (List.range n).filter q = (List.range n).filter p ++ [k] := by
  obtain ⟨m, rfl⟩ : ∃ m, n = k + 1 + m := ⟨n - (k + 1), by omega⟩
  rw [List.range_add, List.range_succ]
  simp only [List.filter_append]
  have e1 : (List.range k).filter q = (List.range k).filter p := List.filter_congr fun t ht => by
    have := List.mem_range.1 ht
    rw [h1 t (by omega)]
    have : decide (t = k) = false := decide_eq_false (by omega)
    rw [this, Bool.or_false]
  have e2 : (List.map (fun x => k + 1 + x) (List.range m)).filter q = [] := by
    rw [List.filter_eq_nil_iff]
    intro t ht
    obtain ⟨j, hj, rfl⟩ := List.mem_map.1 ht
    have hj := List.mem_range.1 hj
    rw [h1 _ (by omega)]
    intro hh
    rw [Bool.or_eq_true] at hh
    rcases hh with hh | hh
    · have := h2 _ (by omega) hh; omega
    · have := of_decide_eq_true hh; omega
  have e3 : (List.map (fun x => k + 1 + x) (List.range m)).filter p = [] := by
    rw [List.filter_eq_nil_iff]
    intro t ht
    obtain ⟨j, hj, rfl⟩ := List.mem_map.1 ht
    have hj := List.mem_range.1 hj
    intro hh
    have := h2 _ (by omega) hh
    omega
  have e4 : [k].filter q = [k] := by
    rw [List.filter_cons_of_pos]
    · rfl
    · rw [h1 k (by omega)]; simp
  have e5 : [k].filter p = [] := by
    rw [List.filter_cons_of_neg]
    · rfl
    · intro hh
      have := h2 k (by omega) hh
      omega
  rw [e1, e2, e3, e4, e5]
  simp
theorem filter_range_same {n : Nat} {p q : Nat → Bool} (h : ∀ t, t < n → q t = p t) : (List.range n).filter q = (List.range n).filter p :=
  List.filter_congr fun t ht => h t (List.mem_range.1 ht)
/-- Before a row, and in it before a column. -/
def befP (W : Int) (g : Nat) (gap d row col : Int) (t : Nat) : Bool := slP W g gap d t && decide ((t : Int) / W < row ∨ ((t : Int) / W = row ∧ (t : Int) % W < col))
def befL (W : Int) (g n : Nat) (gap d row col : Int) : List Nat := (List.range n).filter (befP W g gap d row col)
structure SlOk (W H : Int) (n g : Nat) (gap d : Int) : Prop where
  w1 : 1 ≤ W
  w2 : W ≤ 128
  h1 : 1 ≤ H
  h2 : H ≤ 128
  nn : (n : Int) = W * H
  gn : g < n
  gp : gap = 1 ∨ gap = 3 ∨ gap = 5 ∨ gap = 7
  d0 : 0 ≤ d
  d1 : d % gap = 0
  d2 : d ≤ 300
section
variable {W H : Int} {n g : Nat} {gap d row col nx : Int}
theorem SlOk.xy (h : SlOk W H n g gap d) {t : Nat} (ht : t < n) : 0 ≤ (t : Int) % W ∧ (t : Int) % W < W ∧ 0 ≤ (t : Int) / W ∧ (t : Int) / W < H ∧ (t : Int) % W + W * ((t : Int) / W) = t := by
  have := h.w1
  have := h.nn
  exact ⟨Int.emod_nonneg _ (by omega), Int.emod_lt_of_pos _ (by omega), Int.ediv_nonneg (by omega) (by omega), Int.ediv_lt_of_lt_mul (by omega) (by rw [Int.mul_comm]; omega), Int.emod_add_mul_ediv _ _⟩
theorem slX_iff (x y a b : Int) : slX gap d x y a b = true ↔ max (max (x - a) (-(x - a))) (max (y - b) (-(y - b))) = d ∧ (x - a) % gap = 0 ∧ (y - b) % gap = 0 := by unfold slX; rw [decide_eq_true_iff]
/-- Nothing lies before the first row. -/
theorem bef_start (h : SlOk W H n g gap d) : befL W g n gap d ((g : Int) / W - d) ((g : Int) % W - d) = [] := by
  unfold befL
  rw [List.filter_eq_nil_iff]
  intro t ht hh
  have ht := List.mem_range.1 ht
  unfold befP at hh
  rw [Bool.and_eq_true] at hh
  obtain ⟨h1, h2⟩ := hh
  have h2 := of_decide_eq_true h2
  have h1 := (slX_iff _ _ _ _).1 h1
  omega
/-- A row's end is the next one's beginning. -/
theorem bef_row (h : SlOk W H n g gap d) {c c' : Int} (hr : (row - (g : Int) / W) % gap = 0) (hc : (g : Int) % W + d < c) (hc' : c' = (g : Int) % W - d) : befL W g n gap d (row + gap) c' = befL W g n gap d row c := by
  unfold befL
  refine filter_range_same fun t ht => ?_
  unfold befP
  by_cases hs : slP W g gap d t = true
  · rw [hs]
    have h1 := (slX_iff _ _ _ _).1 hs
    obtain ⟨a, b, e⟩ := h1
    congr 1
    have hd := h.d1
    have : ((t : Int) / W < row + gap ∨ (t : Int) / W = row + gap ∧ (t : Int) % W < c') ↔ ((t : Int) / W < row ∨ (t : Int) / W = row ∧ (t : Int) % W < c) := by
      rcases h.gp with q | q | q | q <;> subst q <;> omega
    exact decide_eq_decide.2 this
  · rw [Bool.not_eq_true] at hs
    rw [hs]
    rfl
/-- All is before a row behind the last one. -/
theorem bef_end (h : SlOk W H n g gap d) (hr : (g : Int) / W + d < row) : befL W g n gap d row col = ringL W g n gap d := by
  unfold befL ringL
  refine filter_range_same fun t ht => ?_
  unfold befP
  by_cases hs : slP W g gap d t = true
  · rw [hs]
    have h1 := (slX_iff _ _ _ _).1 hs
    have : decide ((t : Int) / W < row ∨ ((t : Int) / W = row ∧ (t : Int) % W < col)) = true := decide_eq_true (by omega)
    rw [this]
    rfl
  · rw [Bool.not_eq_true] at hs
    rw [hs]
    rfl
/-- What is known of a place in the loops. -/
structure SlAt (gx gy gap d row col nx : Int) : Prop where
  r0 : gy - d ≤ row
  r1 : row ≤ gy + d
  rm : (row - gy) % gap = 0
  c0 : gx - d ≤ col
  c1 : col ≤ gx + d
  cm : (col - gx) % gap = 0
  nx : ((row = gy - d ∨ row = gy + d) ∧ nx = gap) ∨ (gy - d < row ∧ row < gy + d ∧ nx = 2 * d ∧ (col = gx - d ∨ col = gx + d))
theorem SlAt.on (q : SlAt ((g : Int) % W) ((g : Int) / W) gap d row col nx) : slX gap d col row ((g : Int) % W) ((g : Int) / W) = true := by
  rw [slX_iff]
  obtain ⟨a, b, c, d, e, f, i⟩ := q
  exact ⟨by omega, f, c⟩
theorem bef_in (h : SlOk W H n g gap d) (q : SlAt ((g : Int) % W) ((g : Int) / W) gap d row col nx) (k : Nat) (hk : (k : Int) = col + W * row) (x0 : 0 ≤ col) (x1 : col < W) (y0 : 0 ≤ row) (y1 : row < H) : k < n ∧ befL W g n gap d row (col + nx) = befL W g n gap d row col ++ [k] := by
  have w1 := h.w1
  have hn := h.nn
  have hkn : k < n := by
    have q : W * (row + 1) ≤ W * H := Int.mul_le_mul_of_nonneg_left (by omega) (by omega)
    rw [Int.mul_add] at q
    omega
  have kx : (k : Int) % W = col := by rw [hk, Int.add_mul_emod_self_left, Int.emod_eq_of_lt x0 x1]
  have ky : (k : Int) / W = row := by rw [hk, Int.add_mul_ediv_left _ _ (by omega), Int.ediv_eq_zero_of_lt x0 x1]; omega
  refine ⟨hkn, ?_⟩
  have hon := q.on
  unfold befL
  refine filter_range_step hkn (fun t ht => ?_) (fun t ht hp => ?_)
  · obtain ⟨t0, t1, t2, t3, te⟩ := h.xy ht
    by_cases e : t = k
    · subst e
      unfold befP slP
      rw [kx, ky, hon]
      have hd := h.d0
      have hg := h.gp
      have hnx : 0 < nx := by have := q.nx; omega
      have : decide (row < row ∨ row = row ∧ col < col + nx) = true := decide_eq_true (by omega)
      rw [this]
      simp
    · have e' : decide (t = k) = false := decide_eq_false e
      rw [e', Bool.or_false]
      unfold befP
      by_cases hs : slP W g gap d t = true
      · rw [hs]
        obtain ⟨s1, s2, s3⟩ := (slX_iff _ _ _ _).1 hs
        have hne : ¬ ((t : Int) / W = row ∧ (t : Int) % W = col) := by
          rintro ⟨e1, e2⟩
          rw [e1, e2] at te
          omega
        congr 1
        have hd0 := h.d0
        have hd1 := h.d1
        obtain ⟨a, b, c, d', e', f, i⟩ := q
        refine decide_eq_decide.2 ?_
        generalize (t : Int) / W = ty at *
        generalize (t : Int) % W = tx at *
        generalize (g : Int) / W = gy at *
        generalize (g : Int) % W = gx at *
        rcases h.gp with q | q | q | q <;> subst q <;> omega
      · rw [Bool.not_eq_true] at hs
        rw [hs]
        rfl
  · obtain ⟨t0, t1, t2, t3, te⟩ := h.xy ht
    unfold befP at hp
    rw [Bool.and_eq_true] at hp
    have hp := of_decide_eq_true hp.2
    rcases hp with hp | ⟨hp, hp2⟩
    · have q : W * ((t : Int) / W + 1) ≤ W * row := Int.mul_le_mul_of_nonneg_left (by omega) (by omega)
      rw [Int.mul_add] at q
      omega
    · rw [hp] at te
      omega
theorem bef_out (h : SlOk W H n g gap d) (q : SlAt ((g : Int) % W) ((g : Int) / W) gap d row col nx) (ho : ¬ (0 ≤ col ∧ col < W ∧ 0 ≤ row ∧ row < H)) : befL W g n gap d row (col + nx) = befL W g n gap d row col := by
  unfold befL
  refine filter_range_same fun t ht => ?_
  obtain ⟨t0, t1, t2, t3, te⟩ := h.xy ht
  unfold befP
  by_cases hs : slP W g gap d t = true
  · rw [hs]
    obtain ⟨s1, s2, s3⟩ := (slX_iff _ _ _ _).1 hs
    congr 1
    have hd0 := h.d0
    have hd1 := h.d1
    obtain ⟨a, b, c, d', e', f, i⟩ := q
    refine decide_eq_decide.2 ?_
    generalize (t : Int) / W = ty at *
    generalize (t : Int) % W = tx at *
    generalize (g : Int) / W = gy at *
    generalize (g : Int) % W = gx at *
    rcases h.gp with q | q | q | q <;> subst q <;> omega
  · rw [Bool.not_eq_true] at hs
    rw [hs]
    rfl
/-- No ring that is no multiple of the gap has a place. -/
theorem ring_none (h : gap = 1 ∨ gap = 3 ∨ gap = 5 ∨ gap = 7) {f : Int} (hf : f % gap ≠ 0) : ringL W g n gap f = [] := by
  unfold ringL
  rw [List.filter_eq_nil_iff]
  intro t ht hh
  obtain ⟨s1, s2, s3⟩ := (slX_iff _ _ _ _).1 hh
  generalize (t : Int) / W = ty at *
  generalize (t : Int) % W = tx at *
  generalize (g : Int) / W = gy at *
  generalize (g : Int) % W = gx at *
  rcases h with q | q | q | q <;> subst q <;> omega
end
theorem slL_skip (W : Int) (g n : Nat) (gd : Nat → Bool) {gap : Int} (h : gap = 1 ∨ gap = 3 ∨ gap = 5 ∨ gap = 7) {f : Nat} (hf : (f : Int) % gap = 0) : ∀ k : Nat, (k : Int) < gap → slL W g n gd gap (f + 1 + k) = slL W g n gd gap (f + 1)
  | 0, _ => rfl
  | k + 1, hk => by
    show slL W g n gd gap (f + 1 + k) ++ slF W g n gd gap (f + 1 + k : Nat) = _
    rw [slL_skip W g n gd h hf k (by omega)]
    unfold slF
    rw [ring_none h (by rcases h with q | q | q | q <;> subst q <;> omega)]
    simp
end Go.Proofs.Ytcgilmjhbdehpaa
/- Layer 13: two lists of one's own that grow side by side: rows of numbers, their goals. -/
namespace Go.Proofs.Ytcgilmjhbdehpaa
open Go.ChangeShapes Go.WideShapes Go.ChangeAt Go.RowKit Go.Deep
set_option linter.unusedVariables false
set_option linter.unusedSimpArgs false
def lFq (J : Nat → Nat) (n m : Nat) : List Value := (List.range m).map fun j => .slice (some ⟨J j, 0, none⟩) n n
def lTq (G : Nat → Nat) (m : Nat) : List Value := (List.range m).map fun j => .int .i64 (G j)
def setF {α : Type} (F : Nat → α) (k : Nat) (x : α) (j : Nat) : α := if j = k then x else F j
theorem setF_at {α : Type} (F : Nat → α) (k : Nat) (x : α) : setF F k x k = x := if_pos rfl
theorem setF_far {α : Type} {F : Nat → α} {k j : Nat} {x : α} (h : j ≠ k) : setF F k x j = F j := if_neg h
theorem lFq_set (J : Nat → Nat) (n m x : Nat) : lFq (setF J m x) n (m + 1) = lFq J n m ++ [.slice (some ⟨x, 0, none⟩) n n] := by
  unfold lFq
  rw [List.range_succ, List.map_append]
  congr 1
  · exact List.map_congr_left fun j hj => by rw [setF_far (by have := List.mem_range.1 hj; omega)]
  · simp [setF_at]
theorem lTq_set (G : Nat → Nat) (m x : Nat) : lTq (setF G m x) (m + 1) = lTq G m ++ [.int .i64 x] := by
  unfold lTq
  rw [List.range_succ, List.map_append]
  congr 1
  · exact List.map_congr_left fun j hj => by rw [setF_far (by have := List.mem_range.1 hj; omega)]
  · simp [setF_at]
/-- m rows of n numbers, and k goals. -/
structure Fq (w : World) (S n : Nat) (v v' : Value) (m k : Nat) (G J : Nat → Nat) (D : Nat → Nat → Int) : Prop where
  rf : w.ownsRow S 23 1 v m (lFq J n m)
  rt : w.ownsRow S 3 1 v' k (lTq G k)
  ap : v.ownBlock = none ∨ v'.ownBlock = none ∨ v.ownBlock ≠ v'.ownBlock
  ar : ∀ j, j < m → v.ownBlock ≠ some (J j) ∧ v'.ownBlock ≠ some (J j) ∧ Arr w (J j) n 3 (fun t => .int .i64 (D j t))
theorem Fq.nil (w : World) (S n : Nat) (G J : Nat → Nat) (D : Nat → Nat → Int) : Fq w S n (.slice none 0 0) (.slice none 0 0) 0 0 G J D :=
  ⟨⟨rfl, Or.inl ⟨rfl, rfl⟩⟩, ⟨rfl, Or.inl ⟨rfl, rfl⟩⟩, Or.inl rfl, fun j hj => absurd hj (by omega)⟩
theorem Fq.drew {w : World} {S n m k : Nat} {v v' : Value} {G J : Nat → Nat} {D : Nat → Nat → Int} (h : Fq w S n v v' m k G J D) : Fq w.drew S n v v' m k G J D := ⟨h.rf, h.rt, h.ap, fun j hj => ⟨(h.ar j hj).1, (h.ar j hj).2.1, (h.ar j hj).2.2.drew⟩⟩
theorem Fq.drewN {w : World} {S n m k : Nat} {v v' : Value} {G J : Nat → Nat} {D : Nat → Nat → Int} (h : Fq w S n v v' m k G J D) (q : Nat) : Fq (w.drewN q) S n v v' m k G J D := ⟨h.rf, h.rt, h.ap, fun j hj => ⟨(h.ar j hj).1, (h.ar j hj).2.1, (h.ar j hj).2.2.drewN q⟩⟩
theorem Fq.later {w w' : World} {S n m k : Nat} {v v' : Value} {G J : Nat → Nat} {D : Nat → Nat → Int} (h : Fq w S n v v' m k G J D) (hb : Below w.heap.size w w') : Fq w' S n v v' m k G J D :=
  ⟨(Fr.of_below hb).row h.rf (fun j hj hm => by have := (h.rf.lt j hj).2; omega), (Fr.of_below hb).row h.rt (fun j hj hm => by have := (h.rt.lt j hj).2; omega), h.ap, fun j hj => ⟨(h.ar j hj).1, (h.ar j hj).2.1, (h.ar j hj).2.2.later hb⟩⟩
theorem arr_grown {w w' : World} {g n : Nat} {T : TypeId} {f : Nat → Value} {row : Option Nat} (h : Arr w g n T f) (k : w.grownBy w' row) (hg : row ≠ some g) : Arr w' g n T f :=
  h.of_block (k.block g h.lt (fun e => hg e.symm))
theorem ne_fresh {u : Option Nat} {B I : Nat} (h : u = some B) (hB : I < B) : u ≠ some I := by
  rw [h]
  intro e
  injection e with e
  omega
/-- A row more. -/
theorem Fq.step1 {w z : World} {S n m k I : Nat} {v v' u : Value} {G J : Nat → Nat} {D : Nat → Nat → Int} {E : Nat → Int} (h : Fq w S n v v' m k G J D) (hI : Arr w I n 3 (fun t => .int .i64 (E t))) (h1 : v.ownBlock ≠ some I) (h2 : v'.ownBlock ≠ some I)
    (hown : z.ownsRow S 23 1 u (m + 1) (lFq J n m ++ [.slice (some ⟨I, 0, none⟩) n n])) (hg : w.grownBy z v.ownBlock) (hat : u.ownBlock = v.ownBlock ∨ u.ownBlock = some w.heap.size) : Fq z S n u v' (m + 1) k G (setF J m I) (setF D m E) := by
  refine ⟨by rw [lFq_set]; exact hown, h.rt.kept hg ?_, ?_, fun j hj => ?_⟩
  · rcases h.ap with e | e | e
    · by_cases c : v'.ownBlock = none
      · exact Or.inl c
      · right; rw [e]; exact c
    · exact Or.inl e
    · exact Or.inr fun e' => e e'.symm
  · rcases hat with e | e
    · rw [e]; exact h.ap
    · right
      by_cases c : v'.ownBlock = none
      · exact Or.inl c
      right
      rw [e]
      intro e'
      have := (h.rt.lt _ e'.symm).2
      omega
  · by_cases e : j = m
    · subst e
      rw [setF_at, setF_at]
      refine ⟨?_, h2, arr_grown hI hg h1⟩
      rcases hat with e | e
      · rw [e]; exact h1
      · exact ne_fresh e hI.lt
    · rw [setF_far e, setF_far e]
      obtain ⟨a1, a2, a3⟩ := h.ar j (by omega)
      refine ⟨?_, a2, arr_grown a3 hg a1⟩
      rcases hat with e | e
      · rw [e]; exact a1
      · exact ne_fresh e a3.lt
/-- A goal more. -/
theorem Fq.step2 {w z : World} {S n m k g : Nat} {v v' u : Value} {G J : Nat → Nat} {D : Nat → Nat → Int} (h : Fq w S n v v' m k G J D)
    (hown : z.ownsRow S 3 1 u (k + 1) (lTq G k ++ [.int .i64 g])) (hg : w.grownBy z v'.ownBlock) (hat : u.ownBlock = v'.ownBlock ∨ u.ownBlock = some w.heap.size) : Fq z S n v u m (k + 1) (setF G k g) J D := by
  refine ⟨h.rf.kept hg ?_, by rw [lTq_set]; exact hown, ?_, fun j hj => ?_⟩
  · rcases h.ap with e | e | e
    · exact Or.inl e
    · by_cases c : v.ownBlock = none
      · exact Or.inl c
      · right; rw [e]; exact c
    · exact Or.inr e
  · rcases hat with e | e
    · rw [e]; exact h.ap
    · by_cases c : v.ownBlock = none
      · exact Or.inl c
      right
      right
      rw [e]
      intro e'
      have := (h.rf.lt _ e').2
      omega
  · obtain ⟨a1, a2, a3⟩ := h.ar j hj
    refine ⟨a1, ?_, arr_grown a3 hg a2⟩
    rcases hat with e | e
    · rw [e]; exact a2
    · exact ne_fresh e a3.lt
/-- A row waits to be put in. -/
structure FqI (w : World) (S n : Nat) (v v' : Value) (m k : Nat) (G J : Nat → Nat) (D : Nat → Nat → Int) (I : Nat) (E : Nat → Int) : Prop extends Fq w S n v v' m k G J D where
  ai : Arr w I n 3 (fun t => .int .i64 (E t))
  n1 : v.ownBlock ≠ some I
  n2 : v'.ownBlock ≠ some I
section
variable {w w' z : World} {S n m k I g : Nat} {v v' u : Value} {G J : Nat → Nat} {D : Nat → Nat → Int} {E : Nat → Int}
theorem FqI.later (h : FqI w S n v v' m k G J D I E) (hb : Below w.heap.size w w') : FqI w' S n v v' m k G J D I E := ⟨h.toFq.later hb, h.ai.later hb, h.n1, h.n2⟩
theorem FqI.of (h : Fq w S n v v' m k G J D) (hb : Below w.heap.size w w') (hI : w.heap.size ≤ I) (ha : Arr w' I n 3 (fun t => .int .i64 (E t))) : FqI w' S n v v' m k G J D I E :=
  ⟨h.later hb, ha, fun e => by have := (h.rf.lt _ e).2; omega, fun e => by have := (h.rt.lt _ e).2; omega⟩
theorem FqI.step1 (h : FqI w S n v v' m k G J D I E) (hown : z.ownsRow S 23 1 u (m + 1) (lFq J n m ++ [.slice (some ⟨I, 0, none⟩) n n])) (hg : w.grownBy z v.ownBlock) (hat : u.ownBlock = v.ownBlock ∨ u.ownBlock = some w.heap.size) : Fq z S n u v' (m + 1) k G (setF J m I) (setF D m E) :=
  h.toFq.step1 h.ai h.n1 h.n2 hown hg hat
theorem FqI.step2 (h : FqI w S n v v' m k G J D I E) (hown : z.ownsRow S 3 1 u (k + 1) (lTq G k ++ [.int .i64 g])) (hg : w.grownBy z v'.ownBlock) (hat : u.ownBlock = v'.ownBlock ∨ u.ownBlock = some w.heap.size) : FqI z S n v u m (k + 1) (setF G k g) J D I E := by
  refine ⟨h.toFq.step2 hown hg hat, arr_grown h.ai hg h.n2, h.n1, ?_⟩
  rcases hat with e | e
  · rw [e]; exact h.n2
  · exact ne_fresh e h.ai.lt
end
theorem Fq.form {w : World} {S n m : Nat} {v v' : Value} {G J : Nat → Nat} {D : Nat → Nat → Int} (h : Fq w S n v v' m m G J D) : ∃ a c a' c', v = .slice a m c ∧ v' = .slice a' m c' ∧ (0 < m → ∃ g g', a = some ⟨g, 0, none⟩ ∧ a' = some ⟨g', 0, none⟩) := by
  rcases h.rf.2 with ⟨e, h0⟩ | ⟨g, cap, cur, e, _⟩
  · rcases h.rt.2 with ⟨e', _⟩ | ⟨g', cap', cur', e', _⟩
    · subst h0; exact ⟨_, _, _, _, e, e', fun h => absurd h (by omega)⟩
    · subst h0; exact ⟨_, _, _, _, e, e', fun h => absurd h (by omega)⟩
  · rcases h.rt.2 with ⟨e', h0⟩ | ⟨g', cap', cur', e', _⟩
    · subst h0; exact ⟨_, _, _, _, e, e', fun h => absurd h (by omega)⟩
    · exact ⟨_, _, _, _, e, e', fun h => ⟨g, g', rfl, rfl⟩⟩
theorem Fq.c1 {w : World} {S n m g c j : Nat} {v' : Value} {G J : Nat → Nat} {D : Nat → Nat → Int} (h : Fq w S n (.slice (some ⟨g, 0, none⟩) m c) v' m m G J D) (hj : j < m) : w.cell? ⟨g, j, none⟩ = some (.slice (some ⟨J j, 0, none⟩) n n) := by
  rw [h.rf.cellAt j (by omega)]
  simp [lFq, hj]
theorem Fq.c2 {w : World} {S n m g c j : Nat} {v : Value} {G J : Nat → Nat} {D : Nat → Nat → Int} (h : Fq w S n v (.slice (some ⟨g, 0, none⟩) m c) m m G J D) (hj : j < m) : w.cell? ⟨g, j, none⟩ = some (.int .i64 (G j)) := by
  rw [h.rt.cellAt j (by omega)]
  simp [lTq, hj]
theorem Fq.c3 {w : World} {S n m j t : Nat} {v v' : Value} {G J : Nat → Nat} {D : Nat → Nat → Int} (h : Fq w S n v v' m m G J D) (hj : j < m) (ht : t < n) : w.cell? ⟨J j, t, none⟩ = some (.int .i64 (D j t)) := (h.ar j hj).2.2.cell ht
theorem one_sl (a : Option Addr) (n c : Nat) : ∀ u ∈ ([.slice a n c] : List Value), u.oneCell' = true := fun u hu => by simp at hu; subst hu; rfl
theorem one_it (x : Int) : ∀ u ∈ ([.int .i64 x] : List Value), u.oneCell' = true := fun u hu => by simp at hu; subst hu; rfl
theorem info_sl : (Try.prog.info? 23).map (fun i => (i.zero, i.size, i.bytes)) = some (some (.slice none 0 0), 1, 24) := by kernel_rfl
end Go.Proofs.Ytcgilmjhbdehpaa
/- Layer 20: one ring. -/
namespace Go.Proofs.Ytcgilmjhbdehpaa
open Go.ChangeShapes Go.WideShapes Go.ChangeAt Go.RowKit Go.Deep
set_option linter.unusedVariables false
set_option linter.unusedSimpArgs false
def natsL (l : List Nat) : List Value := l.map fun t => .int .i64 (t : Nat)
theorem befL_len (W : Int) (g n : Nat) (gap d row col : Int) : (befL W g n gap d row col).length ≤ n := by
  unfold befL
  exact Nat.le_trans (List.length_filter_le _ _) (by simp)
theorem own_le20 {w : World} {B B' s n : Nat} {e : TypeId} {v : Value} {xs : List Value} (h : w.ownsRow B e s v n xs) (hb : B' ≤ B) : w.ownsRow B' e s v n xs := by
  refine ⟨h.1, ?_⟩
  rcases h.2 with q | ⟨g, cap, cur, e1, hg, rest⟩
  · exact Or.inl q
  · exact Or.inr ⟨g, cap, cur, e1, Nat.le_trans hb hg, rest⟩
theorem gap_neg {gap d x : Int} (h : gap = 1 ∨ gap = 3 ∨ gap = 5 ∨ gap = 7) (hd : d % gap = 0) : (x - d - x) % gap = 0 := by
  rcases h with q | q | q | q <;> subst q <;> omega
theorem gap_add {gap x y : Int} (h : gap = 1 ∨ gap = 3 ∨ gap = 5 ∨ gap = 7) (hd : (y - x) % gap = 0) : (y + gap - x) % gap = 0 := by
  rcases h with q | q | q | q <;> subst q <;> omega
theorem gap_two {gap d x y : Int} (h : gap = 1 ∨ gap = 3 ∨ gap = 5 ∨ gap = 7) (hd : d % gap = 0) (hy : y = x - d ∨ y = x + d) : (y + 2 * d - x) % gap = 0 := by
  rcases h with q | q | q | q <;> subst q <;> omega
theorem SlAt.next {gx gy gap d row col nx : Int} (hg : gap = 1 ∨ gap = 3 ∨ gap = 5 ∨ gap = 7) (hd : d % gap = 0) (q : SlAt gx gy gap d row col nx) : gx + d < col + nx ∨ SlAt gx gy gap d row (col + nx) nx := by
  by_cases h : gx + d < col + nx
  · exact Or.inl h
  · obtain ⟨a, b, c, e, f, m, i⟩ := q
    right
    rcases i with ⟨i, rfl⟩ | ⟨i1, i2, rfl, i3⟩
    · exact ⟨a, b, c, by omega, by omega, gap_add hg m, Or.inl ⟨i, rfl⟩⟩
    · exact ⟨a, b, c, by omega, by omega, gap_two hg hd i3, Or.inr ⟨i1, i2, rfl, by omega⟩⟩
end Go.Proofs.Ytcgilmjhbdehpaa
