import Derived.Test.YtjjodfdmbiebnaaDoorKdf
import Derived.WalkKit
import Derived.Below
import Derived.Test.YtjjodfdmbiebnaaDoorProg
/- Layer 6: places of tiles. -/
namespace Go.Proofs.YtjjodfdmbiebnaaDoor
open Go.RowKit
set_option linter.unusedVariables false
theorem xy_yes (t : Int) (W H : Int) (a : Option Addr) (n c B : Nat) (xs : List Int) (w : World) (h : By w B a n xs) (hB : B ≤ w.heap.size) (hn : n ≤ 140737488355328) (g : GOk W H n xs) (t0 : 0 ≤ t) (t1 : t < W * H) :
    Calls Tryd.prog 16 #[.agg #[.int .i64 W, .int .i64 H, .slice a n c], .int .i64 t] w fun e' w' => e' = .returned (.tuple #[.int .i64 (t % W), .int .i64 (t / W), .int .i64 0]) ∧ Below w.heap.size w w' := by
  obtain ⟨m1, m2⟩ := mul_bd g.w1 g.w2 g.h1 g.h2
  have EQ : Hk (ctE W H n xs t = 0) := ⟨ctE_yes g t0 t1⟩
  have w1 := g.w1
  have w2 := g.w2
  clear g
  have HH := Hk.mk (h.alloc hB (.cells #[.int .i64 W, .int .i64 H, .slice a n c] 24))
  have hB' : B ≤ (w.alloc (.cells #[.int .i64 W, .int .i64 H, .slice a n c] 24)).heap.size := by simp; omega
  clear h
  go_enter Tryd.func16, Tryd.ntmps16
  go_wp2_with (go_at_call 51; (with_reducible refine (ct_as 0 t W H a n c B xs _ HH.out hB' hn EQ).mono ?_); rintro e w1 ⟨rfl, hb1⟩; obtain ⟨hc1, hf1⟩ := bcellg hb1; have hz1 := hb1.size; simp at hz1; have HB1 := Hk.mk hb1; clear hb1)
  go_quiet (fail)
  go_wp2
  go_ret3
  exact ⟨rfl, below_drewN (((Below.refl _ _).alloc (Nat.le_refl _) _).trans (HB1.out.mono (by simp))) _⟩
theorem xy_bad (e t : Int) (W H : Int) (a : Option Addr) (n c B : Nat) (xs : List Int) (w : World) (h : By w B a n xs) (hB : B ≤ w.heap.size) (hn : n ≤ 140737488355328) (E : Hk (ctE W H n xs t = e)) (he : (e != 0) = true) :
    Calls Tryd.prog 16 #[.agg #[.int .i64 W, .int .i64 H, .slice a n c], .int .i64 t] w fun e' w' => e' = .returned (.tuple #[.int .i64 0, .int .i64 0, .int .i64 e]) ∧ Below w.heap.size w w' := by
  have HH := Hk.mk (h.alloc hB (.cells #[.int .i64 W, .int .i64 H, .slice a n c] 24))
  have hB' : B ≤ (w.alloc (.cells #[.int .i64 W, .int .i64 H, .slice a n c] 24)).heap.size := by simp; omega
  clear h
  go_enter Tryd.func16, Tryd.ntmps16
  go_wp2_with (go_at_call 51; (with_reducible refine (ct_as e t W H a n c B xs _ HH.out hB' hn E).mono ?_); rintro e w1 ⟨rfl, hb1⟩; obtain ⟨hc1, hf1⟩ := bcellg hb1; have hz1 := hb1.size; simp at hz1; have HB1 := Hk.mk hb1; clear hb1)
  go_ret3
  exact ⟨rfl, ((Below.refl _ _).alloc (Nat.le_refl _) _).trans (HB1.out.mono (by simp))⟩
end Go.Proofs.YtjjodfdmbiebnaaDoor
/- Layer 6: tiles of places. -/
namespace Go.Proofs.YtjjodfdmbiebnaaDoor
open Go.RowKit
set_option linter.unusedVariables false
theorem tile_yes (x y : Int) (W H : Int) (a : Option Addr) (n c B : Nat) (xs : List Int) (w : World) (h : By w B a n xs) (hB : B ≤ w.heap.size) (hn : n ≤ 140737488355328) (g : GOk W H n xs) (x0 : 0 ≤ x) (x1 : x < W) (y0 : 0 ≤ y) (y1 : y < H) :
    Calls Tryd.prog 17 #[.agg #[.int .i64 W, .int .i64 H, .slice a n c], .int .i64 x, .int .i64 y] w fun e' w' => e' = .returned (.tuple #[.int .i64 (x + W * y), .int .i64 0]) ∧ Below w.heap.size w w' := by
  have EQ : Hk (gE W H n xs = 0) := ⟨gE_yes g⟩
  obtain ⟨w1, w2, h1, h2, nn, ts⟩ := g
  clear nn ts
  have b1 : decide (x < 0) = false := by simp; omega
  have b2 : decide (W ≤ x) = false := by simp; omega
  have b3 : decide (y < 0) = false := by simp; omega
  have b4 : decide (H ≤ y) = false := by simp; omega
  have m3 := Int.mul_le_mul w2 (show y ≤ 128 by omega) (by omega) (by omega)
  have m4 : 0 ≤ W * y := Int.mul_nonneg (by omega) (by omega)
  have HH := Hk.mk (h.alloc hB (.cells #[.int .i64 W, .int .i64 H, .slice a n c] 24))
  have hB' : B ≤ (w.alloc (.cells #[.int .i64 W, .int .i64 H, .slice a n c] 24)).heap.size := by simp; omega
  clear h
  go_enter Tryd.func17, Tryd.ntmps17
  go_wp2_with (go_at_call 15; (with_reducible refine (check_as 0 W H a n c B xs _ HH.out hB' hn EQ).mono ?_); rintro e w1 ⟨rfl, hb1⟩; obtain ⟨hc1, hf1⟩ := bcellg hb1; have hz1 := hb1.size; simp at hz1; have HB1 := Hk.mk hb1; clear hb1)
  go_ret2
  exact ⟨rfl, ((Below.refl _ _).alloc (Nat.le_refl _) _).trans (HB1.out.mono (by simp))⟩
theorem tile_n1 (x y : Int) (W H : Int) (a : Option Addr) (n c B : Nat) (xs : List Int) (w : World) (h : By w B a n xs) (hB : B ≤ w.heap.size) (hn : n ≤ 140737488355328) (g : GOk W H n xs) (q : x < 0) :
    Calls Tryd.prog 17 #[.agg #[.int .i64 W, .int .i64 H, .slice a n c], .int .i64 x, .int .i64 y] w fun e' w' => e' = .returned (.tuple #[.int .i64 0, .int .i64 3]) ∧ Below w.heap.size w w' := by
  have EQ : Hk (gE W H n xs = 0) := ⟨gE_yes g⟩
  obtain ⟨w1, w2, h1, h2, nn, ts⟩ := g
  clear nn ts
  have b1 : decide (x < 0) = true := by simp; omega
  have HH := Hk.mk (h.alloc hB (.cells #[.int .i64 W, .int .i64 H, .slice a n c] 24))
  have hB' : B ≤ (w.alloc (.cells #[.int .i64 W, .int .i64 H, .slice a n c] 24)).heap.size := by simp; omega
  clear h
  go_enter Tryd.func17, Tryd.ntmps17
  go_wp2_with (go_at_call 15; (with_reducible refine (check_as 0 W H a n c B xs _ HH.out hB' hn EQ).mono ?_); rintro e w1 ⟨rfl, hb1⟩; obtain ⟨hc1, hf1⟩ := bcellg hb1; have hz1 := hb1.size; simp at hz1; have HB1 := Hk.mk hb1; clear hb1)
  go_ret2
  exact ⟨rfl, ((Below.refl _ _).alloc (Nat.le_refl _) _).trans (HB1.out.mono (by simp))⟩
theorem tile_n2 (x y : Int) (W H : Int) (a : Option Addr) (n c B : Nat) (xs : List Int) (w : World) (h : By w B a n xs) (hB : B ≤ w.heap.size) (hn : n ≤ 140737488355328) (g : GOk W H n xs) (x0 : 0 ≤ x) (q : W ≤ x) :
    Calls Tryd.prog 17 #[.agg #[.int .i64 W, .int .i64 H, .slice a n c], .int .i64 x, .int .i64 y] w fun e' w' => e' = .returned (.tuple #[.int .i64 0, .int .i64 3]) ∧ Below w.heap.size w w' := by
  have EQ : Hk (gE W H n xs = 0) := ⟨gE_yes g⟩
  obtain ⟨w1, w2, h1, h2, nn, ts⟩ := g
  clear nn ts
  have b1 : decide (x < 0) = false := by simp; omega
  have b2 : decide (W ≤ x) = true := by simp; omega
  have HH := Hk.mk (h.alloc hB (.cells #[.int .i64 W, .int .i64 H, .slice a n c] 24))
  have hB' : B ≤ (w.alloc (.cells #[.int .i64 W, .int .i64 H, .slice a n c] 24)).heap.size := by simp; omega
  clear h
  go_enter Tryd.func17, Tryd.ntmps17
  go_wp2_with (go_at_call 15; (with_reducible refine (check_as 0 W H a n c B xs _ HH.out hB' hn EQ).mono ?_); rintro e w1 ⟨rfl, hb1⟩; obtain ⟨hc1, hf1⟩ := bcellg hb1; have hz1 := hb1.size; simp at hz1; have HB1 := Hk.mk hb1; clear hb1)
  go_ret2
  exact ⟨rfl, ((Below.refl _ _).alloc (Nat.le_refl _) _).trans (HB1.out.mono (by simp))⟩
theorem tile_n3 (x y : Int) (W H : Int) (a : Option Addr) (n c B : Nat) (xs : List Int) (w : World) (h : By w B a n xs) (hB : B ≤ w.heap.size) (hn : n ≤ 140737488355328) (g : GOk W H n xs) (x0 : 0 ≤ x) (x1 : x < W) (q : y < 0) :
    Calls Tryd.prog 17 #[.agg #[.int .i64 W, .int .i64 H, .slice a n c], .int .i64 x, .int .i64 y] w fun e' w' => e' = .returned (.tuple #[.int .i64 0, .int .i64 3]) ∧ Below w.heap.size w w' := by
  have EQ : Hk (gE W H n xs = 0) := ⟨gE_yes g⟩
  obtain ⟨w1, w2, h1, h2, nn, ts⟩ := g
  clear nn ts
  have b1 : decide (x < 0) = false := by simp; omega
  have b2 : decide (W ≤ x) = false := by simp; omega
  have b3 : decide (y < 0) = true := by simp; omega
  have HH := Hk.mk (h.alloc hB (.cells #[.int .i64 W, .int .i64 H, .slice a n c] 24))
  have hB' : B ≤ (w.alloc (.cells #[.int .i64 W, .int .i64 H, .slice a n c] 24)).heap.size := by simp; omega
  clear h
  go_enter Tryd.func17, Tryd.ntmps17
  go_wp2_with (go_at_call 15; (with_reducible refine (check_as 0 W H a n c B xs _ HH.out hB' hn EQ).mono ?_); rintro e w1 ⟨rfl, hb1⟩; obtain ⟨hc1, hf1⟩ := bcellg hb1; have hz1 := hb1.size; simp at hz1; have HB1 := Hk.mk hb1; clear hb1)
  go_ret2
  exact ⟨rfl, ((Below.refl _ _).alloc (Nat.le_refl _) _).trans (HB1.out.mono (by simp))⟩
theorem tile_n4 (x y : Int) (W H : Int) (a : Option Addr) (n c B : Nat) (xs : List Int) (w : World) (h : By w B a n xs) (hB : B ≤ w.heap.size) (hn : n ≤ 140737488355328) (g : GOk W H n xs) (x0 : 0 ≤ x) (x1 : x < W) (y0 : 0 ≤ y) (q : H ≤ y) :
    Calls Tryd.prog 17 #[.agg #[.int .i64 W, .int .i64 H, .slice a n c], .int .i64 x, .int .i64 y] w fun e' w' => e' = .returned (.tuple #[.int .i64 0, .int .i64 3]) ∧ Below w.heap.size w w' := by
  have EQ : Hk (gE W H n xs = 0) := ⟨gE_yes g⟩
  obtain ⟨w1, w2, h1, h2, nn, ts⟩ := g
  clear nn ts
  have b1 : decide (x < 0) = false := by simp; omega
  have b2 : decide (W ≤ x) = false := by simp; omega
  have b3 : decide (y < 0) = false := by simp; omega
  have b4 : decide (H ≤ y) = true := by simp; omega
  have HH := Hk.mk (h.alloc hB (.cells #[.int .i64 W, .int .i64 H, .slice a n c] 24))
  have hB' : B ≤ (w.alloc (.cells #[.int .i64 W, .int .i64 H, .slice a n c] 24)).heap.size := by simp; omega
  clear h
  go_enter Tryd.func17, Tryd.ntmps17
  go_wp2_with (go_at_call 15; (with_reducible refine (check_as 0 W H a n c B xs _ HH.out hB' hn EQ).mono ?_); rintro e w1 ⟨rfl, hb1⟩; obtain ⟨hc1, hf1⟩ := bcellg hb1; have hz1 := hb1.size; simp at hz1; have HB1 := Hk.mk hb1; clear hb1)
  go_ret2
  exact ⟨rfl, ((Below.refl _ _).alloc (Nat.le_refl _) _).trans (HB1.out.mono (by simp))⟩
theorem tile_none (x y : Int) (W H : Int) (a : Option Addr) (n c B : Nat) (xs : List Int) (w : World) (h : By w B a n xs) (hB : B ≤ w.heap.size) (hn : n ≤ 140737488355328) (g : GOk W H n xs) (q : ¬ (0 ≤ x ∧ x < W ∧ 0 ≤ y ∧ y < H)) :
    Calls Tryd.prog 17 #[.agg #[.int .i64 W, .int .i64 H, .slice a n c], .int .i64 x, .int .i64 y] w fun e' w' => e' = .returned (.tuple #[.int .i64 0, .int .i64 3]) ∧ Below w.heap.size w w' := by
  by_cases q1 : x < 0
  · exact tile_n1 x y W H a n c B xs w h hB hn g q1
  by_cases q2 : W ≤ x
  · exact tile_n2 x y W H a n c B xs w h hB hn g (by omega) q2
  by_cases q3 : y < 0
  · exact tile_n3 x y W H a n c B xs w h hB hn g (by omega) (by omega) q3
  · exact tile_n4 x y W H a n c B xs w h hB hn g (by omega) (by omega) (by omega) (by omega)
theorem tile_form (x y : Int) (W H : Int) (a : Option Addr) (n c B : Nat) (xs : List Int) (w : World) (h : By w B a n xs) (hB : B ≤ w.heap.size) (hn : n ≤ 140737488355328) (g : ¬ GOk W H n xs) :
    Calls Tryd.prog 17 #[.agg #[.int .i64 W, .int .i64 H, .slice a n c], .int .i64 x, .int .i64 y] w fun e' w' => e' = .returned (.tuple #[.int .i64 0, .int .i64 1]) ∧ Below w.heap.size w w' := by
  have EQ : Hk (gE W H n xs = 1) := ⟨gE_no g⟩
  clear g
  have HH := Hk.mk (h.alloc hB (.cells #[.int .i64 W, .int .i64 H, .slice a n c] 24))
  have hB' : B ≤ (w.alloc (.cells #[.int .i64 W, .int .i64 H, .slice a n c] 24)).heap.size := by simp; omega
  clear h
  go_enter Tryd.func17, Tryd.ntmps17
  go_wp2_with (go_at_call 15; (with_reducible refine (check_as 1 W H a n c B xs _ HH.out hB' hn EQ).mono ?_); rintro e w1 ⟨rfl, hb1⟩; obtain ⟨hc1, hf1⟩ := bcellg hb1; have hz1 := hb1.size; simp at hz1; have HB1 := Hk.mk hb1; clear hb1)
  go_ret2
  exact ⟨rfl, ((Below.refl _ _).alloc (Nat.le_refl _) _).trans (HB1.out.mono (by simp))⟩
end Go.Proofs.YtjjodfdmbiebnaaDoor
/- Contracts of layer 17: what a disc meets, of the reference. -/
namespace Go.Proofs.YtjjodfdmbiebnaaDoor
open Go.RowKit
set_option linter.unusedVariables false
def offS (x lo hi : Int) : Int := if x < lo then lo - x else if hi < x then x - hi else 0
theorem offS_eq (x c : Int) : offS x (c * 65536) (c * 65536 + 65536) = bsS x c := by
  unfold offS bsS
  (repeat' split) <;> omega
theorem roff_as (x lo hi y : Int) (w : World) (x0 : -1099511627776 ≤ x) (x1 : x ≤ 1099511627776) (l0 : 0 ≤ lo) (l1 : lo ≤ 2199023255552) (h0 : 0 ≤ hi) (h1 : hi ≤ 2199023255552) (E : Hk (offS x lo hi = y)) : Calls Tryd.prog 80 #[.int .i64 x, .int .i64 lo, .int .i64 hi] w fun e w' => e = .returned (.int .i64 y) ∧ w = w' := by
  by_cases q0 : x < lo
  · have b0 : decide (x < lo) = true := by simp; omega
    have R : Hk (y = lo - x) := ⟨by rw [← E.out]; unfold offS; rw [if_pos q0]⟩
    go_enter Tryd.func80, Tryd.ntmps80
    go_wp2
    go_ret
    exact ⟨ri R.out.symm, rfl⟩
  have b0 : decide (x < lo) = false := by simp; omega
  by_cases q1 : hi < x
  · have b1 : decide (hi < x) = true := by simp; omega
    have R : Hk (y = x - hi) := ⟨by rw [← E.out]; unfold offS; rw [if_neg q0, if_pos q1]⟩
    go_enter Tryd.func80, Tryd.ntmps80
    go_wp2
    go_ret
    exact ⟨ri R.out.symm, rfl⟩
  · have b1 : decide (hi < x) = false := by simp; omega
    have R : Hk (y = 0) := ⟨by rw [← E.out]; unfold offS; rw [if_neg q0, if_neg q1]⟩
    go_enter Tryd.func80, Tryd.ntmps80
    go_wp2
    go_ret
    exact ⟨ri R.out.symm, rfl⟩
theorem rmay_any (px py r : Int) (w : World) : Calls Tryd.prog 40 #[.agg #[.int .i64 px, .int .i64 py], .int .i64 r] w fun e w' => e = .returned (.bool (fmD px py r)) ∧ Below w.heap.size w w' := by
  by_cases q0 : ¬ (0 ≤ r)
  · have b0 : decide (0 ≤ r) = false := by simp; omega
    have R : Hk (fmD px py r = false) := ⟨by unfold fmD; simp; omega⟩
    go_enter Tryd.func40, Tryd.ntmps40
    go_wp2
    go_ret
    exact ⟨rbo R.out.symm, (Below.refl _ _).alloc (Nat.le_refl _) _⟩
  have b0 : decide (0 ≤ r) = true := by simp; omega
  by_cases q1 : ¬ (r ≤ 262144)
  · have b1 : decide (r ≤ 262144) = false := by simp; omega
    have R : Hk (fmD px py r = false) := ⟨by unfold fmD; simp; omega⟩
    go_enter Tryd.func40, Tryd.ntmps40
    go_wp2
    go_ret
    exact ⟨rbo R.out.symm, (Below.refl _ _).alloc (Nat.le_refl _) _⟩
  have b1 : decide (r ≤ 262144) = true := by simp; omega
  by_cases q2 : ¬ (-1099511627776 ≤ px)
  · have b2 : decide (-1099511627776 ≤ px) = false := by simp; omega
    have R : Hk (fmD px py r = false) := ⟨by unfold fmD; simp; omega⟩
    go_enter Tryd.func40, Tryd.ntmps40
    go_wp2
    go_ret
    exact ⟨rbo R.out.symm, (Below.refl _ _).alloc (Nat.le_refl _) _⟩
  have b2 : decide (-1099511627776 ≤ px) = true := by simp; omega
  by_cases q3 : ¬ (px ≤ 1099511627776)
  · have b3 : decide (px ≤ 1099511627776) = false := by simp; omega
    have R : Hk (fmD px py r = false) := ⟨by unfold fmD; simp; omega⟩
    go_enter Tryd.func40, Tryd.ntmps40
    go_wp2
    go_ret
    exact ⟨rbo R.out.symm, (Below.refl _ _).alloc (Nat.le_refl _) _⟩
  have b3 : decide (px ≤ 1099511627776) = true := by simp; omega
  by_cases q4 : ¬ (-1099511627776 ≤ py)
  · have b4 : decide (-1099511627776 ≤ py) = false := by simp; omega
    have R : Hk (fmD px py r = false) := ⟨by unfold fmD; simp; omega⟩
    go_enter Tryd.func40, Tryd.ntmps40
    go_wp2
    go_ret
    exact ⟨rbo R.out.symm, (Below.refl _ _).alloc (Nat.le_refl _) _⟩
  have b4 : decide (-1099511627776 ≤ py) = true := by simp; omega
  by_cases q5 : ¬ (py ≤ 1099511627776)
  · have b5 : decide (py ≤ 1099511627776) = false := by simp; omega
    have R : Hk (fmD px py r = false) := ⟨by unfold fmD; simp; omega⟩
    go_enter Tryd.func40, Tryd.ntmps40
    go_wp2
    go_ret
    exact ⟨rbo R.out.symm, (Below.refl _ _).alloc (Nat.le_refl _) _⟩
  have b5 : decide (py ≤ 1099511627776) = true := by simp; omega
  have R : Hk (fmD px py r = true) := ⟨by unfold fmD; simp; omega⟩
  go_enter Tryd.func40, Tryd.ntmps40
  go_wp2
  go_ret
  exact ⟨rbo R.out.symm, (Below.refl _ _).alloc (Nat.le_refl _) _⟩
theorem rmay_as (g : Bool) (px py r : Int) (w : World) (E : Hk (fmD px py r = g)) : Calls Tryd.prog 40 #[.agg #[.int .i64 px, .int .i64 py], .int .i64 r] w fun e w' => e = .returned (.bool g) ∧ Below w.heap.size w w' := by
  obtain ⟨rfl⟩ := E; exact rmay_any px py r w
set_option maxHeartbeats 1600000 in
theorem rmeets_any (W H t px py r : Int) (s : Value) (w : World) (w1 : 1 ≤ W) (w2 : W ≤ 128) (t0 : 0 ≤ t) (t1 : t ≤ 16384) (hx : -1099511627776 ≤ px ∧ px ≤ 1099511627776) (hy : -1099511627776 ≤ py ∧ py ≤ 1099511627776) (hr : 0 ≤ r ∧ r ≤ 262144) :
    Calls Tryd.prog 67 #[.agg #[.int .i64 W, .int .i64 H, s], .int .i64 t, .agg #[.int .i64 px, .int .i64 py], .int .i64 r] w fun e w' => e = .returned (.bool (meetsS W t px py r)) ∧ Below w.heap.size w w' := by
  have q1 : 0 ≤ t % W := Int.emod_nonneg _ (by omega)
  have q2 : t % W < W := Int.emod_lt_of_pos _ (by omega)
  have q3 : 0 ≤ t / W := Int.ediv_nonneg t0 (by omega)
  have q4 : t / W ≤ t := Int.ediv_le_self _ t0
  have c1 : t % W ≤ 16384 := by omega
  have c2 : t / W ≤ 16384 := by omega
  have w0 : ¬ W = 0 := by omega
  have k1 : 0 ≤ t % W * 65536 := by omega
  have k2 : t % W * 65536 ≤ 2199023255552 := by omega
  have k3 : 0 ≤ t % W * 65536 + 65536 := by omega
  have k4 : t % W * 65536 + 65536 ≤ 2199023255552 := by omega
  have k5 : 0 ≤ t / W * 65536 := by omega
  have k6 : t / W * 65536 ≤ 2199023255552 := by omega
  have k7 : 0 ≤ t / W * 65536 + 65536 := by omega
  have k8 : t / W * 65536 + 65536 ≤ 2199023255552 := by omega
  have bX := bsS_bd hx ⟨q1, c1⟩
  have bY := bsS_bd hy ⟨q3, c2⟩
  have r1 : t.tmod W = t % W := Int.tmod_eq_emod_of_nonneg t0
  have r2 : t.tdiv W = t / W := Int.tdiv_eq_ediv_of_nonneg t0
  have e1 : IntKind.i64.wrap (t % W * 65536) = t % W * 65536 := IntWalk.i64_in _ (by omega)
  have e2 : IntKind.i64.wrap (t % W * 65536 + 65536) = t % W * 65536 + 65536 := IntWalk.i64_in _ (by omega)
  have e3 : IntKind.i64.wrap (t / W) = t / W := IntWalk.i64_in _ (by omega)
  have e4 : IntKind.i64.wrap (t / W * 65536) = t / W * 65536 := IntWalk.i64_in _ (by omega)
  have e5 : IntKind.i64.wrap (t / W * 65536 + 65536) = t / W * 65536 + 65536 := IntWalk.i64_in _ (by omega)
  obtain ⟨X, hX⟩ : ∃ X, bsS px (t % W) = X := ⟨_, rfl⟩
  obtain ⟨Y, hY⟩ : ∃ Y, bsS py (t / W) = Y := ⟨_, rfl⟩
  rw [hX] at bX
  rw [hY] at bY
  have R : Hk (meetsS W t px py r = (decide (X < r) && (decide (Y < r) && decide (X * X + Y * Y < r * r)))) := ⟨by unfold meetsS; rw [hX, hY]⟩
  have EX : Hk (offS px (t % W * 65536) (t % W * 65536 + 65536) = X) := ⟨by rw [offS_eq, hX]⟩
  have EY : Hk (offS py (t / W * 65536) (t / W * 65536 + 65536) = Y) := ⟨by rw [offS_eq, hY]⟩
  clear hX hY
  by_cases z1 : X < r
  · have d1 : decide (X < r) = true := by simp; omega
    by_cases z2 : Y < r
    · have d2 : decide (Y < r) = true := by simp; omega
      have m1 := Int.mul_le_mul (show X ≤ 262144 by omega) (show X ≤ 262144 by omega) bX.1 (by omega)
      have m2 := Int.mul_le_mul (show Y ≤ 262144 by omega) (show Y ≤ 262144 by omega) bY.1 (by omega)
      have m3 := Int.mul_le_mul hr.2 hr.2 hr.1 (by omega)
      have m4 : 0 ≤ X * X := Int.mul_nonneg bX.1 bX.1
      have m5 : 0 ≤ Y * Y := Int.mul_nonneg bY.1 bY.1
      have m6 : 0 ≤ r * r := Int.mul_nonneg hr.1 hr.1
      by_cases z3 : X * X + Y * Y < r * r
      · have d3 : decide (X * X + Y * Y < r * r) = true := by simp; omega
        have R2 : Hk (meetsS W t px py r = true) := ⟨by rw [R.out, d1, d2, d3]; rfl⟩
        go_enter Tryd.func67, Tryd.ntmps67
        go_wp2
        go_region_held3 (fun w' => w'.cell? ⟨w.heap.size, 0, none⟩ = some (.int .i64 W) ∧ w'.cell? ⟨w.heap.size + 1, 0, none⟩ = some (.int .i64 px) ∧ w'.cell? ⟨w.heap.size + 1, 1, none⟩ = some (.int .i64 py)) (go_keep) (fail)
        go_wp2
        go_region_held3 (fun w' => w'.cell? ⟨w.heap.size + 1, 0, none⟩ = some (.int .i64 px) ∧ w'.cell? ⟨w.heap.size + 1, 1, none⟩ = some (.int .i64 py)) (go_keep) (first | (go_at_call 80; (first | (with_reducible refine (roff_as px (t % W * 65536) (t % W * 65536 + 65536) X _ hx.1 hx.2 k1 k2 k3 k4 EX).mono ?_) | (with_reducible refine (roff_as py (t / W * 65536) (t / W * 65536 + 65536) Y _ hy.1 hy.2 k5 k6 k7 k8 EY).mono ?_)); rintro e w' ⟨rfl, rfl⟩))
        go_wp2
        go_ret
        exact ⟨rbo R2.out.symm, (((Below.refl _ _).alloc (Nat.le_refl _) _).alloc (by simp) _).drew.drew⟩
      · have d3 : decide (X * X + Y * Y < r * r) = false := by simp; omega
        have R2 : Hk (meetsS W t px py r = false) := ⟨by rw [R.out, d1, d2, d3]; rfl⟩
        go_enter Tryd.func67, Tryd.ntmps67
        go_wp2
        go_region_held3 (fun w' => w'.cell? ⟨w.heap.size, 0, none⟩ = some (.int .i64 W) ∧ w'.cell? ⟨w.heap.size + 1, 0, none⟩ = some (.int .i64 px) ∧ w'.cell? ⟨w.heap.size + 1, 1, none⟩ = some (.int .i64 py)) (go_keep) (fail)
        go_wp2
        go_region_held3 (fun w' => w'.cell? ⟨w.heap.size + 1, 0, none⟩ = some (.int .i64 px) ∧ w'.cell? ⟨w.heap.size + 1, 1, none⟩ = some (.int .i64 py)) (go_keep) (first | (go_at_call 80; (first | (with_reducible refine (roff_as px (t % W * 65536) (t % W * 65536 + 65536) X _ hx.1 hx.2 k1 k2 k3 k4 EX).mono ?_) | (with_reducible refine (roff_as py (t / W * 65536) (t / W * 65536 + 65536) Y _ hy.1 hy.2 k5 k6 k7 k8 EY).mono ?_)); rintro e w' ⟨rfl, rfl⟩))
        go_wp2
        go_ret
        exact ⟨rbo R2.out.symm, (((Below.refl _ _).alloc (Nat.le_refl _) _).alloc (by simp) _).drew.drew⟩
    · have d2 : decide (Y < r) = false := by simp; omega
      have R2 : Hk (meetsS W t px py r = false) := ⟨by rw [R.out, d1, d2]; rfl⟩
      go_enter Tryd.func67, Tryd.ntmps67
      go_wp2
      go_region_held3 (fun w' => w'.cell? ⟨w.heap.size, 0, none⟩ = some (.int .i64 W) ∧ w'.cell? ⟨w.heap.size + 1, 0, none⟩ = some (.int .i64 px) ∧ w'.cell? ⟨w.heap.size + 1, 1, none⟩ = some (.int .i64 py)) (go_keep) (fail)
      go_wp2
      go_region_held3 (fun w' => w'.cell? ⟨w.heap.size + 1, 0, none⟩ = some (.int .i64 px) ∧ w'.cell? ⟨w.heap.size + 1, 1, none⟩ = some (.int .i64 py)) (go_keep) (first | (go_at_call 80; (first | (with_reducible refine (roff_as px (t % W * 65536) (t % W * 65536 + 65536) X _ hx.1 hx.2 k1 k2 k3 k4 EX).mono ?_) | (with_reducible refine (roff_as py (t / W * 65536) (t / W * 65536 + 65536) Y _ hy.1 hy.2 k5 k6 k7 k8 EY).mono ?_)); rintro e w' ⟨rfl, rfl⟩))
      go_wp2
      go_ret
      exact ⟨rbo R2.out.symm, (((Below.refl _ _).alloc (Nat.le_refl _) _).alloc (by simp) _).drew.drew⟩
  · have d1 : decide (X < r) = false := by simp; omega
    have R2 : Hk (meetsS W t px py r = false) := ⟨by rw [R.out, d1]; rfl⟩
    go_enter Tryd.func67, Tryd.ntmps67
    go_wp2
    go_region_held3 (fun w' => w'.cell? ⟨w.heap.size, 0, none⟩ = some (.int .i64 W) ∧ w'.cell? ⟨w.heap.size + 1, 0, none⟩ = some (.int .i64 px) ∧ w'.cell? ⟨w.heap.size + 1, 1, none⟩ = some (.int .i64 py)) (go_keep) (fail)
    go_wp2
    go_region_held3 (fun w' => w'.cell? ⟨w.heap.size + 1, 0, none⟩ = some (.int .i64 px) ∧ w'.cell? ⟨w.heap.size + 1, 1, none⟩ = some (.int .i64 py)) (go_keep) (first | (go_at_call 80; (first | (with_reducible refine (roff_as px (t % W * 65536) (t % W * 65536 + 65536) X _ hx.1 hx.2 k1 k2 k3 k4 EX).mono ?_) | (with_reducible refine (roff_as py (t / W * 65536) (t / W * 65536 + 65536) Y _ hy.1 hy.2 k5 k6 k7 k8 EY).mono ?_)); rintro e w' ⟨rfl, rfl⟩))
    go_wp2
    go_ret
    exact ⟨rbo R2.out.symm, (((Below.refl _ _).alloc (Nat.le_refl _) _).alloc (by simp) _).drew.drew⟩
end Go.Proofs.YtjjodfdmbiebnaaDoor
/- Rules by which a walk reads old cells in a later world. -/
namespace Go.Proofs.YtjjodfdmbiebnaaDoor
open Go.RowKit
theorem kw_rules {N : Nat} {W X : World} (h : Below N W X) (hN : N ≤ W.heap.size) :
    (∀ b o, b < N → X.cell? ⟨b, o, none⟩ = W.cell? ⟨b, o, none⟩) ∧ (∀ b o, b < N → X.frozen? ⟨b, o, none⟩ = W.frozen? ⟨b, o, none⟩) ∧ (∀ b, b < N → b < X.heap.size) ∧ (∀ b, b < N → ¬ b = X.heap.size) ∧ (∀ b, b < N → ¬ X.heap.size = b) := by
  have hs := h.size
  exact ⟨fun b o hb => h.cell (p := ⟨b, o, none⟩) hb, fun b o hb => h.frozen (p := ⟨b, o, none⟩) hb, fun b hb => by omega, fun b hb => by omega, fun b hb => by omega⟩
theorem kw_step {N : Nat} {W X Y : World} (h : Below N W X) (hN : N ≤ W.heap.size) (hb : Below X.heap.size X Y) : Below N W Y := h.trans (hb.mono (Nat.le_trans hN h.size))
theorem kw_drew {N : Nat} {W X : World} (h : Below N W X) : Below N W X.drew := h.drew
theorem bset {B : Nat} {w X : World} (h : Below B w X) {b : Nat} (off : Nat) (hb : B ≤ b) (v : Value) : Below B w (X.setCell ⟨b, off, none⟩ v) := Below.setCell (p := ⟨b, off, none⟩) h hb v
theorem kw_S {N : Nat} {W X : World} (h : Below N W X) : (∀ b o, b < N → X.cell? ⟨b, o, none⟩ = W.cell? ⟨b, o, none⟩) ∧ Below N W X := ⟨fun b o hb => h.cell (p := ⟨b, o, none⟩) hb, h⟩
theorem kw_size {N : Nat} {W X : World} (h : Below N W X) (hN : N ≤ W.heap.size) : N ≤ X.heap.size := Nat.le_trans hN h.size
end Go.Proofs.YtjjodfdmbiebnaaDoor
