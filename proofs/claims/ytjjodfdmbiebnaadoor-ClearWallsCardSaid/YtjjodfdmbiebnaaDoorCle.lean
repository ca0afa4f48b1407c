/- Layer 9: clear.Grid. -/
import Derived.Test.YtjjodfdmbiebnaaDoorCld
import Derived.Deep.QuietTactic
import Derived.BigQuiet
import Derived.Deep.RegionWith
import Derived.Deep.RegionHeld3
import Derived.Deep.DeepCutAuto
import Derived.Deep.DeepFit
import Derived.Outline
namespace Go.Proofs.YtjjodfdmbiebnaaDoor
open Go.RowKit
set_option linter.unusedVariables false
set_option linter.unusedSimpArgs false
/-- Room above and left of a tile; room at all sides of it. -/
def fC (W H : Int) (f : Nat → Bool) (k : Nat) : Nat := fV W H f ((k : Int) % W) ((k : Int) / W)
def sC (W H : Int) (f : Nat → Bool) (k : Nat) : Nat := sV W H f ((k : Int) % W) ((k : Int) / W)
theorem xy_at' {W x y : Int} {j : Nat} (h : (j : Int) = x + W * y) (x0 : 0 ≤ x) (x1 : x < W) : (j : Int) % W = x ∧ (j : Int) / W = y := by
  rw [h, Int.add_mul_emod_self_left, Int.add_mul_ediv_left _ _ (by omega), Int.emod_eq_of_lt x0 x1, Int.ediv_eq_zero_of_lt x0 x1]
  exact ⟨rfl, by omega⟩
theorem fC_at {W H : Int} {f : Nat → Bool} {x y : Int} {j : Nat} (h : (j : Int) = x + W * y) (x0 : 0 ≤ x) (x1 : x < W) : fC W H f j = fV W H f x y := by
  obtain ⟨h1, h2⟩ := xy_at' h x0 x1
  unfold fC; rw [h1, h2]
theorem sC_at {W H : Int} {f : Nat → Bool} {x y : Int} {j : Nat} (h : (j : Int) = x + W * y) (x0 : 0 ≤ x) (x1 : x < W) : sC W H f j = sV W H f x y := by
  obtain ⟨h1, h2⟩ := xy_at' h x0 x1
  unfold sC; rw [h1, h2]
/-- What a tile's place says. -/
structure At (W H : Int) (n k : Nat) (x y : Int) : Prop where
  e : (k : Int) = x + W * y
  x0 : 0 ≤ x
  x1 : x < W
  y0 : 0 ≤ y
  y1 : y < H
  m : (k : Int) % W = x
  d : (k : Int) / W = y
theorem at_of {W H : Int} {n k : Nat} (w1 : 1 ≤ W) (hn : (n : Int) = W * H) (hk : k < n) : At W H n k ((k : Int) % W) ((k : Int) / W) := by
  have em := Int.emod_add_mul_ediv (k : Int) W
  exact ⟨by omega, Int.emod_nonneg _ (by omega), Int.emod_lt_of_pos _ (by omega), Int.ediv_nonneg (by omega) (by omega), Int.ediv_lt_of_lt_mul (by omega) (by rw [Int.mul_comm]; omega), rfl, rfl⟩
theorem op_at {W H : Int} {n k : Nat} {x y : Int} {f : Nat → Bool} (h : At W H n k x y) : opXY W H f x y = f k := by
  unfold opXY
  rw [decide_eq_true (show 0 ≤ x ∧ x < W ∧ 0 ≤ y ∧ y < H from ⟨h.x0, h.x1, h.y0, h.y1⟩), ← h.e]
  simp
theorem op_out {W H x y : Int} {f : Nat → Bool} (h : ¬ (0 ≤ x ∧ x < W ∧ 0 ≤ y ∧ y < H)) : opXY W H f x y = false := by
  unfold opXY; rw [decide_eq_false h]; rfl
/-- The least of the four above and left; below and right. -/
def uL (W H : Int) (f : Nat → Bool) (x y : Int) : Nat := min (min (min (fV W H f (x - 1) y) (fV W H f (x - 1) (y - 1))) (fV W H f x (y - 1))) (fV W H f (x + 1) (y - 1))
def dL (W H : Int) (f : Nat → Bool) (x y : Int) : Nat := min (min (min (sV W H f (x + 1) y) (sV W H f (x - 1) (y + 1))) (sV W H f x (y + 1))) (sV W H f (x + 1) (y + 1))
theorem uL_edge {W H : Int} {f : Nat → Bool} (hW : W ≤ 128) {x y : Int} (x0 : 0 ≤ x) (h : x = 0 ∨ x = W - 1 ∨ y = 0) : uL W H f x y = 0 := by
  unfold uL
  rcases h with h | h | h
  · rw [fV_no hW (x := x - 1) (y := y) (op_out (by omega))]; simp
  · rw [fV_no hW (x := x + 1) (y := y - 1) (op_out (by omega))]; simp
  · rw [fV_no hW (x := x) (y := y - 1) (op_out (by omega))]; simp
theorem dL_edge {W H : Int} {f : Nat → Bool} (hW : W ≤ 128) {x y : Int} (x0 : 0 ≤ x) (h : x = 0 ∨ x = W - 1 ∨ y = H - 1) : dL W H f x y = 0 := by
  unfold dL
  rcases h with h | h | h
  · rw [sV_no hW (x := x - 1) (y := y + 1) (op_out (by omega))]; simp
  · rw [sV_no hW (x := x + 1) (y := y) (op_out (by omega))]; simp
  · rw [sV_no hW (x := x) (y := y + 1) (op_out (by omega))]; simp
/-- The number on the first side. -/
theorem lst_up {W H : Int} {G n k : Nat} {F : Nat → Nat} {f : Nat → Bool} {x y : Int} (w : World) (hA : Arr w G n 3 (fun j => .int .i64 (F j))) (hF : ∀ j, j < k → F j = fC W H f j) (hn : n ≤ 20000) (w1 : 1 ≤ W) (w2 : W ≤ 128) (hnn : (n : Int) = W * H) (hk : k < n) (h : At W H n k x y) (u : Nat) (hu : uL W H f x y = u) :
    Calls Tryd.prog 60 #[.slice (some ⟨G, 0, none⟩) n n, .int .i64 W, .int .i64 k, .int .i64 (-1)] w fun e w' => e = .returned (.int .i64 u) ∧ ∃ m, w' = w.drewN m := by
  by_cases hz : x = 0 ∨ x = W - 1 ∨ y = 0
  · rw [uL_edge w2 h.x0 hz] at hu
    subst hu
    refine least_up0 W k G n w hn w1 w2 (by omega) (by omega) ?_
    rw [h.m]
    rcases hz with hz | hz | hz
    · exact Or.inl hz
    · exact Or.inr (Or.inl hz)
    · right; right; have := h.e; rw [hz] at this; have := h.x1; omega
  · have hy1 : 1 ≤ y := by have := h.y0; omega
    have hWy : W * y = W * (y - 1) + W := by rw [Int.mul_sub, Int.mul_one]; omega
    have hq0 : 0 ≤ W * (y - 1) := Int.mul_nonneg (by omega) (by omega)
    have he := h.e
    have hx0 := h.x0
    have hx1 := h.x1
    obtain ⟨v, hv⟩ : ∃ v : Nat, (k : Int) - W = v := ⟨((k : Int) - W).toNat, by omega⟩
    refine least_up W k G n F u w hA hn w1 w2 (by omega) (by omega) (by rw [h.m]; omega) (by rw [h.m]; omega) (by omega) k rfl v hv (by omega) ⟨?_⟩
    rw [hF (k - 1) (by omega), hF (v - 1) (by omega), hF v (by omega), hF (v + 1) (by omega), ← hu]
    unfold uL
    rw [fC_at (x := x - 1) (y := y) (j := k - 1) (by omega) (by omega) (by omega), fC_at (x := x - 1) (y := y - 1) (j := v - 1) (by omega) (by omega) (by omega), fC_at (x := x) (y := y - 1) (j := v) (by omega) (by omega) (by omega), fC_at (x := x + 1) (y := y - 1) (j := v + 1) (by omega) (by omega) (by omega)]
theorem lst_dn {W H : Int} {G n k : Nat} {F : Nat → Nat} {f : Nat → Bool} {x y : Int} (w : World) (hA : Arr w G n 3 (fun j => .int .i64 (F j))) (hF : ∀ j, k < j → j < n → F j = sC W H f j) (hn : n ≤ 20000) (w1 : 1 ≤ W) (w2 : W ≤ 128) (hnn : (n : Int) = W * H) (hk : k < n) (h : At W H n k x y) (u : Nat) (hu : dL W H f x y = u) :
    Calls Tryd.prog 60 #[.slice (some ⟨G, 0, none⟩) n n, .int .i64 W, .int .i64 k, .int .i64 1] w fun e w' => e = .returned (.int .i64 u) ∧ ∃ m, w' = w.drewN m := by
  by_cases hz : x = 0 ∨ x = W - 1 ∨ y = H - 1
  · rw [dL_edge w2 h.x0 hz] at hu
    subst hu
    refine least_dn0 W k G n w hn w1 w2 (by omega) (by omega) ?_
    rw [h.m]
    rcases hz with hz | hz | hz
    · exact Or.inl hz
    · exact Or.inr (Or.inl hz)
    · right; right
      have he := h.e
      have hx0 := h.x0
      rw [hz, Int.mul_sub, Int.mul_one] at he
      omega
  · have hy1 : y + 1 ≤ H - 1 := by have := h.y1; omega
    have hWy : W * (y + 1) = W * y + W := by rw [Int.mul_add, Int.mul_one]
    have hle : W * (y + 1) ≤ W * (H - 1) := Int.mul_le_mul_of_nonneg_left hy1 (by omega)
    rw [Int.mul_sub, Int.mul_one] at hle
    have he := h.e
    have hx0 := h.x0
    have hx1 := h.x1
    have hWy0 : 0 ≤ W * y := Int.mul_nonneg (by omega) h.y0
    obtain ⟨v, hv⟩ : ∃ v : Nat, (k : Int) + W = v := ⟨((k : Int) + W).toNat, by omega⟩
    refine least_dn W k G n F u w hA hn w1 w2 (by omega) (by omega) (by rw [h.m]; omega) (by rw [h.m]; omega) k rfl v hv (by omega) ⟨?_⟩
    rw [hF (k + 1) (by omega) (by omega), hF (v - 1) (by omega) (by omega), hF v (by omega) (by omega), hF (v + 1) (by omega) (by omega), ← hu]
    unfold dL
    rw [sC_at (x := x + 1) (y := y) (j := k + 1) (by omega) (by omega) (by omega), sC_at (x := x - 1) (y := y + 1) (j := v - 1) (by omega) (by omega) (by omega), sC_at (x := x) (y := y + 1) (j := v) (by omega) (by omega) (by omega), sC_at (x := x + 1) (y := y + 1) (j := v + 1) (by omega) (by omega) (by omega)]
end Go.Proofs.YtjjodfdmbiebnaaDoor
