import Derived.WalkLawsBesides
import Derived.BigGuardPart
import Derived.Deep.QuietTactic
import Derived.BigQuiet
import Derived.Deep.RegionWith
import Derived.Deep.RegionHeld3
import Derived.Deep.DeepCutAuto
import Derived.Deep.DeepFit
import Derived.Outline
import Derived.Test.YtjjodfdmbiebnaaDoorKdl
/- Layer 9: the least number on one side of a tile. -/
namespace Go.Proofs.YtjjodfdmbiebnaaDoor
open Go.RowKit
set_option linter.unusedVariables false
set_option linter.unusedSimpArgs false
theorem min2_if (x y : Int) : (if y < x then y else x) = min x y := by
  rw [Int.min_def]; split <;> split <;> omega
theorem run_min4 (P : Program) (ts : Array TypeId) (t : TypeId) (w : World) (x y z u : Int) : (Builtin.min_ ts t #[.int .i64 x, .int .i64 y, .int .i64 z, .int .i64 u]).run P w = .ok (.int .i64 (min (min (min x y) z) u)) w := by
  simp [Builtin.min_, Builtin.min2]
  rw [min2_if x y, min2_if (min x y) z, min2_if (min (min x y) z) u]
  simp only [Int.min_def]; split <;> split <;> split <;> (try split) <;> (try split) <;> omega
theorem run_min2 (P : Program) (ts : Array TypeId) (t : TypeId) (w : World) (x y : Int) : (Builtin.min_ ts t #[.int .i64 x, .int .i64 y]).run P w = .ok (.int .i64 (min x y)) w := by
  simp [Builtin.min_, Builtin.min2]
  try rw [min2_if x y]
set_option maxRecDepth 100000 in
set_option maxHeartbeats 800000 in
theorem least_up (W t : Int) (G n : Nat) (f : Nat → Nat) (r : Nat) (w : World) (hA : Arr w G n 3 (fun k => .int .i64 (f k))) (hn : n ≤ 20000) (w1 : 1 ≤ W) (w2 : W ≤ 128) (t0 : 0 ≤ t) (t1 : t < n) (x0 : ¬ t % W = 0) (x1 : ¬ t % W = W - 1) (y0 : 0 ≤ t - W) (u : Nat) (hu : t = u) (v : Nat) (hv : t - W = v) (hv1 : 1 ≤ v)
    (E : Hk (min (min (min (f (u - 1)) (f (v - 1))) (f v)) (f (v + 1)) = r)) :
    Calls Tryd.prog 60 #[.slice (some ⟨G, 0, none⟩) n n, .int .i64 W, .int .i64 t, .int .i64 (-1)] w fun e w' => e = .returned (.int .i64 r) ∧ ∃ m, w' = w.drewN m := by
  subst hu
  have hx0 := Int.emod_nonneg (u : Int) (show W ≠ 0 by omega)
  have hx1 := Int.emod_lt_of_pos (u : Int) (show 0 < W by omega)
  have hu1 : 1 ≤ u := by
    rcases Nat.lt_or_ge 0 u with h | h
    · exact h
    · obtain rfl : u = 0 := by omega
      simp at x0
  have c1 := hA.cell (show u - 1 < n by omega)
  have c2 := hA.cell (show v - 1 < n by omega)
  have c3 := hA.cell (show v < n by omega)
  have c4 := hA.cell (show v + 1 < n by omega)
  clear hA
  obtain ⟨a1, h1⟩ : ∃ a1, f (u - 1) = a1 := ⟨_, rfl⟩
  obtain ⟨a2, h2⟩ : ∃ a1, f (v - 1) = a1 := ⟨_, rfl⟩
  obtain ⟨a3, h3⟩ : ∃ a1, f v = a1 := ⟨_, rfl⟩
  obtain ⟨a4, h4⟩ : ∃ a1, f (v + 1) = a1 := ⟨_, rfl⟩
  rw [h1] at c1; rw [h2] at c2; rw [h3] at c3; rw [h4] at c4
  have E2 : Hk (min (min (min a1 a2) a3) a4 = r) := ⟨by rw [← h1, ← h2, ← h3, ← h4]; exact E.out⟩
  clear h1 h2 h3 h4 E
  obtain ⟨u', rfl⟩ : ∃ u', u = u' + 1 := ⟨u - 1, by omega⟩
  obtain ⟨v', rfl⟩ : ∃ v', v = v' + 1 := ⟨v - 1, by omega⟩
  simp only [Nat.add_sub_cancel] at c1 c2
  obtain ⟨X, hX⟩ : ∃ X, ((u' + 1 : Nat) : Int) % W = X := ⟨_, rfl⟩
  rw [hX] at x0 x1 hx0 hx1
  have tm : ((u' : Int) + 1).tmod W = X := by rw [← hX]; push_cast; exact Int.tmod_eq_emod_of_nonneg (by omega)
  have tm' : ((u' : Int) + 1) % W = X := by rw [← hX]; push_cast; rfl
  have eu : (u' : Int) + 1 + -1 = u' := by omega
  have ev : (u' : Int) + 1 + -W = (v' : Int) + 1 := by omega
  have ew : IntKind.i64.wrap ((v' : Int) + 1 - 1) = v' := by rw [IntKind.wrap_i64]; omega
  have ew' : IntKind.i64.wrap (v' : Int) = v' := by rw [IntKind.wrap_i64]; omega
  obtain ⟨v2, hv2⟩ : ∃ v2, v' + 1 + 1 = v2 := ⟨_, rfl⟩
  rw [hv2] at c4
  have ex1 : (v' : Int) + 1 + 1 = v2 := by omega
  have ex2 : (v' : Int) + 2 = v2 := by omega
  have ex3 : IntKind.i64.wrap (v2 : Int) = v2 := by rw [IntKind.wrap_i64]; omega
  have l1 : (u' : Int) < (n : Int) := by omega
  have l2 : (v' : Int) < (n : Int) := by omega
  have l3 : (v' : Int) + 1 < (n : Int) := by omega
  have l4 : (v2 : Int) < (n : Int) := by omega
  clear hX hv hv2
  have hm4 : ∀ ts t w, (Builtin.min_ ts t #[.int .i64 (a1 : Int), .int .i64 (a2 : Int), .int .i64 (a3 : Int), .int .i64 (a4 : Int)]).run Tryd.prog w = .ok (.int .i64 r) w := fun ts t w => by
    rw [run_min4, ← E2.out]; simp [Int.min_def]; omega
  go_enter Tryd.func60, Tryd.ntmps60
  go_wp2
  go_quiet (fail)
  go_wp2
  go_ret
  exact ⟨rfl, _, rfl⟩
set_option maxRecDepth 100000 in
set_option maxHeartbeats 800000 in
theorem least_dn (W t : Int) (G n : Nat) (f : Nat → Nat) (r : Nat) (w : World) (hA : Arr w G n 3 (fun k => .int .i64 (f k))) (hn : n ≤ 20000) (w1 : 1 ≤ W) (w2 : W ≤ 128) (t0 : 0 ≤ t) (t1 : t < n) (x0 : ¬ t % W = 0) (x1 : ¬ t % W = W - 1) (u : Nat) (hu : t = u) (v : Nat) (hv : t + W = v) (hv1 : v + 1 < n)
    (E : Hk (min (min (min (f (u + 1)) (f (v - 1))) (f v)) (f (v + 1)) = r)) :
    Calls Tryd.prog 60 #[.slice (some ⟨G, 0, none⟩) n n, .int .i64 W, .int .i64 t, .int .i64 1] w fun e w' => e = .returned (.int .i64 r) ∧ ∃ m, w' = w.drewN m := by
  subst hu
  have hx0 := Int.emod_nonneg (u : Int) (show W ≠ 0 by omega)
  have hx1 := Int.emod_lt_of_pos (u : Int) (show 0 < W by omega)
  have c1 := hA.cell (show u + 1 < n by omega)
  have c2 := hA.cell (show v - 1 < n by omega)
  have c3 := hA.cell (show v < n by omega)
  have c4 := hA.cell (show v + 1 < n by omega)
  clear hA
  obtain ⟨a1, h1⟩ : ∃ a1, f (u + 1) = a1 := ⟨_, rfl⟩
  obtain ⟨a2, h2⟩ : ∃ a1, f (v - 1) = a1 := ⟨_, rfl⟩
  obtain ⟨a3, h3⟩ : ∃ a1, f v = a1 := ⟨_, rfl⟩
  obtain ⟨a4, h4⟩ : ∃ a1, f (v + 1) = a1 := ⟨_, rfl⟩
  rw [h1] at c1; rw [h2] at c2; rw [h3] at c3; rw [h4] at c4
  have E2 : Hk (min (min (min a1 a2) a3) a4 = r) := ⟨by rw [← h1, ← h2, ← h3, ← h4]; exact E.out⟩
  clear h1 h2 h3 h4 E
  obtain ⟨v', rfl⟩ : ∃ v', v = v' + 1 := ⟨v - 1, by omega⟩
  simp only [Nat.add_sub_cancel] at c2
  obtain ⟨X, hX⟩ : ∃ X, (u : Int) % W = X := ⟨_, rfl⟩
  rw [hX] at x0 x1 hx0 hx1
  have tm : (u : Int).tmod W = X := by rw [← hX]; exact Int.tmod_eq_emod_of_nonneg (by omega)
  have ev : (u : Int) + W = (v' : Int) + 1 := by omega
  have ew : IntKind.i64.wrap ((v' : Int) + 1 - 1) = v' := by rw [IntKind.wrap_i64]; omega
  have ew' : IntKind.i64.wrap (v' : Int) = v' := by rw [IntKind.wrap_i64]; omega
  obtain ⟨v2, hv2⟩ : ∃ v2, v' + 1 + 1 = v2 := ⟨_, rfl⟩
  rw [hv2] at c4
  have ex1 : (v' : Int) + 1 + 1 = v2 := by omega
  have ex2 : (v' : Int) + 2 = v2 := by omega
  have ex3 : IntKind.i64.wrap (v2 : Int) = v2 := by rw [IntKind.wrap_i64]; omega
  have l1 : (u : Int) + 1 < (n : Int) := by omega
  have l2 : (v' : Int) < (n : Int) := by omega
  have l3 : (v' : Int) + 1 < (n : Int) := by omega
  have l4 : (v2 : Int) < (n : Int) := by omega
  clear hv hv2
  have hm4 : ∀ ts t w, (Builtin.min_ ts t #[.int .i64 (a1 : Int), .int .i64 (a2 : Int), .int .i64 (a3 : Int), .int .i64 (a4 : Int)]).run Tryd.prog w = .ok (.int .i64 r) w := fun ts t w => by
    rw [run_min4, ← E2.out]; simp [Int.min_def]; omega
  go_enter Tryd.func60, Tryd.ntmps60
  go_wp2
  go_quiet (fail)
  go_wp2
  go_ret
  exact ⟨rfl, _, rfl⟩
set_option maxRecDepth 100000 in
theorem least_up0 (W t : Int) (G n : Nat) (w : World) (hn : n ≤ 20000) (w1 : 1 ≤ W) (w2 : W ≤ 128) (t0 : 0 ≤ t) (t1 : t < n) (hz : t % W = 0 ∨ t % W = W - 1 ∨ t - W < 0) :
    Calls Tryd.prog 60 #[.slice (some ⟨G, 0, none⟩) n n, .int .i64 W, .int .i64 t, .int .i64 (-1)] w fun e w' => e = .returned (.int .i64 0) ∧ ∃ m, w' = w.drewN m := by
  have hx0 := Int.emod_nonneg t (show W ≠ 0 by omega)
  have hx1 := Int.emod_lt_of_pos t (show 0 < W by omega)
  obtain ⟨X, hX⟩ : ∃ X, t % W = X := ⟨_, rfl⟩
  have tm : t.tmod W = X := by rw [← hX]; exact Int.tmod_eq_emod_of_nonneg (by omega)
  rw [hX] at hx0 hx1 hz
  have HX := Hk.mk hX
  have HZ := Hk.mk hz
  by_cases q1 : X = 0
  · have b1 : (X == 0) = true := by simpa using q1
    subst q1
    go_enter Tryd.func60, Tryd.ntmps60
    go_wp2
    go_ret
    exact ⟨rfl, 0, rfl⟩
  have b1 : (X == 0) = false := by simpa using q1
  by_cases q2 : X = W - 1
  · have b2 : (X == W - 1) = true := by simpa using q2
    clear hz q1 q2
    go_enter Tryd.func60, Tryd.ntmps60
    go_wp2
    go_ret
    exact ⟨rfl, 0, rfl⟩
  have b2 : (X == W - 1) = false := by simpa using q2
  have q3 : t - W < 0 := by omega
  clear hz q1 q2
  go_enter Tryd.func60, Tryd.ntmps60
  go_wp2
  all_goals
    first
      | (exfalso; omega)
      | (go_ret; exact ⟨rfl, 0, rfl⟩)
set_option maxRecDepth 100000 in
theorem least_dn0 (W t : Int) (G n : Nat) (w : World) (hn : n ≤ 20000) (w1 : 1 ≤ W) (w2 : W ≤ 128) (t0 : 0 ≤ t) (t1 : t < n) (hz : t % W = 0 ∨ t % W = W - 1 ∨ (n : Int) ≤ t + W) :
    Calls Tryd.prog 60 #[.slice (some ⟨G, 0, none⟩) n n, .int .i64 W, .int .i64 t, .int .i64 (1)] w fun e w' => e = .returned (.int .i64 0) ∧ ∃ m, w' = w.drewN m := by
  have hx0 := Int.emod_nonneg t (show W ≠ 0 by omega)
  have hx1 := Int.emod_lt_of_pos t (show 0 < W by omega)
  obtain ⟨X, hX⟩ : ∃ X, t % W = X := ⟨_, rfl⟩
  have tm : t.tmod W = X := by rw [← hX]; exact Int.tmod_eq_emod_of_nonneg (by omega)
  rw [hX] at hx0 hx1 hz
  have HX := Hk.mk hX
  have HZ := Hk.mk hz
  by_cases q1 : X = 0
  · have b1 : (X == 0) = true := by simpa using q1
    subst q1
    go_enter Tryd.func60, Tryd.ntmps60
    go_wp2
    go_ret
    exact ⟨rfl, 0, rfl⟩
  have b1 : (X == 0) = false := by simpa using q1
  by_cases q2 : X = W - 1
  · have b2 : (X == W - 1) = true := by simpa using q2
    clear hz q1 q2
    go_enter Tryd.func60, Tryd.ntmps60
    go_wp2
    go_ret
    exact ⟨rfl, 0, rfl⟩
  have b2 : (X == W - 1) = false := by simpa using q2
  have q3 : (n : Int) ≤ t + W := by omega
  clear hz q1 q2
  go_enter Tryd.func60, Tryd.ntmps60
  go_wp2
  all_goals
    first
      | (exfalso; omega)
      | (go_ret; exact ⟨rfl, 0, rfl⟩)
end Go.Proofs.YtjjodfdmbiebnaaDoor
/- Layer 9: clear.Grid. -/
namespace Go.Proofs.YtjjodfdmbiebnaaDoor
open Go.RowKit
set_option linter.unusedVariables false
set_option linter.unusedSimpArgs false
/-- Room above and left of a tile; room at all sides of it. -/
def fC (W H : Int) (f : Nat → Bool) (k : Nat) : Nat := fV W H f ((k : Int) % W) ((k : Int) / W)
def sC (W H : Int) (f : Nat → Bool) (k : Nat) : Nat := sV W H f ((k : Int) % W) ((k : Int) / W)
theorem xy_at' {W x y : Int} {j : Nat} (h : (j : Int) = x + W * y) (x0 : 0 ≤ x) (x1 : x < W) : (j : Int) % W = x ∧ (j : Int) / W = y := by
  rw [h, Int.add_mul_emod_self_left, Int.add_mul_ediv_left _ _ (by omega), Int.emod_eq_of_lt x0 x1, Int.ediv_eq_zero_of_lt x0 x1]
  exact ⟨rfl, by omega⟩
theorem fC_at {W H : Int} {f : Nat → Bool} {x y : Int} {j : Nat} (h : (j : Int) = x + W * y) (x0 : 0 ≤ x) (x1 : x < W) : fC W H f j = fV W H f x y := by
  obtain ⟨h1, h2⟩ := xy_at' h x0 x1
  unfold fC; rw [h1, h2]
theorem sC_at {W H : Int} {f : Nat → Bool} {x y : Int} {j : Nat} (h : (j : Int) = x + W * y) (x0 : 0 ≤ x) (x1 : x < W) : sC W H f j = sV W H f x y := by
  obtain ⟨h1, h2⟩ := xy_at' h x0 x1
  unfold sC; rw [h1, h2]
/-- What a tile's place says. -/
structure At (W H : Int) (n k : Nat) (x y : Int) : Prop where
  e : (k : Int) = x + W * y
  x0 : 0 ≤ x
  x1 : x < W
  y0 : 0 ≤ y
  y1 : y < H
  m : (k : Int) % W = x
  d : (k : Int) / W = y
theorem at_of {W H : Int} {n k : Nat} (w1 : 1 ≤ W) (hn : (n : Int) = W * H) (hk : k < n) : At W H n k ((k : Int) % W) ((k : Int) / W) := by
  have em := Int.emod_add_mul_ediv (k : Int) W
  exact ⟨by omega, Int.emod_nonneg _ (by omega), Int.emod_lt_of_pos _ (by omega), Int.ediv_nonneg (by omega) (by omega), Int.ediv_lt_of_lt_mul (by omega) (by rw [Int.mul_comm]; omega), rfl, rfl⟩
theorem op_at {W H : Int} {n k : Nat} {x y : Int} {f : Nat → Bool} (h : At W H n k x y) : opXY W H f x y = f k := by
  unfold opXY
  rw [decide_eq_true (show 0 ≤ x ∧ x < W ∧ 0 ≤ y ∧ y < H from ⟨h.x0, h.x1, h.y0, h.y1⟩), ← h.e]
  simp
theorem op_out {W H x y : Int} {f : Nat → Bool} (h : ¬ (0 ≤ x ∧ x < W ∧ 0 ≤ y ∧ y < H)) : opXY W H f x y = false := by
  unfold opXY; rw [decide_eq_false h]; rfl
/-- The least of the four above and left; below and right. -/
def uL (W H : Int) (f : Nat → Bool) (x y : Int) : Nat := min (min (min (fV W H f (x - 1) y) (fV W H f (x - 1) (y - 1))) (fV W H f x (y - 1))) (fV W H f (x + 1) (y - 1))
def dL (W H : Int) (f : Nat → Bool) (x y : Int) : Nat := min (min (min (sV W H f (x + 1) y) (sV W H f (x - 1) (y + 1))) (sV W H f x (y + 1))) (sV W H f (x + 1) (y + 1))
theorem uL_edge {W H : Int} {f : Nat → Bool} (hW : W ≤ 128) {x y : Int} (x0 : 0 ≤ x) (h : x = 0 ∨ x = W - 1 ∨ y = 0) : uL W H f x y = 0 := by
  unfold uL
  rcases h with h | h | h
  · rw [fV_no hW (x := x - 1) (y := y) (op_out (by omega))]; simp
  · rw [fV_no hW (x := x + 1) (y := y - 1) (op_out (by omega))]; simp
  · rw [fV_no hW (x := x) (y := y - 1) (op_out (by omega))]; simp
theorem dL_edge {W H : Int} {f : Nat → Bool} (hW : W ≤ 128) {x y : Int} (x0 : 0 ≤ x) (h : x = 0 ∨ x = W - 1 ∨ y = H - 1) : dL W H f x y = 0 := by
  unfold dL
  rcases h with h | h | h
  · rw [sV_no hW (x := x - 1) (y := y + 1) (op_out (by omega))]; simp
  · rw [sV_no hW (x := x + 1) (y := y) (op_out (by omega))]; simp
  · rw [sV_no hW (x := x) (y := y + 1) (op_out (by omega))]; simp
/-- The number on the first side. -/
theorem lst_up {W H : Int} {G n k : Nat} {F : Nat → Nat} {f : Nat → Bool} {x y : Int} (w : World) (hA : Arr w G n 3 (fun j => .int .i64 (F j))) (hF : ∀ j, j < k → F j = fC W H f j) (hn : n ≤ 20000) (w1 : 1 ≤ W) (w2 : W ≤ 128) (hnn : (n : Int) = W * H) (hk : k < n) (h : At W H n k x y) (u : Nat) (hu : uL W H f x y = u) :
    Calls Tryd.prog 60 #[.slice (some ⟨G, 0, none⟩) n n, .int .i64 W, .int .i64 k, .int .i64 (-1)] w fun e w' => e = .returned (.int .i64 u) ∧ ∃ m, w' = w.drewN m := by
  by_cases hz : x = 0 ∨ x = W - 1 ∨ y = 0
  · rw [uL_edge w2 h.x0 hz] at hu
    subst hu
    refine least_up0 W k G n w hn w1 w2 (by omega) (by omega) ?_
    rw [h.m]
    rcases hz with hz | hz | hz
    · exact Or.inl hz
    · exact Or.inr (Or.inl hz)
    · right; right; have := h.e; rw [hz] at this; have := h.x1; omega
  · have hy1 : 1 ≤ y := by have := h.y0; omega
    have hWy : W * y = W * (y - 1) + W := by rw [Int.mul_sub, Int.mul_one]; omega
    have hq0 : 0 ≤ W * (y - 1) := Int.mul_nonneg (by omega) (by omega)
    have he := h.e
    have hx0 := h.x0
    have hx1 := h.x1
    obtain ⟨v, hv⟩ : ∃ v : Nat, (k : Int) - W = v := ⟨((k : Int) - W).toNat, by omega⟩
    refine least_up W k G n F u w hA hn w1 w2 (by omega) (by omega) (by rw [h.m]; omega) (by rw [h.m]; omega) (by omega) k rfl v hv (by omega) ⟨?_⟩
    rw [hF (k - 1) (by omega), hF (v - 1) (by omega), hF v (by omega), hF (v + 1) (by omega), ← hu]
    unfold uL
    rw [fC_at (x := x - 1) (y := y) (j := k - 1) (by omega) (by omega) (by omega), fC_at (x := x - 1) (y := y - 1) (j := v - 1) (by omega) (by omega) (by omega), fC_at (x := x) (y := y - 1) (j := v) (by omega) (by omega) (by omega), fC_at (x := x + 1) (y := y - 1) (j := v + 1) (by omega) (by omega) (by omega)]
theorem lst_dn {W H : Int} {G n k : Nat} {F : Nat → Nat} {f : Nat → Bool} {x y : Int} (w : World) (hA : Arr w G n 3 (fun j => .int .i64 (F j))) (hF : ∀ j, k < j → j < n → F j = sC W H f j) (hn : n ≤ 20000) (w1 : 1 ≤ W) (w2 : W ≤ 128) (hnn : (n : Int) = W * H) (hk : k < n) (h : At W H n k x y) (u : Nat) (hu : dL W H f x y = u) :
    Calls Tryd.prog 60 #[.slice (some ⟨G, 0, none⟩) n n, .int .i64 W, .int .i64 k, .int .i64 1] w fun e w' => e = .returned (.int .i64 u) ∧ ∃ m, w' = w.drewN m := by
  by_cases hz : x = 0 ∨ x = W - 1 ∨ y = H - 1
  · rw [dL_edge w2 h.x0 hz] at hu
    subst hu
    refine least_dn0 W k G n w hn w1 w2 (by omega) (by omega) ?_
    rw [h.m]
    rcases hz with hz | hz | hz
    · exact Or.inl hz
    · exact Or.inr (Or.inl hz)
    · right; right
      have he := h.e
      have hx0 := h.x0
      rw [hz, Int.mul_sub, Int.mul_one] at he
      omega
  · have hy1 : y + 1 ≤ H - 1 := by have := h.y1; omega
    have hWy : W * (y + 1) = W * y + W := by rw [Int.mul_add, Int.mul_one]
    have hle : W * (y + 1) ≤ W * (H - 1) := Int.mul_le_mul_of_nonneg_left hy1 (by omega)
    rw [Int.mul_sub, Int.mul_one] at hle
    have he := h.e
    have hx0 := h.x0
    have hx1 := h.x1
    have hWy0 : 0 ≤ W * y := Int.mul_nonneg (by omega) h.y0
    obtain ⟨v, hv⟩ : ∃ v : Nat, (k : Int) + W = v := ⟨((k : Int) + W).toNat, by omega⟩
    refine least_dn W k G n F u w hA hn w1 w2 (by omega) (by omega) (by rw [h.m]; omega) (by rw [h.m]; omega) k rfl v hv (by omega) ⟨?_⟩
    rw [hF (k + 1) (by omega) (by omega), hF (v - 1) (by omega) (by omega), hF v (by omega) (by omega), hF (v + 1) (by omega) (by omega), ← hu]
    unfold dL
    rw [sC_at (x := x + 1) (y := y) (j := k + 1) (by omega) (by omega) (by omega), sC_at (x := x - 1) (y := y + 1) (j := v - 1) (by omega) (by omega) (by omega), sC_at (x := x) (y := y + 1) (j := v) (by omega) (by omega) (by omega), sC_at (x := x + 1) (y := y + 1) (j := v + 1) (by omega) (by omega) (by omega)]
end Go.Proofs.YtjjodfdmbiebnaaDoor
