import Derived.WalkLawsBesides
import Derived.BigGuardPart
import Derived.Deep.QuietTactic
import Derived.BigQuiet
import Derived.Deep.RegionWith
import Derived.Deep.RegionHeld3
import Derived.Deep.DeepCutAuto
import Derived.Deep.DeepFit
import Derived.Outline
import Derived.Test.YthabjihpjdlmoaaDoorSkv
import Derived.Test.YthabjihpjdlmoaaDoorSkf
import Derived.Test.YthabjihpjdlmoaaDoorSkb
/- Layer 9: the least number on one side of a tile. -/
namespace Go.Proofs.YthabjihpjdlmoaaDoor
open Go.RowKit
set_option linter.unusedVariables false
set_option linter.unusedSimpArgs false
theorem min2_if (x y : Int) : (if y < x then y else x) = min x y := by
  rw [Int.min_def]; split <;> split <;> omega
theorem run_min4 (P : Program) (ts : Array TypeId) (t : TypeId) (w : World) (x y z u : Int) : (Builtin.min_ ts t #[.int .i64 x, .int .i64 y, .int .i64 z, .int .i64 u]).run P w = .ok (.int .i64 (min (min (min x y) z) u)) w := by
  simp [Builtin.min_, Builtin.min2]
  rw [min2_if x y, min2_if (min x y) z, min2_if (min (min x y) z) u]
  simp only [Int.min_def]; split <;> split <;> split <;> (try split) <;> (try split) <;> omega
theorem run_min2 (P : Program) (ts : Array TypeId) (t : TypeId) (w : World) (x y : Int) : (Builtin.min_ ts t #[.int .i64 x, .int .i64 y]).run P w = .ok (.int .i64 (min x y)) w := by
  simp [Builtin.min_, Builtin.min2]
  try rw [min2_if x y]
set_option maxRecDepth 100000 in
set_option maxHeartbeats 800000 in
theorem least_up (W t : Int) (G n : Nat) (f : Nat → Nat) (r : Nat) (w : World) (hA : Arr w G n 3 (fun k => .int .i64 (f k))) (hn : n ≤ 20000) (w1 : 1 ≤ W) (w2 : W ≤ 128) (t0 : 0 ≤ t) (t1 : t < n) (x0 : ¬ t % W = 0) (x1 : ¬ t % W = W - 1) (y0 : 0 ≤ t - W) (u : Nat) (hu : t = u) (v : Nat) (hv : t - W = v) (hv1 : 1 ≤ v)
    (E : Hk (min (min (min (f (u - 1)) (f (v - 1))) (f v)) (f (v + 1)) = r)) :
    Calls Tryd.prog 79 #[.slice (some ⟨G, 0, none⟩) n n, .int .i64 W, .int .i64 t, .int .i64 (-1)] w fun e w' => e = .returned (.int .i64 r) ∧ ∃ m, w' = w.drewN m := by
  subst hu
  have hx0 := Int.emod_nonneg (u : Int) (show W ≠ 0 by omega)
  have hx1 := Int.emod_lt_of_pos (u : Int) (show 0 < W by omega)
  have hu1 : 1 ≤ u := by
    rcases Nat.lt_or_ge 0 u with h | h
    · exact h
    · obtain rfl : u = 0 := by omega
      simp at x0
  have c1 := hA.cell (show u - 1 < n by omega)
  have c2 := hA.cell (show v - 1 < n by omega)
  have c3 := hA.cell (show v < n by omega)
  have c4 := hA.cell (show v + 1 < n by omega)
  clear hA
  obtain ⟨a1, h1⟩ : ∃ a1, f (u - 1) = a1 := ⟨_, rfl⟩
  obtain ⟨a2, h2⟩ : ∃ a1, f (v - 1) = a1 := ⟨_, rfl⟩
  obtain ⟨a3, h3⟩ : ∃ a1, f v = a1 := ⟨_, rfl⟩
  obtain ⟨a4, h4⟩ : ∃ a1, f (v + 1) = a1 := ⟨_, rfl⟩
  rw [h1] at c1; rw [h2] at c2; rw [h3] at c3; rw [h4] at c4
  have E2 : Hk (min (min (min a1 a2) a3) a4 = r) := ⟨by rw [← h1, ← h2, ← h3, ← h4]; exact E.out⟩
  clear h1 h2 h3 h4 E
  obtain ⟨u', rfl⟩ : ∃ u', u = u' + 1 := ⟨u - 1, by omega⟩
  obtain ⟨v', rfl⟩ : ∃ v', v = v' + 1 := ⟨v - 1, by omega⟩
  simp only [Nat.add_sub_cancel] at c1 c2
  obtain ⟨X, hX⟩ : ∃ X, ((u' + 1 : Nat) : Int) % W = X := ⟨_, rfl⟩
  rw [hX] at x0 x1 hx0 hx1
  have tm : ((u' : Int) + 1).tmod W = X := by rw [← hX]; push_cast; exact Int.tmod_eq_emod_of_nonneg (by omega)
  have tm' : ((u' : Int) + 1) % W = X := by rw [← hX]; push_cast; rfl
  have eu : (u' : Int) + 1 + -1 = u' := by omega
  have ev : (u' : Int) + 1 + -W = (v' : Int) + 1 := by omega
  have ew : IntKind.i64.wrap ((v' : Int) + 1 - 1) = v' := by rw [IntKind.wrap_i64]; omega
  have ew' : IntKind.i64.wrap (v' : Int) = v' := by rw [IntKind.wrap_i64]; omega
  obtain ⟨v2, hv2⟩ : ∃ v2, v' + 1 + 1 = v2 := ⟨_, rfl⟩
  rw [hv2] at c4
  have ex1 : (v' : Int) + 1 + 1 = v2 := by omega
  have ex2 : (v' : Int) + 2 = v2 := by omega
  have ex3 : IntKind.i64.wrap (v2 : Int) = v2 := by rw [IntKind.wrap_i64]; omega
  have l1 : (u' : Int) < (n : Int) := by omega
  have l2 : (v' : Int) < (n : Int) := by omega
  have l3 : (v' : Int) + 1 < (n : Int) := by omega
  have l4 : (v2 : Int) < (n : Int) := by omega
  clear hX hv hv2
  have hm4 : ∀ ts t w, (Builtin.min_ ts t #[.int .i64 (a1 : Int), .int .i64 (a2 : Int), .int .i64 (a3 : Int), .int .i64 (a4 : Int)]).run Tryd.prog w = .ok (.int .i64 r) w := fun ts t w => by
    rw [run_min4, ← E2.out]; simp [Int.min_def]; omega
  go_enter Tryd.func79, Tryd.ntmps79
  go_wp2
  go_quiet (fail)
  go_wp2
  go_ret
  exact ⟨rfl, _, rfl⟩
set_option maxRecDepth 100000 in
set_option maxHeartbeats 800000 in
theorem least_dn (W t : Int) (G n : Nat) (f : Nat → Nat) (r : Nat) (w : World) (hA : Arr w G n 3 (fun k => .int .i64 (f k))) (hn : n ≤ 20000) (w1 : 1 ≤ W) (w2 : W ≤ 128) (t0 : 0 ≤ t) (t1 : t < n) (x0 : ¬ t % W = 0) (x1 : ¬ t % W = W - 1) (u : Nat) (hu : t = u) (v : Nat) (hv : t + W = v) (hv1 : v + 1 < n)
    (E : Hk (min (min (min (f (u + 1)) (f (v - 1))) (f v)) (f (v + 1)) = r)) :
    Calls Tryd.prog 79 #[.slice (some ⟨G, 0, none⟩) n n, .int .i64 W, .int .i64 t, .int .i64 1] w fun e w' => e = .returned (.int .i64 r) ∧ ∃ m, w' = w.drewN m := by
  subst hu
  have hx0 := Int.emod_nonneg (u : Int) (show W ≠ 0 by omega)
  have hx1 := Int.emod_lt_of_pos (u : Int) (show 0 < W by omega)
  have c1 := hA.cell (show u + 1 < n by omega)
  have c2 := hA.cell (show v - 1 < n by omega)
  have c3 := hA.cell (show v < n by omega)
  have c4 := hA.cell (show v + 1 < n by omega)
  clear hA
  obtain ⟨a1, h1⟩ : ∃ a1, f (u + 1) = a1 := ⟨_, rfl⟩
  obtain ⟨a2, h2⟩ : ∃ a1, f (v - 1) = a1 := ⟨_, rfl⟩
  obtain ⟨a3, h3⟩ : ∃ a1, f v = a1 := ⟨_, rfl⟩
  obtain ⟨a4, h4⟩ : ∃ a1, f (v + 1) = a1 := ⟨_, rfl⟩
  rw [h1] at c1; rw [h2] at c2; rw [h3] at c3; rw [h4] at c4
  have E2 : Hk (min (min (min a1 a2) a3) a4 = r) := ⟨by rw [← h1, ← h2, ← h3, ← h4]; exact E.out⟩
  clear h1 h2 h3 h4 E
  obtain ⟨v', rfl⟩ : ∃ v', v = v' + 1 := ⟨v - 1, by omega⟩
  simp only [Nat.add_sub_cancel] at c2
  obtain ⟨X, hX⟩ : ∃ X, (u : Int) % W = X := ⟨_, rfl⟩
  rw [hX] at x0 x1 hx0 hx1
  have tm : (u : Int).tmod W = X := by rw [← hX]; exact Int.tmod_eq_emod_of_nonneg (by omega)
  have ev : (u : Int) + W = (v' : Int) + 1 := by omega
  have ew : IntKind.i64.wrap ((v' : Int) + 1 - 1) = v' := by rw [IntKind.wrap_i64]; omega
  have ew' : IntKind.i64.wrap (v' : Int) = v' := by rw [IntKind.wrap_i64]; omega
  obtain ⟨v2, hv2⟩ : ∃ v2, v' + 1 + 1 = v2 := ⟨_, rfl⟩
  rw [hv2] at c4
  have ex1 : (v' : Int) + 1 + 1 = v2 := by omega
  have ex2 : (v' : Int) + 2 = v2 := by omega
  have ex3 : IntKind.i64.wrap (v2 : Int) = v2 := by rw [IntKind.wrap_i64]; omega
  have l1 : (u : Int) + 1 < (n : Int) := by omega
  have l2 : (v' : Int) < (n : Int) := by omega
  have l3 : (v' : Int) + 1 < (n : Int) := by omega
  have l4 : (v2 : Int) < (n : Int) := by omega
  clear hv hv2
  have hm4 : ∀ ts t w, (Builtin.min_ ts t #[.int .i64 (a1 : Int), .int .i64 (a2 : Int), .int .i64 (a3 : Int), .int .i64 (a4 : Int)]).run Tryd.prog w = .ok (.int .i64 r) w := fun ts t w => by
    rw [run_min4, ← E2.out]; simp [Int.min_def]; omega
  go_enter Tryd.func79, Tryd.ntmps79
  go_wp2
  go_quiet (fail)
  go_wp2
  go_ret
  exact ⟨rfl, _, rfl⟩
set_option maxRecDepth 100000 in
theorem least_up0 (W t : Int) (G n : Nat) (w : World) (hn : n ≤ 20000) (w1 : 1 ≤ W) (w2 : W ≤ 128) (t0 : 0 ≤ t) (t1 : t < n) (hz : t % W = 0 ∨ t % W = W - 1 ∨ t - W < 0) :
    Calls Tryd.prog 79 #[.slice (some ⟨G, 0, none⟩) n n, .int .i64 W, .int .i64 t, .int .i64 (-1)] w fun e w' => e = .returned (.int .i64 0) ∧ ∃ m, w' = w.drewN m := by
  have hx0 := Int.emod_nonneg t (show W ≠ 0 by omega)
  have hx1 := Int.emod_lt_of_pos t (show 0 < W by omega)
  obtain ⟨X, hX⟩ : ∃ X, t % W = X := ⟨_, rfl⟩
  have tm : t.tmod W = X := by rw [← hX]; exact Int.tmod_eq_emod_of_nonneg (by omega)
  rw [hX] at hx0 hx1 hz
  have HX := Hk.mk hX
  have HZ := Hk.mk hz
  by_cases q1 : X = 0
  · have b1 : (X == 0) = true := by simpa using q1
    subst q1
    go_enter Tryd.func79, Tryd.ntmps79
    go_wp2
    go_ret
    exact ⟨rfl, 0, rfl⟩
  have b1 : (X == 0) = false := by simpa using q1
  by_cases q2 : X = W - 1
  · have b2 : (X == W - 1) = true := by simpa using q2
    clear hz q1 q2
    go_enter Tryd.func79, Tryd.ntmps79
    go_wp2
    go_ret
    exact ⟨rfl, 0, rfl⟩
  have b2 : (X == W - 1) = false := by simpa using q2
  have q3 : t - W < 0 := by omega
  clear hz q1 q2
  go_enter Tryd.func79, Tryd.ntmps79
  go_wp2
  all_goals
    first
      | (exfalso; omega)
      | (go_ret; exact ⟨rfl, 0, rfl⟩)
set_option maxRecDepth 100000 in
theorem least_dn0 (W t : Int) (G n : Nat) (w : World) (hn : n ≤ 20000) (w1 : 1 ≤ W) (w2 : W ≤ 128) (t0 : 0 ≤ t) (t1 : t < n) (hz : t % W = 0 ∨ t % W = W - 1 ∨ (n : Int) ≤ t + W) :
    Calls Tryd.prog 79 #[.slice (some ⟨G, 0, none⟩) n n, .int .i64 W, .int .i64 t, .int .i64 (1)] w fun e w' => e = .returned (.int .i64 0) ∧ ∃ m, w' = w.drewN m := by
  have hx0 := Int.emod_nonneg t (show W ≠ 0 by omega)
  have hx1 := Int.emod_lt_of_pos t (show 0 < W by omega)
  obtain ⟨X, hX⟩ : ∃ X, t % W = X := ⟨_, rfl⟩
  have tm : t.tmod W = X := by rw [← hX]; exact Int.tmod_eq_emod_of_nonneg (by omega)
  rw [hX] at hx0 hx1 hz
  have HX := Hk.mk hX
  have HZ := Hk.mk hz
  by_cases q1 : X = 0
  · have b1 : (X == 0) = true := by simpa using q1
    subst q1
    go_enter Tryd.func79, Tryd.ntmps79
    go_wp2
    go_ret
    exact ⟨rfl, 0, rfl⟩
  have b1 : (X == 0) = false := by simpa using q1
  by_cases q2 : X = W - 1
  · have b2 : (X == W - 1) = true := by simpa using q2
    clear hz q1 q2
    go_enter Tryd.func79, Tryd.ntmps79
    go_wp2
    go_ret
    exact ⟨rfl, 0, rfl⟩
  have b2 : (X == W - 1) = false := by simpa using q2
  have q3 : (n : Int) ≤ t + W := by omega
  clear hz q1 q2
  go_enter Tryd.func79, Tryd.ntmps79
  go_wp2
  all_goals
    first
      | (exfalso; omega)
      | (go_ret; exact ⟨rfl, 0, rfl⟩)
end Go.Proofs.YthabjihpjdlmoaaDoor
/- Layer 9: clear.Grid. -/
namespace Go.Proofs.YthabjihpjdlmoaaDoor
open Go.RowKit
set_option linter.unusedVariables false
set_option linter.unusedSimpArgs false
/-- Room above and left of a tile; room at all sides of it. -/
def fC (W H : Int) (f : Nat → Bool) (k : Nat) : Nat := fV W H f ((k : Int) % W) ((k : Int) / W)
def sC (W H : Int) (f : Nat → Bool) (k : Nat) : Nat := sV W H f ((k : Int) % W) ((k : Int) / W)
theorem xy_at' {W x y : Int} {j : Nat} (h : (j : Int) = x + W * y) (x0 : 0 ≤ x) (x1 : x < W) : (j : Int) % W = x ∧ (j : Int) / W = y := by
  rw [h, Int.add_mul_emod_self_left, Int.add_mul_ediv_left _ _ (by omega), Int.emod_eq_of_lt x0 x1, Int.ediv_eq_zero_of_lt x0 x1]
  exact ⟨rfl, by omega⟩
theorem fC_at {W H : Int} {f : Nat → Bool} {x y : Int} {j : Nat} (h : (j : Int) = x + W * y) (x0 : 0 ≤ x) (x1 : x < W) : fC W H f j = fV W H f x y := by
  obtain ⟨h1, h2⟩ := xy_at' h x0 x1
  unfold fC; rw [h1, h2]
theorem sC_at {W H : Int} {f : Nat → Bool} {x y : Int} {j : Nat} (h : (j : Int) = x + W * y) (x0 : 0 ≤ x) (x1 : x < W) : sC W H f j = sV W H f x y := by
  obtain ⟨h1, h2⟩ := xy_at' h x0 x1
  unfold sC; rw [h1, h2]
/-- What a tile's place says. -/
structure At (W H : Int) (n k : Nat) (x y : Int) : Prop where
  e : (k : Int) = x + W * y
  x0 : 0 ≤ x
  x1 : x < W
  y0 : 0 ≤ y
  y1 : y < H
  m : (k : Int) % W = x
  d : (k : Int) / W = y
theorem at_of {W H : Int} {n k : Nat} (w1 : 1 ≤ W) (hn : (n : Int) = W * H) (hk : k < n) : At W H n k ((k : Int) % W) ((k : Int) / W) := by
  have em := Int.emod_add_mul_ediv (k : Int) W
  exact ⟨by omega, Int.emod_nonneg _ (by omega), Int.emod_lt_of_pos _ (by omega), Int.ediv_nonneg (by omega) (by omega), Int.ediv_lt_of_lt_mul (by omega) (by rw [Int.mul_comm]; omega), rfl, rfl⟩
theorem op_at {W H : Int} {n k : Nat} {x y : Int} {f : Nat → Bool} (h : At W H n k x y) : opXY W H f x y = f k := by
  unfold opXY
  rw [decide_eq_true (show 0 ≤ x ∧ x < W ∧ 0 ≤ y ∧ y < H from ⟨h.x0, h.x1, h.y0, h.y1⟩), ← h.e]
  simp
theorem op_out {W H x y : Int} {f : Nat → Bool} (h : ¬ (0 ≤ x ∧ x < W ∧ 0 ≤ y ∧ y < H)) : opXY W H f x y = false := by
  unfold opXY; rw [decide_eq_false h]; rfl
/-- The least of the four above and left; below and right. -/
def uL (W H : Int) (f : Nat → Bool) (x y : Int) : Nat := min (min (min (fV W H f (x - 1) y) (fV W H f (x - 1) (y - 1))) (fV W H f x (y - 1))) (fV W H f (x + 1) (y - 1))
def dL (W H : Int) (f : Nat → Bool) (x y : Int) : Nat := min (min (min (sV W H f (x + 1) y) (sV W H f (x - 1) (y + 1))) (sV W H f x (y + 1))) (sV W H f (x + 1) (y + 1))
theorem uL_edge {W H : Int} {f : Nat → Bool} (hW : W ≤ 128) {x y : Int} (x0 : 0 ≤ x) (h : x = 0 ∨ x = W - 1 ∨ y = 0) : uL W H f x y = 0 := by
  unfold uL
  rcases h with h | h | h
  · rw [fV_no hW (x := x - 1) (y := y) (op_out (by omega))]; simp
  · rw [fV_no hW (x := x + 1) (y := y - 1) (op_out (by omega))]; simp
  · rw [fV_no hW (x := x) (y := y - 1) (op_out (by omega))]; simp
theorem dL_edge {W H : Int} {f : Nat → Bool} (hW : W ≤ 128) {x y : Int} (x0 : 0 ≤ x) (h : x = 0 ∨ x = W - 1 ∨ y = H - 1) : dL W H f x y = 0 := by
  unfold dL
  rcases h with h | h | h
  · rw [sV_no hW (x := x - 1) (y := y + 1) (op_out (by omega))]; simp
  · rw [sV_no hW (x := x + 1) (y := y) (op_out (by omega))]; simp
  · rw [sV_no hW (x := x) (y := y + 1) (op_out (by omega))]; simp
/-- The number on the first side. -/
theorem lst_up {W H : Int} {G n k : Nat} {F : Nat → Nat} {f : Nat → Bool} {x y : Int} (w : World) (hA : Arr w G n 3 (fun j => .int .i64 (F j))) (hF : ∀ j, j < k → F j = fC W H f j) (hn : n ≤ 20000) (w1 : 1 ≤ W) (w2 : W ≤ 128) (hnn : (n : Int) = W * H) (hk : k < n) (h : At W H n k x y) (u : Nat) (hu : uL W H f x y = u) :
    Calls Tryd.prog 79 #[.slice (some ⟨G, 0, none⟩) n n, .int .i64 W, .int .i64 k, .int .i64 (-1)] w fun e w' => e = .returned (.int .i64 u) ∧ ∃ m, w' = w.drewN m := by
  by_cases hz : x = 0 ∨ x = W - 1 ∨ y = 0
  · rw [uL_edge w2 h.x0 hz] at hu
    subst hu
    refine least_up0 W k G n w hn w1 w2 (by omega) (by omega) ?_
    rw [h.m]
    rcases hz with hz | hz | hz
    · exact Or.inl hz
    · exact Or.inr (Or.inl hz)
    · right; right; have := h.e; rw [hz] at this; have := h.x1; omega
  · have hy1 : 1 ≤ y := by have := h.y0; omega
    have hWy : W * y = W * (y - 1) + W := by rw [Int.mul_sub, Int.mul_one]; omega
    have hq0 : 0 ≤ W * (y - 1) := Int.mul_nonneg (by omega) (by omega)
    have he := h.e
    have hx0 := h.x0
    have hx1 := h.x1
    obtain ⟨v, hv⟩ : ∃ v : Nat, (k : Int) - W = v := ⟨((k : Int) - W).toNat, by omega⟩
    refine least_up W k G n F u w hA hn w1 w2 (by omega) (by omega) (by rw [h.m]; omega) (by rw [h.m]; omega) (by omega) k rfl v hv (by omega) ⟨?_⟩
    rw [hF (k - 1) (by omega), hF (v - 1) (by omega), hF v (by omega), hF (v + 1) (by omega), ← hu]
    unfold uL
    rw [fC_at (x := x - 1) (y := y) (j := k - 1) (by omega) (by omega) (by omega), fC_at (x := x - 1) (y := y - 1) (j := v - 1) (by omega) (by omega) (by omega), fC_at (x := x) (y := y - 1) (j := v) (by omega) (by omega) (by omega), fC_at (x := x + 1) (y := y - 1) (j := v + 1) (by omega) (by omega) (by omega)]
theorem lst_dn {W H : Int} {G n k : Nat} {F : Nat → Nat} {f : Nat → Bool} {x y : Int} (w : World) (hA : Arr w G n 3 (fun j => .int .i64 (F j))) (hF : ∀ j, k < j → j < n → F j = sC W H f j) (hn : n ≤ 20000) (w1 : 1 ≤ W) (w2 : W ≤ 128) (hnn : (n : Int) = W * H) (hk : k < n) (h : At W H n k x y) (u : Nat) (hu : dL W H f x y = u) :
    Calls Tryd.prog 79 #[.slice (some ⟨G, 0, none⟩) n n, .int .i64 W, .int .i64 k, .int .i64 1] w fun e w' => e = .returned (.int .i64 u) ∧ ∃ m, w' = w.drewN m := by
  by_cases hz : x = 0 ∨ x = W - 1 ∨ y = H - 1
  · rw [dL_edge w2 h.x0 hz] at hu
    subst hu
    refine least_dn0 W k G n w hn w1 w2 (by omega) (by omega) ?_
    rw [h.m]
    rcases hz with hz | hz | hz
    · exact Or.inl hz
    · exact Or.inr (Or.inl hz)
    · right; right
      have he := h.e
      have hx0 := h.x0
      rw [hz, Int.mul_sub, Int.mul_one] at he
      omega
  · have hy1 : y + 1 ≤ H - 1 := by have := h.y1; omega
    have hWy : W * (y + 1) = W * y + W := by rw [Int.mul_add, Int.mul_one]
    have hle : W * (y + 1) ≤ W * (H - 1) := Int.mul_le_mul_of_nonneg_left hy1 (by omega)
    rw [Int.mul_sub, Int.mul_one] at hle
    have he := h.e
    have hx0 := h.x0
    have hx1 := h.x1
    have hWy0 : 0 ≤ W * y := Int.mul_nonneg (by omega) h.y0
    obtain ⟨v, hv⟩ : ∃ v : Nat, (k : Int) + W = v := ⟨((k : Int) + W).toNat, by omega⟩
    refine least_dn W k G n F u w hA hn w1 w2 (by omega) (by omega) (by rw [h.m]; omega) (by rw [h.m]; omega) k rfl v hv (by omega) ⟨?_⟩
    rw [hF (k + 1) (by omega) (by omega), hF (v - 1) (by omega) (by omega), hF v (by omega) (by omega), hF (v + 1) (by omega) (by omega), ← hu]
    unfold dL
    rw [sC_at (x := x + 1) (y := y) (j := k + 1) (by omega) (by omega) (by omega), sC_at (x := x - 1) (y := y + 1) (j := v - 1) (by omega) (by omega) (by omega), sC_at (x := x) (y := y + 1) (j := v) (by omega) (by omega) (by omega), sC_at (x := x + 1) (y := y + 1) (j := v + 1) (by omega) (by omega) (by omega)]
end Go.Proofs.YthabjihpjdlmoaaDoor
/- Layer 9: clear.Grid, walked. -/
namespace Go.Proofs.YthabjihpjdlmoaaDoor
open Go.RowKit
set_option linter.unusedVariables false
set_option linter.unusedSimpArgs false
set_option maxRecDepth 100000 in
theorem grid_no (W H : Int) (a : Option Addr) (n c : Nat) (xs : List Int) (la : Option Addr) (ln lc : Nat) (bs : List Bd) (w : World) (h : By w w.heap.size a n xs) (hb0 : Bq w w.heap.size la ln bs) (hn : n ≤ 140737488355328) (hln : ln ≤ 1099511627776) (x : Int) (MM : Hk (¬ (MOk W H n xs bs ∧ 0 ≤ x ∧ x ≤ 2))) :
    Calls Tryd.prog 54 #[.agg #[.int .i64 W, .int .i64 H, .slice a n c], .slice la ln lc, .int .i64 x] w fun e w' => e = .returned (.tuple #[.slice none 0 0, .int .i64 1]) ∧ Below w.heap.size w w' := by
  have HWB : Hk (Below w.heap.size w (w.alloc (.cells #[.int .i64 W, .int .i64 H, .slice a n c] 24))) := ⟨(Below.refl _ _).alloc (Nat.le_refl _) _⟩
  have hNW : w.heap.size + 1 ≤ (w.alloc (.cells #[.int .i64 W, .int .i64 H, .slice a n c] 24)).heap.size := by simp
  have HB : Hk (Below (w.heap.size + 1) (w.alloc (.cells #[.int .i64 W, .int .i64 H, .slice a n c] 24)) (w.alloc (.cells #[.int .i64 W, .int .i64 H, .slice a n c] 24))) := ⟨Below.refl _ _⟩
  have HTR : Hk (∀ X, Below (w.heap.size + 1) (w.alloc (.cells #[.int .i64 W, .int .i64 H, .slice a n c] 24)) X → Below w.heap.size w X) := ⟨fun X hX => HWB.out.trans (hX.mono (by omega))⟩
  have HBY := Hk.mk (fun (X : World) (hX : Below (w.heap.size + 1) (w.alloc (.cells #[.int .i64 W, .int .i64 H, .slice a n c] 24)) X) => h.below (HTR.out X hX) (Nat.le_refl _))
  have HBQ := Hk.mk (fun (X : World) (hX : Below (w.heap.size + 1) (w.alloc (.cells #[.int .i64 W, .int .i64 H, .slice a n c] 24)) X) => hb0.below (HTR.out X hX) (Nat.le_refl _))
  clear h hb0
  go_enter Tryd.func54, Tryd.ntmps54
  go_wp2_with (go_at_call 78; (with_reducible refine (open_no W H a n c xs la ln lc bs _ ?_ ?_ hn hln x MM).mono ?_); (exact (HBY.out _ HB.out).mono (hsz1 HB.out)); (exact (HBQ.out _ HB.out).mono (hsz1 HB.out)); rintro e z ⟨rfl, hb⟩; replace HB := Hk.mk (kw_step HB.out hNW hb); clear hb)
  go_ret2
  exact ⟨rfl, HTR.out _ HB.out⟩
set_option maxRecDepth 100000 in
set_option maxHeartbeats 1600000 in
theorem grid_yes (W H : Int) (a : Option Addr) (n c : Nat) (xs : List Int) (la : Option Addr) (ln lc : Nat) (bs : List Bd) (w : World) (h : By w w.heap.size a n xs) (hb0 : Bq w w.heap.size la ln bs) (hn : n ≤ 140737488355328) (hln : ln ≤ 1099511627776) (cl : Nat) (hL : LC w) (hc3 : cl < 3) (MM : Hk (MOk W H n xs bs)) :
    Calls Tryd.prog 54 #[.agg #[.int .i64 W, .int .i64 H, .slice a n c], .slice la ln lc, .int .i64 cl] w fun e w' => ∃ g, e = .returned (.tuple #[.slice (some ⟨g, 0, none⟩) n n, .int .i64 0]) ∧ w.heap.size ≤ g ∧ Arr w' g n 3 (fun k => .int .i64 (sC W H (opn W xs bs cl) k)) ∧ Below w.heap.size w w' := by
  have HWB : Hk (Below w.heap.size w (w.alloc (.cells #[.int .i64 W, .int .i64 H, .slice a n c] 24))) := ⟨(Below.refl _ _).alloc (Nat.le_refl _) _⟩
  have hNW : w.heap.size + 1 ≤ (w.alloc (.cells #[.int .i64 W, .int .i64 H, .slice a n c] 24)).heap.size := by simp
  have HB : Hk (Below (w.heap.size + 1) (w.alloc (.cells #[.int .i64 W, .int .i64 H, .slice a n c] 24)) (w.alloc (.cells #[.int .i64 W, .int .i64 H, .slice a n c] 24))) := ⟨Below.refl _ _⟩
  have HTR : Hk (∀ X, Below (w.heap.size + 1) (w.alloc (.cells #[.int .i64 W, .int .i64 H, .slice a n c] 24)) X → Below w.heap.size w X) := ⟨fun X hX => HWB.out.trans (hX.mono (by omega))⟩
  have HBY := Hk.mk (fun (X : World) (hX : Below (w.heap.size + 1) (w.alloc (.cells #[.int .i64 W, .int .i64 H, .slice a n c] 24)) X) => h.below (HTR.out X hX) (Nat.le_refl _))
  have HBQ := Hk.mk (fun (X : World) (hX : Below (w.heap.size + 1) (w.alloc (.cells #[.int .i64 W, .int .i64 H, .slice a n c] 24)) X) => hb0.below (HTR.out X hX) (Nat.le_refl _))
  have HLL := Hk.mk (fun (X : World) (hX : Below (w.heap.size + 1) (w.alloc (.cells #[.int .i64 W, .int .i64 H, .slice a n c] 24)) X) => hL.below (HTR.out X hX) (Nat.le_refl _))
  have info_b : (Tryd.prog.info? 3).map (fun i => (i.zero, i.size, i.bytes)) = some (some (.int .i64 0), 1, 8) := by kernel_rfl
  obtain ⟨i0, hi, hz0, hz1, hz2⟩ := info_parts info_b
  clear info_b h hb0 hL
  have w1 := MM.out.g.w1; have w2 := MM.out.g.w2; have h1 := MM.out.g.h1; have h2 := MM.out.g.h2
  have hnn := MM.out.g.nn
  have hn16 : n ≤ 16384 := by have := mul_bd w1 w2 h1 h2; omega
  have HNN := Hk.mk hnn
  clear hnn
  go_enter Tryd.func54, Tryd.ntmps54
  go_wp2_with (first | (go_at_call 78; (with_reducible refine (open_yes W H a n c xs la ln lc bs _ ?_ ?_ hn hln cl ?_ hc3 MM).mono ?_); (exact (HBY.out _ HB.out).mono (hsz1 HB.out)); (exact (HBQ.out _ HB.out).mono (hsz1 HB.out)); (exact HLL.out _ HB.out); rintro e z1 ⟨g1, rfl, hg1, hA1, hb⟩; have HG1 : Hk (w.heap.size + 1 ≤ g1) := ⟨Nat.le_trans (kw_size HB.out hNW) hg1⟩; have HA1 := Hk.mk hA1; clear hA1 hg1; replace HB := Hk.mk (kw_step HB.out hNW hb); clear hb; obtain ⟨hc, hf, hl, hn', hm⟩ := kw_rules HB.out hNW) | (at_make; go_must (refine wpList_make_full _ rfl _ _ 26 rfl (w.heap.size + 1) 3 i0 (.int .i64 0) 1 Tryd.underlying26 hi hz0 hz1 .i64 .i64 _ _ n rfl rfl rfl rfl (by rw [hz2]; omega) (by unfold maxLen; omega) (kw_size HB.out hNW) ?_); intro z4 hown hgrow; have HG2 : Hk (w.heap.size + 1 ≤ z1.heap.size ∧ g1 < z1.heap.size) := ⟨⟨kw_size HB.out hNW, HA1.out.lt⟩⟩; have hb := below_grown hgrow; replace HA1 := Hk.mk (HA1.out.later hb); replace HB := Hk.mk (kw_step HB.out hNW hb); have HA2 := Hk.mk (Arr.made hown rfl); clear hb hown hgrow))
  clear hc hf hl hn' hm
  generalize z1.heap.size = P at *
  have hwP : ¬ w.heap.size = P := by have := HG2.out; omega
  have hg1P : ¬ g1 = P := by have := HG2.out; omega
  have hg1l := HA1.out.lt
  have hwl : w.heap.size < z4.heap.size := by have := HB.out.size; simp at this; omega
  have D0 : z4.cell? ⟨w.heap.size, 0, none⟩ = some (.int .i64 W) := by rw [HB.out.cell (p := ⟨w.heap.size, 0, none⟩) (by show w.heap.size < _; omega)]; go_simp
  go_loopw [28] (fun i wr => ∃ k : Nat, i = .int .i64 k ∧ k ≤ n ∧ Hk (Fr (fun q => q = P) z4 wr) ∧ Hk (Arr wr P n 3 (fun j => .int .i64 ((if j < k then fC W H (opn W xs bs cl) j else 0 : Nat) : Int)))) (fun i _ => n - (intOf i).toNat)
  case atStart => exact ⟨0, rfl, Nat.zero_le _, ⟨Fr.refl _ _⟩, ⟨HA2.out.congr fun j _ => by rw [if_neg (by omega)]; rfl⟩⟩
  case round =>
    clear HA2
    obtain ⟨k, rfl, hk, HF, HA2⟩ := hrel
    obtain ⟨kc, kf, kl, kn, km⟩ := fr_rules HF.out
    by_cases hlt : k < n
    · have v0 := HA1.out.cell hlt
      have a0 := HA2.out.cell hlt
      have az := HA2.out.frozen k
      rw [if_neg (by omega)] at a0
      have t0 : (0 : Int) ≤ (k : Int) := by omega
      have t1 : (k : Int) < (n : Int) := by omega
      have HAt := Hk.mk (at_of (H := H) (n := n) w1 HNN.out hlt)
      obtain ⟨x, hx⟩ : ∃ x, (k : Int) % W = x := ⟨_, rfl⟩
      obtain ⟨y, hy⟩ : ∃ y, (k : Int) / W = y := ⟨_, rfl⟩
      rw [hx, hy] at HAt
      have HC : Hk (fC W H (opn W xs bs cl) k = fV W H (opn W xs bs cl) x y) := ⟨by unfold fC; rw [hx, hy]⟩
      clear hx hy
      cases hq : opn W xs bs cl k
      case false =>
        rw [hq] at v0
        have HZ : Hk (fC W H (opn W xs bs cl) k = 0) := ⟨by rw [HC.out]; exact fV_no w2 (by rw [op_at HAt.out]; exact hq)⟩
        clear hq
        go_wp2
        exact ⟨⟨k + 1, by go_num, by omega, HF, ⟨HA2.out.congr fun j hj => by
          by_cases e : j = k
          · subst e; rw [if_pos (by omega), if_neg (by omega), HZ.out]
          · by_cases e2 : j < k
            · rw [if_pos (by omega), if_pos e2]
            · rw [if_neg (by omega), if_neg e2]⟩⟩, by simp [intOf] <;> omega⟩
      case true =>
        rw [hq] at v0
        obtain ⟨u, hu⟩ : ∃ u, uL W H (opn W xs bs cl) x y = u := ⟨_, rfl⟩
        have HU := Hk.mk hu
        have hu128 : u ≤ 128 := by rw [← hu]; unfold uL; have := fV_le (W := W) (H := H) (f := (opn W xs bs cl)) (x - 1) y; omega
        have HZ : Hk (fC W H (opn W xs bs cl) k = 1 + u) := ⟨by rw [HC.out, fV_rec w2 (by rw [op_at HAt.out]; exact hq), ← hu]; rfl⟩
        clear hq hu
        go_wp2_with (go_at_call 79; (with_reducible refine (lst_up _ HA2.out (fun j hj => by rw [if_pos hj]) (by omega) w1 w2 HNN.out hlt HAt.out u HU.out).mono ?_); rintro e w' ⟨rfl, mm, rfl⟩)
        exact ⟨⟨k + 1, by go_num, by omega, ⟨(HF.out.drewN _).setCell (p := ⟨P, k, none⟩) (fun _ => rfl) _⟩, ⟨((HA2.out.drewN _).set hlt _).congr fun j hj => by
          by_cases e : j = k
          · subst e; rw [if_pos rfl, if_pos (by omega), HZ.out]; simp
          · rw [if_neg e]
            by_cases e2 : j < k
            · rw [if_pos e2, if_pos (by omega)]
            · rw [if_neg e2, if_neg (by omega)]⟩⟩, by simp [intOf] <;> omega⟩
    · have hkn : k = n := by omega
      subst hkn
      go_wp2
      clear kc kf kl kn km
      go_loopw [12] (fun s wr => ∃ z : Int, ∃ m : Nat, s = .int .i64 z ∧ z = (m : Int) - 1 ∧ m ≤ k ∧ Hk (Fr (fun q => q = P) z4 wr) ∧ Hk (Arr wr P k 3 (fun j => .int .i64 ((if j < m then fC W H (opn W xs bs cl) j else sC W H (opn W xs bs cl) j : Nat) : Int)))) (fun s _ => (intOf s + 1).toNat)
      case atStart => exact ⟨_, k, rfl, rfl, Nat.le_refl _, HF, ⟨HA2.out.congr fun j hj => by rw [if_pos hj, if_pos hj]⟩⟩
      case round =>
        clear HA2 HF
        obtain ⟨z, m, rfl, hz, hmk, HF, HA2⟩ := hrel
        obtain ⟨kc, kf, kl, kn, km⟩ := fr_rules HF.out
        by_cases hm0 : 0 < m
        · obtain ⟨q, rfl⟩ : ∃ q, m = q + 1 := ⟨m - 1, by omega⟩
          obtain rfl : z = (q : Int) := by omega
          clear hz
          have hqk : q < k := by omega
          have v0 := HA1.out.cell hqk
          have a0 := HA2.out.cell hqk
          have az := HA2.out.frozen q
          rw [if_pos (by omega)] at a0
          have t0 : (0 : Int) ≤ (q : Int) := by omega
          have t1 : (q : Int) < (k : Int) := by omega
          have HAt := Hk.mk (at_of (H := H) (n := k) w1 HNN.out hqk)
          obtain ⟨x, hx⟩ : ∃ x, (q : Int) % W = x := ⟨_, rfl⟩
          obtain ⟨y, hy⟩ : ∃ y, (q : Int) / W = y := ⟨_, rfl⟩
          rw [hx, hy] at HAt
          have HC : Hk (fC W H (opn W xs bs cl) q = fV W H (opn W xs bs cl) x y) := ⟨by unfold fC; rw [hx, hy]⟩
          have HS : Hk (sC W H (opn W xs bs cl) q = sV W H (opn W xs bs cl) x y) := ⟨by unfold sC; rw [hx, hy]⟩
          clear hx hy
          have dq : decide ((0 : Int) ≤ (q : Int)) = true := by simp
          cases hq : opn W xs bs cl q
          case false =>
            rw [hq] at v0
            have HZ : Hk (fC W H (opn W xs bs cl) q = sC W H (opn W xs bs cl) q) := ⟨by rw [HC.out, HS.out, fV_no w2 (by rw [op_at HAt.out]; exact hq), sV_no w2 (by rw [op_at HAt.out]; exact hq)]⟩
            clear hq
            go_wp2
            exact ⟨⟨_, q, rfl, rfl, by omega, HF, ⟨HA2.out.congr fun j hj => by
              by_cases e : j = q
              · subst e; rw [if_neg (by omega), if_pos (by omega), HZ.out]
              · by_cases e2 : j < q
                · rw [if_pos e2, if_pos (by omega)]
                · rw [if_neg e2, if_neg (by omega)]⟩⟩, by simp [intOf] <;> omega⟩
          case true =>
            rw [hq] at v0
            obtain ⟨u, hu⟩ : ∃ u, dL W H (opn W xs bs cl) x y = u := ⟨_, rfl⟩
            have HU := Hk.mk hu
            have hu128 : u ≤ 128 := by rw [← hu]; unfold dL; have := sV_le (W := W) (H := H) (f := (opn W xs bs cl)) (x + 1) y; omega
            obtain ⟨v, hv⟩ : ∃ v, fC W H (opn W xs bs cl) q = v := ⟨_, rfl⟩
            have HZ : Hk (sC W H (opn W xs bs cl) q = min v (1 + u)) := ⟨by rw [HS.out, sV_rec w2 (by rw [op_at HAt.out]; exact hq), ← hu, ← hv, HC.out]; rfl⟩
            rw [hv] at a0
            have hv128 : v ≤ 128 := by rw [← hv, HC.out]; exact fV_le x y
            have wq : IntKind.i64.wrap (1 + (u : Int)) = 1 + (u : Int) := by rw [IntKind.wrap_i64]; omega
            have hm2 : ∀ ts t w, (Builtin.min_ ts t #[.int .i64 (v : Int), .int .i64 (1 + (u : Int))]).run Tryd.prog w = .ok (.int .i64 ((min v (1 + u) : Nat) : Int)) w := fun ts t w => by
              rw [run_min2]
              have e9 : (min (v : Int) (1 + (u : Int))) = ((min v (1 + u) : Nat) : Int) := by omega
              rw [e9]
            clear hq hu hv
            go_wp2_with fail
            go_region_with (go_at_call 79; (with_reducible refine (lst_dn _ HA2.out.drew (fun j hj hjn => by rw [if_neg (by omega)]) (by omega) w1 w2 HNN.out hqk HAt.out u HU.out).mono ?_); rintro e w' ⟨rfl, mm, rfl⟩)
            all_goals
              go_wp2_with fail
              exact ⟨⟨_, q, rfl, rfl, by omega, ⟨(HF.out.drewN _).setCell (p := ⟨P, q, none⟩) (fun _ => rfl) _⟩, ⟨((HA2.out.drewN _).set hqk _).congr fun j hj => by
                by_cases e : j = q
                · subst e; rw [if_pos rfl, if_neg (by omega), HZ.out]
                · rw [if_neg e]
                  by_cases e2 : j < q
                  · rw [if_pos e2, if_pos (by omega)]
                  · rw [if_neg e2, if_neg (by omega)]⟩⟩, by simp [intOf] <;> omega⟩
        · have hm' : m = 0 := by omega
          subst hm'
          obtain rfl : z = -1 := by omega
          clear hz
          go_wp2
          go_ret2
          exact ⟨P, rfl, by have := HG2.out; omega, HA2.out.congr fun j hj => by rw [if_neg (by omega)], HTR.out _ (frb HB.out hNW HF.out (by have := HG2.out; omega))⟩
end Go.Proofs.YthabjihpjdlmoaaDoor
/- Layer 9, plain: the reference's way: what stands beside what is away is taken away. -/
namespace Go.Proofs.YthabjihpjdlmoaaDoor
open Go.RowKit
set_option linter.unusedVariables false
/-- Is all within m steps of the tile open? -/
def sqT (W H : Int) (f : Nat → Bool) (m k : Nat) : Bool := sqB (opXY W H f) m ((k : Int) % W) ((k : Int) / W)
theorem sqT_sC {W H : Int} {f : Nat → Bool} (hW : W ≤ 128) (m k : Nat) : sqT W H f m k = true ↔ m ≤ sC W H f k := by
  unfold sqT sC; rw [sV_iff hW]
theorem sqT_one {W H : Int} {f : Nat → Bool} {n k : Nat} (w1 : 1 ≤ W) (hn : (n : Int) = W * H) (hk : k < n) : sqT W H f 1 k = f k := by
  have h := at_of (H := H) w1 hn hk
  unfold sqT
  rw [sqB]
  simp only [sqB, Bool.and_true]
  exact op_at h
theorem sqB_out {W H : Int} {f : Nat → Bool} {x y : Int} (m : Nat) (h : ¬ (0 ≤ x ∧ x < W ∧ 0 ≤ y ∧ y < H)) : sqB (opXY W H f) (m + 1) x y = false := by
  rw [sqB, op_out h]; rfl
/-- Is the i-th neighbour there, and in? -/
def nbO (W H : Int) (f : Nat → Bool) (m t i : Nat) : Bool := decide (0 ≤ nb W H t i) && sqT W H f (m + 1) (nb W H t i).toNat
def alO (W H : Int) (f : Nat → Bool) (m t : Nat) : Nat → Bool
  | 0 => true
  | i + 1 => alO W H f m t i && nbO W H f m t i
theorem nbO_eq {W H : Int} {f : Nat → Bool} {m n t i : Nat} (w1 : 1 ≤ W) (hn : (n : Int) = W * H) (ht : t < n) : nbO W H f m t i = sqB (opXY W H f) (m + 1) ((t : Int) % W + dxL.getD i 0) ((t : Int) / W + dyL.getD i 0) := by
  unfold nbO nb
  generalize dxL.getD i 0 = dx
  generalize dyL.getD i 0 = dy
  by_cases c : 0 ≤ (t : Int) % W + dx ∧ (t : Int) % W + dx < W ∧ 0 ≤ (t : Int) / W + dy ∧ (t : Int) / W + dy < H
  · obtain ⟨c1, c2, c3, c4⟩ := c
    rw [nbS_yes c1 c2 c3 c4]
    have h0 : 0 ≤ (t : Int) % W + dx + W * ((t : Int) / W + dy) := by have := Int.mul_nonneg (show 0 ≤ W by omega) c3; omega
    rw [decide_eq_true h0, Bool.true_and]
    unfold sqT
    have := xy_at' (W := W) (x := (t : Int) % W + dx) (y := (t : Int) / W + dy) (j := ((t : Int) % W + dx + W * ((t : Int) / W + dy)).toNat) (by rw [Int.toNat_of_nonneg h0]) c1 c2
    rw [this.1, this.2]
  · rw [nbS_no c, sqB_out m c]; rfl
theorem sqB_succ (op : Int → Int → Bool) (r : Nat) (x y : Int) : sqB op (r + 1) x y = (op x y && sqB op r (x - 1) (y - 1) && sqB op r x (y - 1) && sqB op r (x + 1) (y - 1) && sqB op r (x - 1) y && sqB op r x y && sqB op r (x + 1) y && sqB op r (x - 1) (y + 1) && sqB op r x (y + 1) && sqB op r (x + 1) (y + 1)) := rfl
theorem alO_full {W H : Int} {f : Nat → Bool} {m n t : Nat} (w1 : 1 ≤ W) (hn : (n : Int) = W * H) (ht : t < n) (hi : sqT W H f (m + 1) t = true) : alO W H f m t 8 = sqT W H f (m + 2) t := by
  have e : ∀ i, nbO W H f m t i = sqB (opXY W H f) (m + 1) ((t : Int) % W + dxL.getD i 0) ((t : Int) / W + dyL.getD i 0) := fun i => nbO_eq w1 hn ht
  have hop : opXY W H f ((t : Int) % W) ((t : Int) / W) = true := by
    unfold sqT at hi
    rw [sqB] at hi
    simp only [Bool.and_eq_true] at hi
    exact hi.1.1.1.1.1.1.1.1.1
  show ((((((((true && nbO W H f m t 0) && nbO W H f m t 1) && nbO W H f m t 2) && nbO W H f m t 3) && nbO W H f m t 4) && nbO W H f m t 5) && nbO W H f m t 6) && nbO W H f m t 7) = _
  rw [e 0, e 1, e 2, e 3, e 4, e 5, e 6, e 7]
  unfold sqT at hi ⊢
  rw [show m + 2 = m + 1 + 1 from rfl, sqB_succ (opXY W H f) (m + 1) ((t : Int) % W) ((t : Int) / W), hop, hi]
  have z : ∀ a : Int, a + 0 = a := fun a => by omega
  have s : ∀ a : Int, a + -1 = a - 1 := fun a => by omega
  show ((((((((true && sqB _ (m + 1) (_ + 0) (_ + -1)) && sqB _ (m + 1) (_ + 1) (_ + 0)) && sqB _ (m + 1) (_ + 0) (_ + 1)) && sqB _ (m + 1) (_ + -1) (_ + 0)) && sqB _ (m + 1) (_ + 1) (_ + -1)) && sqB _ (m + 1) (_ + 1) (_ + 1)) && sqB _ (m + 1) (_ + -1) (_ + 1)) && sqB _ (m + 1) (_ + -1) (_ + -1)) = _
  simp only [z, s]
  rw [Bool.eq_iff_iff]
  simp only [Bool.and_eq_true, Bool.true_and, Bool.and_true]
  constructor
  · rintro ⟨⟨⟨⟨⟨⟨⟨h1, h2⟩, h3⟩, h4⟩, h5⟩, h6⟩, h7⟩, h8⟩
    exact ⟨⟨⟨⟨⟨⟨⟨h8, h1⟩, h5⟩, h4⟩, h2⟩, h7⟩, h3⟩, h6⟩
  · rintro ⟨⟨⟨⟨⟨⟨⟨h8, h1⟩, h5⟩, h4⟩, h2⟩, h7⟩, h3⟩, h6⟩
    exact ⟨⟨⟨⟨⟨⟨⟨h1, h2⟩, h3⟩, h4⟩, h5⟩, h6⟩, h7⟩, h8⟩
theorem sqT_no {W H : Int} {f : Nat → Bool} (hW : W ≤ 128) {m k : Nat} (h : sqT W H f (m + 1) k = false) : sqT W H f (m + 2) k = false := by
  cases q : sqT W H f (m + 2) k
  · rfl
  · have := (sqT_sC (H := H) (f := f) hW (m + 2) k).1 q
    have := (sqT_sC (H := H) (f := f) hW (m + 1) k).2 (by omega)
    rw [h] at this; cases this
theorem sqT_bd {W H : Int} {f : Nat → Bool} (hW : W ≤ 128) {m k : Nat} (h : sqT W H f m k = true) : m ≤ 128 := by
  have := (sqT_sC hW m k).1 h
  have := sV_le (W := W) (H := H) (f := f) ((k : Int) % W) ((k : Int) / W)
  unfold sC at *
  omega
end Go.Proofs.YthabjihpjdlmoaaDoor
/- Layer 9: the reference's Grid. -/
namespace Go.Proofs.YthabjihpjdlmoaaDoor
open Go.RowKit
set_option linter.unusedVariables false
set_option linter.unusedSimpArgs false
theorem fr2_rules {P Q : Nat} {Z X : World} (h : Fr (fun j => j = P ∨ j = Q) Z X) :
    (∀ b o, b < Z.heap.size → ¬ b = P → ¬ b = Q → X.cell? ⟨b, o, none⟩ = Z.cell? ⟨b, o, none⟩) ∧ (∀ b, b < Z.heap.size → b < X.heap.size) ∧ (∀ b, b < Z.heap.size → ¬ b = X.heap.size) ∧ (∀ b, b < Z.heap.size → ¬ X.heap.size = b) := by
  have hs := h.size
  exact ⟨fun b o hb h1 h2 => h.cell hb (fun e => by rcases e with e | e; exact h1 e; exact h2 e), fun b hb => by omega, fun b hb => by omega, fun b hb => by omega⟩
set_option maxRecDepth 100000 in
set_option maxHeartbeats 1600000 in
theorem rgrid_any (W H : Int) (a : Option Addr) (n c : Nat) (xs : List Int) (la : Option Addr) (ln lc : Nat) (bs : List Bd) (w : World) (h : By w w.heap.size a n xs) (hb0 : Bq w w.heap.size la ln bs) (cl : Nat) (hc3 : cl < 3) (MM : Hk (MOk W H n xs bs)) :
    Calls Tryd.prog 53 #[.agg #[.int .i64 W, .int .i64 H, .slice a n c], .slice la ln lc, .int .i64 cl] w fun e w' => ∃ g, e = .returned (.slice (some ⟨g, 0, none⟩) n n) ∧ w.heap.size ≤ g ∧ Arr w' g n 3 (fun k => .int .i64 (sC W H (opn W xs bs cl) k)) ∧ Below w.heap.size w w' := by
  have HWB : Hk (Below w.heap.size w (w.alloc (.cells #[.int .i64 W, .int .i64 H, .slice a n c] 24))) := ⟨(Below.refl _ _).alloc (Nat.le_refl _) _⟩
  have hNW : w.heap.size + 1 ≤ (w.alloc (.cells #[.int .i64 W, .int .i64 H, .slice a n c] 24)).heap.size := by simp
  have HB : Hk (Below (w.heap.size + 1) (w.alloc (.cells #[.int .i64 W, .int .i64 H, .slice a n c] 24)) (w.alloc (.cells #[.int .i64 W, .int .i64 H, .slice a n c] 24))) := ⟨Below.refl _ _⟩
  have HTR : Hk (∀ X, Below (w.heap.size + 1) (w.alloc (.cells #[.int .i64 W, .int .i64 H, .slice a n c] 24)) X → Below w.heap.size w X) := ⟨fun X hX => HWB.out.trans (hX.mono (by omega))⟩
  have HBY := Hk.mk (fun (X : World) (hX : Below (w.heap.size + 1) (w.alloc (.cells #[.int .i64 W, .int .i64 H, .slice a n c] 24)) X) => h.below (HTR.out X hX) (Nat.le_refl _))
  have HBQ := Hk.mk (fun (X : World) (hX : Below (w.heap.size + 1) (w.alloc (.cells #[.int .i64 W, .int .i64 H, .slice a n c] 24)) X) => hb0.below (HTR.out X hX) (Nat.le_refl _))
  have info_b : (Tryd.prog.info? 4).map (fun i => (i.zero, i.size, i.bytes)) = some (some (.bool false), 1, 1) := by kernel_rfl
  obtain ⟨ib, bi, bz0, bz1, bz2⟩ := info_parts info_b
  have info_i : (Tryd.prog.info? 3).map (fun i => (i.zero, i.size, i.bytes)) = some (some (.int .i64 0), 1, 8) := by kernel_rfl
  obtain ⟨i0, hi, hz0, hz1, hz2⟩ := info_parts info_i
  clear info_b info_i h hb0
  have w1 := MM.out.g.w1; have w2 := MM.out.g.w2; have h1 := MM.out.g.h1; have h2 := MM.out.g.h2
  have hn16 : n ≤ 16384 := by have := MM.out.g.nn; have := mul_bd w1 w2 h1 h2; omega
  have HNN := Hk.mk MM.out.g.nn
  go_enter Tryd.func53, Tryd.ntmps53
  go_wp2_with (first | (go_at_call 77; (with_reducible refine (ropen_any W H a n c xs la ln lc bs _ ?_ ?_ cl hc3 MM).mono ?_); (exact (HBY.out _ HB.out).mono (hsz1 HB.out)); (exact (HBQ.out _ HB.out).mono (hsz1 HB.out)); rintro e z1 ⟨I, rfl, hg1, hA1, hb⟩; have HG1 : Hk (w.heap.size + 1 ≤ I) := ⟨Nat.le_trans (kw_size HB.out hNW) hg1⟩; have HA1 := Hk.mk hA1; clear hA1 hg1; replace HB := Hk.mk (kw_step HB.out hNW hb); clear hb; obtain ⟨hc, hf, hl, hn', hm⟩ := kw_rules HB.out hNW) | (at_make; go_must (refine wpList_make_full _ rfl _ _ 26 rfl (w.heap.size + 1) 3 i0 (.int .i64 0) 1 Tryd.underlying26 hi hz0 hz1 .i64 .i64 _ _ n rfl rfl rfl rfl (by rw [hz2]; omega) (by unfold maxLen; omega) (kw_size HB.out hNW) ?_); intro z4 hown hgrow; have HG2 : Hk (w.heap.size + 1 ≤ z1.heap.size ∧ I < z1.heap.size) := ⟨⟨kw_size HB.out hNW, HA1.out.lt⟩⟩; have hb := below_grown hgrow; replace HA1 := Hk.mk (HA1.out.later hb); replace HB := Hk.mk (kw_step HB.out hNW hb); have HA2 := Hk.mk (Arr.made hown rfl); clear hb hown hgrow))
  clear hc hf hl hn' hm
  generalize z1.heap.size = P at *
  have HIP : Hk (I ≠ P ∧ w.heap.size + 1 ≤ P) := ⟨⟨by have := HG2.out; omega, HG2.out.1⟩⟩
  clear HG2
  have hwP : ¬ w.heap.size = P := by have := HIP.out.2; omega
  go_loopg [7, 9] 200 (fun k s l wr => ∃ m I, ∃ lv : Bool, s = .slice (some ⟨I, 0, none⟩) n n ∧ l = .bool lv ∧ k = 200 - m ∧ (lv = true → m ≤ 128) ∧ Hk (lv = false → ∀ t, t < n → sC W H (opn W xs bs cl) t ≤ m) ∧ Hk (I ≠ P ∧ w.heap.size + 1 ≤ I) ∧ Hk (Below (w.heap.size + 1) (w.alloc (.cells #[.int .i64 W, .int .i64 H, .slice a n c] 24)) wr) ∧ Hk (Arr wr I n 4 (fun j => .bool (sqT W H (opn W xs bs cl) (m + 1) j))) ∧ Hk (Arr wr P n 3 (fun j => .int .i64 ((min m (sC W H (opn W xs bs cl) j) : Nat) : Int))))
  case atStart => exact ⟨0, I, true, rfl, rfl, rfl, fun _ => by omega, ⟨fun h => by cases h⟩, ⟨⟨HIP.out.1, HG1.out⟩⟩, HB, ⟨HA1.out.congr fun j hj => by rw [sqT_one w1 HNN.out hj]⟩, ⟨HA2.out.congr fun j hj => by simp⟩⟩
  case round =>
    clear HA1 HA2 HB HG1
    obtain ⟨m, J, lv, rfl, rfl, rfl, hm128, HLV, HJ, HB, HA1, HA2⟩ := hrel
    cases lv
    case false =>
      go_wp2
      go_ret
      exact ⟨P, rfl, by have := HIP.out; omega, HA2.out.congr fun j hj => by rw [Nat.min_eq_right (HLV.out (by simp) j hj)], HTR.out _ HB.out⟩
    case true =>
      have hm := hm128 rfl
      clear hm128 HLV
      obtain ⟨hc, hf, hl, hn', hm⟩ := kw_rules HB.out hNW
      go_wp2_with (at_make; go_must (refine wpList_make_full _ rfl _ _ 31 rfl (w.heap.size + 1) 4 ib (.bool false) 1 Tryd.underlying31 bi bz0 bz1 .i64 .i64 _ _ n rfl rfl rfl rfl (by rw [bz2]; omega) (by unfold maxLen; omega) (kw_size HB.out hNW) ?_); intro z4 hown hgrow)
      have HQ0 : Hk (w.heap.size + 1 ≤ wr.heap.size ∧ J < wr.heap.size ∧ P < wr.heap.size) := ⟨⟨kw_size HB.out hNW, HA1.out.lt, HA2.out.lt⟩⟩
      have hb := below_grown hgrow
      replace HA1 := Hk.mk (HA1.out.later hb)
      replace HA2 := Hk.mk (HA2.out.later hb)
      replace HB := Hk.mk (kw_step HB.out hNW hb)
      have HA3 := Hk.mk (Arr.made hown rfl)
      clear hb hown hgrow
      clear hc hf hl hn' hm
      generalize wr.heap.size = Q at *
      have hwQ : ¬ w.heap.size = Q := by have := HQ0.out.1; omega
      have hJQ : ¬ J = Q := by have := HQ0.out.2.1; omega
      have hPQ : ¬ P = Q := by have := HQ0.out.2.2; omega
      have hQP : ¬ Q = P := by omega
      have hJP : ¬ J = P := HJ.out.1
      have hwl : w.heap.size < z4.heap.size := by have := HB.out.size; simp at this; omega
      have D0 : z4.cell? ⟨w.heap.size, 0, none⟩ = some (.int .i64 W) := by rw [HB.out.cell (p := ⟨w.heap.size, 0, none⟩) (by show w.heap.size < _; omega)]; go_simp
      have D1 : z4.cell? ⟨w.heap.size, 1, none⟩ = some (.int .i64 H) := by rw [HB.out.cell (p := ⟨w.heap.size, 1, none⟩) (by show w.heap.size < _; omega)]; go_simp
      have D2 : z4.cell? ⟨w.heap.size, 2, none⟩ = some (.slice a n c) := by rw [HB.out.cell (p := ⟨w.heap.size, 2, none⟩) (by show w.heap.size < _; omega)]; go_simp
      obtain ⟨wo, rfl⟩ : ∃ wo : World, wo = wr := ⟨wr, rfl⟩
      go_loopw [9, 11] (fun l s wr => ∃ t : Nat, ∃ lv : Bool, l = .bool lv ∧ s = .int .i64 t ∧ t ≤ n ∧ Hk (lv = true → m + 1 ≤ 128) ∧ Hk (lv = false → ∀ j, j < t → sqT W H (opn W xs bs cl) (m + 2) j = false) ∧ Hk (Fr (fun q => q = P ∨ q = Q) z4 wr) ∧ Hk (Arr wr J n 4 (fun j => .bool (sqT W H (opn W xs bs cl) (m + 1) j))) ∧ Hk (Arr wr P n 3 (fun j => .int .i64 ((if j < t then min (m + 1) (sC W H (opn W xs bs cl) j) else min m (sC W H (opn W xs bs cl) j) : Nat) : Int))) ∧ Hk (Arr wr Q n 4 (fun j => .bool (if j < t then sqT W H (opn W xs bs cl) (m + 2) j else false)))) (fun _ s _ => n - (intOf s).toNat)
      case atStart => exact ⟨0, false, rfl, rfl, Nat.zero_le _, ⟨fun h => by cases h⟩, ⟨fun _ j hj => absurd hj (by omega)⟩, ⟨Fr.refl _ _⟩, HA1, ⟨HA2.out.congr fun j _ => by rw [if_neg (by omega)]⟩, ⟨HA3.out.congr fun j _ => by rw [if_neg (by omega)]⟩⟩
      case round =>
        clear HA1 HA2 HA3
        obtain ⟨t, lv, rfl, rfl, ht, HL1, HL0, HF, HA1, HA2, HA3⟩ := hrel
        obtain ⟨kc, kl, kn, km⟩ := fr2_rules HF.out
        by_cases hlt : t < n
        · have v0 := HA1.out.cell hlt
          have t0 : (0 : Int) ≤ (t : Int) := by omega
          have t1 : (t : Int) < (n : Int) := by omega
          cases hq : sqT W H (opn W xs bs cl) (m + 1) t
          case false =>
            rw [hq] at v0
            have HZ : Hk (min (m + 1) (sC W H (opn W xs bs cl) t) = min m (sC W H (opn W xs bs cl) t)) := ⟨by
              have : ¬ (m + 1 ≤ sC W H (opn W xs bs cl) t) := fun h => by rw [(sqT_sC w2 (m + 1) t).2 h] at hq; cases hq
              omega⟩
            have HS : Hk (sqT W H (opn W xs bs cl) (m + 2) t = false) := ⟨sqT_no w2 hq⟩
            clear hq
            go_wp2
            exact ⟨⟨t + 1, lv, rfl, by go_num, by omega, HL1, ⟨fun h j hj => by
              by_cases e : j = t
              · subst e; exact HS.out
              · exact HL0.out h j (by omega)⟩, HF, HA1, ⟨HA2.out.congr fun j _ => by
              by_cases e : j = t
              · subst e; rw [if_pos (by omega), if_neg (by omega), HZ.out]
              · by_cases e2 : j < t
                · rw [if_pos (by omega), if_pos e2]
                · rw [if_neg (by omega), if_neg e2]⟩, ⟨HA3.out.congr fun j _ => by
              by_cases e : j = t
              · subst e; rw [if_pos (by omega), if_neg (by omega), HS.out]
              · by_cases e2 : j < t
                · rw [if_pos (by omega), if_pos e2]
                · rw [if_neg (by omega), if_neg e2]⟩⟩, by simp [intOf]; omega⟩
          case true =>
            rw [hq] at v0
            have hms : m + 1 ≤ sC W H (opn W xs bs cl) t := (sqT_sC w2 (m + 1) t).1 hq
            have a0 := HA2.out.cell hlt
            have az := HA2.out.frozen t
            rw [if_neg (by omega), Nat.min_eq_left (by omega)] at a0
            have b0 := HA3.out.cell hlt
            have bz := HA3.out.frozen t
            rw [if_neg (by omega)] at b0
            have HZ : Hk (min (m + 1) (sC W H (opn W xs bs cl) t) = m + 1) := ⟨Nat.min_eq_left hms⟩
            have HAL : Hk (alO W H (opn W xs bs cl) m t 8 = sqT W H (opn W xs bs cl) (m + 2) t) := ⟨alO_full w1 HNN.out hlt hq⟩
            clear hq hms
            go_wp2_with (go_at_call 34; (with_reducible refine (rnear_q W H t (.slice a n c) _ w1 w2 h1 h2 t0 (by omega)).mono ?_); rintro e z5 ⟨gn, cn, rfl, hnq, hb⟩; have HA1' := Hk.mk (((HA1.out.far ⟨P, t, none⟩ (.int .i64 ((m : Int) + 1)) hJP).far ⟨Q, t, none⟩ (.bool true) hJQ).later hb); have HA2' := Hk.mk (((HA2.out.set hlt (.int .i64 ((m : Int) + 1))).far ⟨Q, t, none⟩ (.bool true) hPQ).later hb); have HA3' := Hk.mk (((HA3.out.far ⟨P, t, none⟩ (.int .i64 ((m : Int) + 1)) hQP).set hlt (.bool true)).later hb); have HF' := Hk.mk (((HF.out.setCell (p := ⟨P, t, none⟩) (fun _ => Or.inl rfl) (.int .i64 ((m : Int) + 1))).setCell (p := ⟨Q, t, none⟩) (fun _ => Or.inr rfl) (.bool true)).trans (Fr.of_all hb)); have HNQ := Hk.mk hnq; have hgq : Hk (Q < z5.heap.size) := ⟨HA3'.out.lt⟩; clear hnq)
            obtain ⟨bb, oo, hbo, hbl, hnear⟩ := HNQ.out.rd (by omega)
            simp only [Option.some.injEq, Addr.mk.injEq] at hbo
            obtain ⟨rfl, rfl, -⟩ := hbo
            have hgQ : ¬ gn = Q := by
              rintro rfl
              have e1 := hnear 0 (by omega)
              have e2 := HA3'.out.cell (k := 0) (by omega)
              rw [Nat.add_zero, e2] at e1
              by_cases e : 0 = t
              · rw [if_pos e] at e1; cases e1
              · rw [if_neg e] at e1; cases e1
            have HNR : Hk (∀ k, k < 8 → z5.cell? ⟨gn, k, none⟩ = some (.int .i64 (nb W H t k))) := ⟨fun k hk => by
              have := hnear k hk
              rw [Nat.zero_add, nb_getD W H t k hk] at this
              exact this⟩
            have hjl : J < z5.heap.size := HA1'.out.lt
            have hpl : P < z5.heap.size := HA2'.out.lt
            clear hnear HNQ HA1 HA2 HA3 HF kc kl kn km a0 az b0 bz v0
            go_loopw [13] (fun s wr => ∃ i : Nat, s = .int .i64 i ∧ i ≤ 8 ∧ Hk (Fr (fun q => q = Q) z5 wr) ∧ Hk (Arr wr Q n 4 (fun j => .bool (if j = t then alO W H (opn W xs bs cl) m t i else if j < t then sqT W H (opn W xs bs cl) (m + 2) j else false)))) (fun s _ => 8 - (intOf s).toNat)
            case atStart => exact ⟨0, rfl, by omega, ⟨Fr.refl _ _⟩, ⟨HA3'.out.congr fun j _ => by
              by_cases e : j = t
              · rw [if_pos e, if_pos e]; rfl
              · rw [if_neg e, if_neg e]⟩⟩
            case round =>
              clear HA3'
              obtain ⟨i, rfl, hi8, HG, HA3⟩ := hrel
              obtain ⟨ic, ifz, il, inn, im⟩ := fr_rules HG.out
              by_cases hlt8 : i < 8
              · have c0 := HNR.out i hlt8
                have b0 := HA3.out.cell hlt
                have bz := HA3.out.frozen t
                rw [if_pos rfl] at b0
                have i0' : (0 : Int) ≤ (i : Int) := by omega
                have i1' : (i : Int) < 8 := by omega
                have HNB : Hk (alO W H (opn W xs bs cl) m t (i + 1) = (alO W H (opn W xs bs cl) m t i && nbO W H (opn W xs bs cl) m t i)) := ⟨rfl⟩
                obtain ⟨u, hu⟩ : ∃ u, nb W H t i = u := ⟨_, rfl⟩
                rw [hu] at c0
                by_cases hu0 : 0 ≤ u
                · have hun : u < (n : Int) := by rw [HNN.out]; exact nb_lt w1 hu hu0
                  obtain ⟨q, rfl⟩ : ∃ q : Nat, u = q := ⟨u.toNat, by omega⟩
                  have hqn : q < n := by omega
                  have q0 := HA1'.out.cell hqn
                  have hdu : decide ((q : Int) < 0) = false := by simp
                  have HNV : Hk (nbO W H (opn W xs bs cl) m t i = sqT W H (opn W xs bs cl) (m + 1) q) := ⟨by unfold nbO; rw [hu, decide_eq_true hu0, Bool.true_and]; simp⟩
                  clear hu
                  cases hq2 : sqT W H (opn W xs bs cl) (m + 1) q
                  case false =>
                    rw [hq2] at q0
                    have HV : Hk (alO W H (opn W xs bs cl) m t (i + 1) = false) := ⟨by rw [HNB.out, HNV.out, hq2, Bool.and_false]⟩
                    clear hq2
                    go_wp2
                    exact ⟨⟨i + 1, by go_num, by omega, ⟨HG.out.setCell (p := ⟨Q, t, none⟩) (fun _ => rfl) _⟩, ⟨(HA3.out.set hlt _).congr fun j hj => by
                      by_cases e : j = t
                      · rw [if_pos e, if_pos e, HV.out]
                      · rw [if_neg e, if_neg e, if_neg e]⟩⟩, by simp [intOf]; omega⟩
                  case true =>
                    rw [hq2] at q0
                    have HV : Hk (alO W H (opn W xs bs cl) m t (i + 1) = alO W H (opn W xs bs cl) m t i) := ⟨by rw [HNB.out, HNV.out, hq2, Bool.and_true]⟩
                    clear hq2
                    go_wp2
                    exact ⟨⟨i + 1, by go_num, by omega, HG, ⟨HA3.out.congr fun j hj => by
                      by_cases e : j = t
                      · rw [if_pos e, if_pos e, HV.out]
                      · rw [if_neg e, if_neg e]⟩⟩, by simp [intOf]; omega⟩
                · have hdu : decide (u < 0) = true := by simp; omega
                  have HV : Hk (alO W H (opn W xs bs cl) m t (i + 1) = false) := ⟨by rw [HNB.out]; unfold nbO; rw [hu, decide_eq_false hu0, Bool.false_and, Bool.and_false]⟩
                  clear hu
                  go_wp2
                  exact ⟨⟨i + 1, by go_num, by omega, ⟨HG.out.setCell (p := ⟨Q, t, none⟩) (fun _ => rfl) _⟩, ⟨(HA3.out.set hlt _).congr fun j hj => by
                      by_cases e : j = t
                      · rw [if_pos e, if_pos e, HV.out]
                      · rw [if_neg e, if_neg e, if_neg e]⟩⟩, by simp [intOf]; omega⟩
              · have hi : i = 8 := by omega
                subst hi
                have b0 := HA3.out.cell hlt
                rw [if_pos rfl, HAL.out] at b0
                have HFF : Hk (Fr (fun q => q = P ∨ q = Q) z4 wr) := ⟨HF'.out.trans (HG.out.mono fun q _ e => Or.inr e)⟩
                have HB1 : Hk (Arr wr J n 4 (fun j => .bool (sqT W H (opn W xs bs cl) (m + 1) j))) := ⟨HA1'.out.fr HG.out hJQ⟩
                have HB2 : Hk (Arr wr P n 3 (fun j => .int .i64 ((if j < t + 1 then min (m + 1) (sC W H (opn W xs bs cl) j) else min m (sC W H (opn W xs bs cl) j) : Nat) : Int))) := ⟨(HA2'.out.fr HG.out hPQ).congr fun j _ => by
                  by_cases e : j = t
                  · subst e; rw [if_pos (by omega), if_pos rfl, HZ.out]; simp
                  · rw [if_neg e]
                    by_cases e2 : j < t
                    · rw [if_pos (by omega), if_pos e2]
                    · rw [if_neg (by omega), if_neg e2]⟩
                have HB3 : Hk (Arr wr Q n 4 (fun j => .bool (if j < t + 1 then sqT W H (opn W xs bs cl) (m + 2) j else false))) := ⟨HA3.out.congr fun j _ => by
                  by_cases e : j = t
                  · subst e; rw [if_pos (by omega), if_pos rfl, HAL.out]
                  · rw [if_neg e]
                    by_cases e2 : j < t
                    · rw [if_pos (by omega), if_pos e2]
                    · rw [if_neg (by omega), if_neg e2]⟩
                obtain ⟨x, hx⟩ : ∃ x, sqT W H (opn W xs bs cl) (m + 2) t = x := ⟨_, rfl⟩
                rw [hx] at b0
                have HX := Hk.mk hx
                clear hx
                cases lv
                case false =>
                  go_wp2
                  exact ⟨⟨t + 1, x, rfl, by go_num, by omega, ⟨fun h => by subst h; have := sqT_bd w2 HX.out; omega⟩, ⟨fun h j hj => by
                    by_cases e : j = t
                    · subst e; rw [HX.out]; exact h
                    · exact HL0.out (by simp) j (by omega)⟩, HFF, HB1, HB2, HB3⟩, by simp [intOf]; omega⟩
                case true =>
                  go_wp2
                  exact ⟨⟨t + 1, true, rfl, by go_num, by omega, HL1, ⟨fun h => by cases h⟩, HFF, HB1, HB2, HB3⟩, by simp [intOf]; omega⟩
        · have htn : t = n := by omega
          subst htn
          go_wp2
          go_roundg (200 - (m + 1))
          case measure => omega
          case rel =>
           exact ⟨m + 1, Q, lv, rfl, rfl, rfl, HL1.out, ⟨fun h j hj => by
            have := HL0.out h j hj
            by_cases c : sC W H (opn W xs bs cl) j ≤ m + 1
            · exact c
            · have := (sqT_sC (H := H) (f := (opn W xs bs cl)) w2 (m + 2) j).2 (by omega)
              rw [HL0.out h j hj] at this; cases this⟩, ⟨⟨by omega, by have := HQ0.out; omega⟩⟩, ⟨HB.out.trans (HF.out.below (B := w.heap.size + 1) (by have := HB.out.size; simp at this; omega) (fun q _ e => by rcases e with rfl | rfl; have := HIP.out; omega; have := HQ0.out; omega))⟩, ⟨HA3.out.congr fun j hj => by rw [if_pos hj]⟩, ⟨HA2.out.congr fun j hj => by rw [if_pos hj]⟩⟩
end Go.Proofs.YthabjihpjdlmoaaDoor
/- Slices of structs that came in: each element opened. -/
namespace Go.Proofs.YthabjihpjdlmoaaDoor
open Go.ChangeShapes Go.WideShapes Go.ChangeAt Go.RowKit Go.Deep
set_option linter.unusedVariables false
theorem rows_of {H : Type} {enc : TypeId × Value → H} {w : World} {base : Nat} {spare : Nat → Bool} {held : Bool} {fuel : Nat} {x : DataW H × List MemPlace} {v : Value} {S E : TypeId} {α : Type} (d : α)
    (hu : Tryd.prog.underlying S = some (.slice E)) (sz : Nat) (hC : Tryd.prog.cellsOf E = sz) (hsz : 0 < sz) (K : List Value → α → Prop)
    (hK : ∀ (fuel : Nat) (x : DataW H × List MemPlace) (cs : List Value), cs.length = sz → DataW.trod enc Tryd.prog w base spare held fuel E cs = some x → ∃ y : α, K cs y)
    (hf : DataW.trod enc Tryd.prog w base spare held fuel S [v] = some x) :
    ∃ a n c, ∃ ys : List α, v = .slice a n c ∧ n ≤ c ∧ c ≤ 9223372036854775807 ∧ ys.length = n ∧ (0 < n → ∃ b off, a = some ⟨b, off, none⟩ ∧ b < w.heap.size ∧ ∀ k, k < n → ∃ cs : List Value, cs.length = sz ∧ K cs (ys.getD k d) ∧ ∀ i, i < sz → w.cell? ⟨b, off + k * sz + i, none⟩ = cs[i]?) := by
  rcases open_slice hu hf with ⟨hcs, _⟩ | ⟨a', l, c, m, n, D, Pl, hcs, _, hl, hm, hmm, _, hi⟩
  · simp at hcs
    exact ⟨none, 0, 0, [], hcs, by omega, by omega, rfl, fun h => absurd h (by omega)⟩
  · simp at hcs
    have hspot : 0 < l → a'.spot = none := fun hl0 => by
      obtain ⟨cs2, hc2, _⟩ := hi 0 (by rw [hmm]; split <;> omega)
      rw [hC] at hc2
      obtain ⟨_, hcl2, hat2⟩ := World.cells?_some hc2
      have h0 := hat2 0 (by omega)
      rw [List.getElem?_eq_getElem (by omega)] at h0
      simpa [Addr.add] using World.cell?_spot h0
    have hall : ∀ k, ∃ p : List Value × α, k < l → p.1.length = sz ∧ K p.1 p.2 ∧ ∃ b off, a' = ⟨b, off, none⟩ ∧ b < w.heap.size ∧ ∀ i, i < sz → w.cell? ⟨b, off + k * sz + i, none⟩ = p.1[i]? := by
      intro k
      by_cases hk : k < l
      · obtain ⟨cs', hc, ht⟩ := hi k (by rw [hmm]; split <;> omega)
        rw [hC] at hc
        obtain ⟨_, hcl, hat⟩ := World.cells?_some hc
        obtain ⟨y, hy⟩ := hK _ _ _ hcl ht
        have hs := hspot (by omega)
        obtain ⟨b, off, spot⟩ := a'
        simp only at hs
        subst hs
        refine ⟨(cs', y), fun _ => ⟨hcl, hy, b, off, rfl, ?_, fun i hi' => ?_⟩⟩
        · have h0 := hat 0 hsz
          rw [List.getElem?_eq_getElem (by omega)] at h0
          simp only [aq_plus] at h0
          exact World.block_lt_of_cell? _ _ h0
        · have h0 := hat i hi'
          simp only [aq_plus] at h0
          exact h0
      · exact ⟨([], d), fun h => absurd h hk⟩
    obtain ⟨p, hp⟩ := Classical.skolem.1 hall
    refine ⟨_, l, c, (List.range l).map fun k => (p k).2, hcs, hl, by unfold maxLen at hm; omega, by simp, fun hn => ?_⟩
    obtain ⟨_, _, b, off, rfl, hb, _⟩ := hp 0 hn
    refine ⟨b, off, rfl, hb, fun k hk => ?_⟩
    obtain ⟨h1, h2, b', off', e, _, h3⟩ := hp k hk
    simp only [Addr.mk.injEq] at e
    obtain ⟨rfl, rfl, _⟩ := e
    exact ⟨(p k).1, h1, by simpa [List.getD, hk] using h2, h3⟩
end Go.Proofs.YthabjihpjdlmoaaDoor
