import Derived.Test.YtjjodfdmbiebnaaDoorKdg
import Derived.ProofKit
import Derived.LaidMore
import Derived.OpenShut
import Derived.Stop.Joined
import Derived.Test.YtjjodfdmbiebnaaDoorRows
import Derived.Test.YtjjodfdmbiebnaaDoorChecked
import Derived.Test.YtjjodfdmbiebnaaDoorKdj
import Derived.Maps.AppendAt
/- Layer 6: centres of tiles. -/
namespace Go.Proofs.YtjjodfdmbiebnaaDoor
open Go.RowKit
set_option linter.unusedVariables false
theorem wr_in {x : Int} (h : -9223372036854775808 ≤ x ∧ x ≤ 9223372036854775807) : IntKind.i64.wrap x = x := IntWalk.i64_in _ ⟨h.1, h.2⟩
set_option maxHeartbeats 800000 in
theorem tcenter_any (W t : Int) (w : World) (w1 : 1 ≤ W) (w2 : W ≤ 128) (t0 : 0 ≤ t) (t1 : t ≤ 16384) :
    Calls Tryd.prog 52 #[.int .i64 W, .int .i64 t] w fun e' w' => e' = .returned (.agg #[.int .i64 (t % W * 65536 + 32768), .int .i64 (t / W * 65536 + 32768)]) ∧ Below w.heap.size w w' := by
  have q1 : 0 ≤ t % W := Int.emod_nonneg _ (by omega)
  have q2 : t % W < W := Int.emod_lt_of_pos _ (by omega)
  have q3 : 0 ≤ t / W := Int.ediv_nonneg t0 (by omega)
  have q4 : t / W ≤ t := Int.ediv_le_self _ t0
  have r1 : t.tmod W = t % W := Int.tmod_eq_emod_of_nonneg t0
  have r2 : t.tdiv W = t / W := Int.tdiv_eq_ediv_of_nonneg t0
  have w0 : ¬ W = 0 := by omega
  have e1 : IntKind.i64.wrap (t % W * 65536) = t % W * 65536 := wr_in (by omega)
  have e2 : IntKind.i64.wrap (t % W * 65536 + 32768) = t % W * 65536 + 32768 := wr_in (by omega)
  have e3 : IntKind.i64.wrap (t / W) = t / W := wr_in (by omega)
  have e4 : IntKind.i64.wrap (t / W * 65536) = t / W * 65536 := wr_in (by omega)
  have e5 : IntKind.i64.wrap (t / W * 65536 + 32768) = t / W * 65536 + 32768 := wr_in (by omega)
  go_enter Tryd.func52, Tryd.ntmps52
  go_wp2
  go_region_held3 (fun w' => True) (trivial) (fail)
  go_wp2
  refine bodyPost_ret (v := .agg #[.int .i64 (t % W * 65536 + 32768), .int .i64 (t / W * 65536 + 32768)]) (by simp [results, Tryd.results52, go_sem]) rfl ⟨rfl, ?_⟩
  exact ((Below.refl _ _).alloc (Nat.le_refl _) _).drew
set_option maxHeartbeats 800000 in
theorem rcenter_any (W H t : Int) (s : Value) (w : World) (w1 : 1 ≤ W) (w2 : W ≤ 128) (t0 : 0 ≤ t) (t1 : t ≤ 16384) :
    Calls Tryd.prog 48 #[.agg #[.int .i64 W, .int .i64 H, s], .int .i64 t] w fun e' w' => e' = .returned (.agg #[.int .i64 (t % W * 65536 + 32768), .int .i64 (t / W * 65536 + 32768)]) ∧ Below w.heap.size w w' := by
  have q1 : 0 ≤ t % W := Int.emod_nonneg _ (by omega)
  have q2 : t % W < W := Int.emod_lt_of_pos _ (by omega)
  have q3 : 0 ≤ t / W := Int.ediv_nonneg t0 (by omega)
  have q4 : t / W ≤ t := Int.ediv_le_self _ t0
  have r1 : t.tmod W = t % W := Int.tmod_eq_emod_of_nonneg t0
  have r2 : t.tdiv W = t / W := Int.tdiv_eq_ediv_of_nonneg t0
  have w0 : ¬ W = 0 := by omega
  have e1 : IntKind.i64.wrap (t % W * 65536) = t % W * 65536 := wr_in (by omega)
  have e2 : IntKind.i64.wrap (t % W * 65536 + 32768) = t % W * 65536 + 32768 := wr_in (by omega)
  have e3 : IntKind.i64.wrap (t / W) = t / W := wr_in (by omega)
  have e4 : IntKind.i64.wrap (t / W * 65536) = t / W * 65536 := wr_in (by omega)
  have e5 : IntKind.i64.wrap (t / W * 65536 + 32768) = t / W * 65536 + 32768 := wr_in (by omega)
  go_enter Tryd.func48, Tryd.ntmps48
  go_wp2
  go_region_held3 (fun w' => w'.cell? ⟨w.heap.size, 0, none⟩ = some (.int .i64 W)) (go_keep) (fail)
  all_goals
    go_wp2
    refine bodyPost_ret (v := .agg #[.int .i64 (t % W * 65536 + 32768), .int .i64 (t / W * 65536 + 32768)]) (by simp [results, Tryd.results48, go_sem]) rfl ⟨rfl, ?_⟩
    exact (((Below.refl _ _).alloc (Nat.le_refl _) _).alloc (by simp <;> omega) _).drew
end Go.Proofs.YtjjodfdmbiebnaaDoor
/- Layer 6: centres, tiles of places. -/
namespace Go.Proofs.YtjjodfdmbiebnaaDoor
open Go.RowKit
set_option linter.unusedVariables false
theorem center_yes (t : Int) (W H : Int) (a : Option Addr) (n c B : Nat) (xs : List Int) (w : World) (h : By w B a n xs) (hB : B ≤ w.heap.size) (hn : n ≤ 140737488355328) (g : GOk W H n xs) (t0 : 0 ≤ t) (t1 : t < W * H) :
    Calls Tryd.prog 18 #[.agg #[.int .i64 W, .int .i64 H, .slice a n c], .int .i64 t] w fun e' w' => e' = .returned (.tuple #[.agg #[.int .i64 (t % W * 65536 + 32768), .int .i64 (t / W * 65536 + 32768)], .int .i64 0]) ∧ Below w.heap.size w w' := by
  obtain ⟨m1, m2⟩ := mul_bd g.w1 g.w2 g.h1 g.h2
  have EQ : Hk (ctE W H n xs t = 0) := ⟨ctE_yes g t0 t1⟩
  have w1' := g.w1
  have w2' := g.w2
  clear g
  have HH := Hk.mk ((h.alloc hB (.cells #[.int .i64 W, .int .i64 H, .slice a n c] 24)).alloc (by simp; omega) (.cells #[.int .i64 0, .int .i64 0] 38))
  have hB' : B ≤ ((w.alloc (.cells #[.int .i64 W, .int .i64 H, .slice a n c] 24)).alloc (.cells #[.int .i64 0, .int .i64 0] 38)).heap.size := by simp; omega
  clear h
  go_enter Tryd.func18, Tryd.ntmps18
  go_wp2_with (first | (go_at_call 51; (with_reducible refine (ct_as 0 t W H a n c B xs _ HH.out hB' hn EQ).mono ?_); rintro e w1 ⟨rfl, hb1⟩; obtain ⟨hc1, hf1⟩ := bcellg hb1; have hz1 := hb1.size; simp at hz1; have q0 : w.heap.size < w1.heap.size := (by omega); have q1 : w.heap.size + 1 < w1.heap.size := (by omega); clear hz1; have HB1 := Hk.mk hb1; clear hb1) | (go_at_call 52; (with_reducible refine (tcenter_any W t _ w1' w2' t0 (by omega)).mono ?_); rintro e w2 ⟨rfl, hb2⟩; obtain ⟨hc2, hf2⟩ := bcellg hb2; have hz2 := hb2.size; have q3 : w.heap.size + 1 < w2.heap.size := (by omega); clear hz2; have HB2 := Hk.mk hb2; clear hb2))
  refine bodyPost_ret (v := .tuple #[.agg #[.int .i64 (t % W * 65536 + 32768), .int .i64 (t / W * 65536 + 32768)], .int .i64 0]) (by simp [results, Tryd.results18, go_sem, hc2, q1, hc1]) rfl ⟨rfl, ?_⟩
  exact ((((((Below.refl _ _).alloc (Nat.le_refl _) _).alloc (by simp) _).trans (HB1.out.mono (by simp <;> omega))).trans (HB2.out.mono (by omega))).setCell (by simp <;> omega) _).setCell (by simp <;> omega) _
theorem center_bad (e t : Int) (W H : Int) (a : Option Addr) (n c B : Nat) (xs : List Int) (w : World) (h : By w B a n xs) (hB : B ≤ w.heap.size) (hn : n ≤ 140737488355328) (E : Hk (ctE W H n xs t = e)) (he : (e != 0) = true) :
    Calls Tryd.prog 18 #[.agg #[.int .i64 W, .int .i64 H, .slice a n c], .int .i64 t] w fun e' w' => e' = .returned (.tuple #[.agg #[.int .i64 0, .int .i64 0], .int .i64 e]) ∧ Below w.heap.size w w' := by
  have HH := Hk.mk ((h.alloc hB (.cells #[.int .i64 W, .int .i64 H, .slice a n c] 24)).alloc (by simp; omega) (.cells #[.int .i64 0, .int .i64 0] 38))
  have hB' : B ≤ ((w.alloc (.cells #[.int .i64 W, .int .i64 H, .slice a n c] 24)).alloc (.cells #[.int .i64 0, .int .i64 0] 38)).heap.size := by simp; omega
  clear h
  go_enter Tryd.func18, Tryd.ntmps18
  go_wp2_with (go_at_call 51; (with_reducible refine (ct_as e t W H a n c B xs _ HH.out hB' hn E).mono ?_); rintro e w1 ⟨rfl, hb1⟩; obtain ⟨hc1, hf1⟩ := bcellg hb1; have hz1 := hb1.size; simp at hz1; have q0 : w.heap.size < w1.heap.size := (by omega); have q1 : w.heap.size + 1 < w1.heap.size := (by omega); clear hz1; have HB1 := Hk.mk hb1; clear hb1)
  refine bodyPost_ret (v := .tuple #[.agg #[.int .i64 0, .int .i64 0], .int .i64 e]) (by simp [results, Tryd.results18, go_sem, hc1]) rfl ⟨rfl, ?_⟩
  exact (((((Below.refl _ _).alloc (Nat.le_refl _) _).alloc (by simp) _).trans (HB1.out.mono (by simp <;> omega))).setCell (by simp <;> omega) _).setCell (by simp <;> omega) _
theorem column_any (x : Int) (w : World) (x0 : 0 ≤ x) (x1 : x ≤ 9223372036854775807) :
    Calls Tryd.prog 72 #[.int .i64 x] w fun e' w' => e' = .returned (.int .i64 (x / 65536)) ∧ w = w' := by
  have u1 : 0 ≤ x / 65536 := by omega
  go_enter Tryd.func72, Tryd.ntmps72
  go_wp2
  go_ret
  exact ⟨rfl, rfl⟩
theorem tof_any (W px py : Int) (w : World) (w1 : 1 ≤ W) (w2 : W ≤ 128) (x0 : 0 ≤ px) (x1 : px ≤ 8388608) (y0 : 0 ≤ py) (y1 : py ≤ 8388608) :
    Calls Tryd.prog 53 #[.int .i64 W, .agg #[.int .i64 px, .int .i64 py]] w fun e' w' => e' = .returned (.int .i64 (px / 65536 + W * (py / 65536))) ∧ Below w.heap.size w w' := by
  have u1 : 0 ≤ px / 65536 := by omega
  have u2 : px / 65536 ≤ 128 := by omega
  have u3 : 0 ≤ py / 65536 := by omega
  have u4 : py / 65536 ≤ 128 := by omega
  have m3 := Int.mul_le_mul w2 u4 (by omega) (by omega)
  have m4 : 0 ≤ W * (py / 65536) := Int.mul_nonneg (by omega) (by omega)
  have e1 : IntKind.i64.wrap (W * (py / 65536)) = W * (py / 65536) := wr_in (by omega)
  have e2 : IntKind.i64.wrap (px / 65536 + W * (py / 65536)) = px / 65536 + W * (py / 65536) := wr_in (by omega)
  go_enter Tryd.func53, Tryd.ntmps53
  go_wp2
  go_region_held3 (fun w' => w'.cell? ⟨w.heap.size, 0, none⟩ = some (.int .i64 px) ∧ w'.cell? ⟨w.heap.size, 1, none⟩ = some (.int .i64 py)) (go_keep) (first | (go_at_call 72; refine (column_any _ _ (by omega) (by omega)).mono ?_; rintro e w' ⟨rfl, rfl⟩))
  go_wp2
  go_ret
  exact ⟨rfl, ((Below.refl _ _).alloc (Nat.le_refl _) _).drew⟩
theorem of_no1 (px py : Int) (W H : Int) (a : Option Addr) (n c B : Nat) (xs : List Int) (w : World) (h : By w B a n xs) (hB : B ≤ w.heap.size) (hn : n ≤ 140737488355328) (g : GOk W H n xs) (q : px < 0) :
    Calls Tryd.prog 19 #[.agg #[.int .i64 W, .int .i64 H, .slice a n c], .agg #[.int .i64 px, .int .i64 py]] w fun e' w' => e' = .returned (.tuple #[.int .i64 0, .int .i64 3]) ∧ Below w.heap.size w w' := by
  have EQ : Hk (gE W H n xs = 0) := ⟨gE_yes g⟩
  obtain ⟨w1', w2', h1, h2, nn, ts⟩ := g
  clear nn ts
  have b0 : decide (px < 0) = true := by simp; omega
  have HH := Hk.mk ((h.alloc hB (.cells #[.int .i64 W, .int .i64 H, .slice a n c] 24)).alloc (by simp; omega) (.cells #[.int .i64 px, .int .i64 py] 38))
  have hB' : B ≤ ((w.alloc (.cells #[.int .i64 W, .int .i64 H, .slice a n c] 24)).alloc (.cells #[.int .i64 px, .int .i64 py] 38)).heap.size := by simp; omega
  clear h
  go_enter Tryd.func19, Tryd.ntmps19
  go_wp2_with (go_at_call 15; (with_reducible refine (check_as 0 W H a n c B xs _ HH.out hB' hn EQ).mono ?_); rintro e w1 ⟨rfl, hb1⟩; obtain ⟨hc1, hf1⟩ := bcellg hb1; have hz1 := hb1.size; simp at hz1; have q0 : w.heap.size < w1.heap.size := (by omega); have q1 : w.heap.size + 1 < w1.heap.size := (by omega); clear hz1; have HB1 := Hk.mk hb1; clear hb1)
  go_ret2
  exact ⟨rfl, (((Below.refl _ _).alloc (Nat.le_refl _) _).alloc (by simp) _).trans (HB1.out.mono (by simp <;> omega))⟩
theorem of_no2 (px py : Int) (W H : Int) (a : Option Addr) (n c B : Nat) (xs : List Int) (w : World) (h : By w B a n xs) (hB : B ≤ w.heap.size) (hn : n ≤ 140737488355328) (g : GOk W H n xs) (x0 : 0 ≤ px) (q : W * 65536 ≤ px) :
    Calls Tryd.prog 19 #[.agg #[.int .i64 W, .int .i64 H, .slice a n c], .agg #[.int .i64 px, .int .i64 py]] w fun e' w' => e' = .returned (.tuple #[.int .i64 0, .int .i64 3]) ∧ Below w.heap.size w w' := by
  have EQ : Hk (gE W H n xs = 0) := ⟨gE_yes g⟩
  obtain ⟨w1', w2', h1, h2, nn, ts⟩ := g
  clear nn ts
  have b0 : decide (px < 0) = false := by simp; omega
  have b1 : decide (W * 65536 ≤ px) = true := by simp; omega
  have HH := Hk.mk ((h.alloc hB (.cells #[.int .i64 W, .int .i64 H, .slice a n c] 24)).alloc (by simp; omega) (.cells #[.int .i64 px, .int .i64 py] 38))
  have hB' : B ≤ ((w.alloc (.cells #[.int .i64 W, .int .i64 H, .slice a n c] 24)).alloc (.cells #[.int .i64 px, .int .i64 py] 38)).heap.size := by simp; omega
  clear h
  go_enter Tryd.func19, Tryd.ntmps19
  go_wp2_with (go_at_call 15; (with_reducible refine (check_as 0 W H a n c B xs _ HH.out hB' hn EQ).mono ?_); rintro e w1 ⟨rfl, hb1⟩; obtain ⟨hc1, hf1⟩ := bcellg hb1; have hz1 := hb1.size; simp at hz1; have q0 : w.heap.size < w1.heap.size := (by omega); have q1 : w.heap.size + 1 < w1.heap.size := (by omega); clear hz1; have HB1 := Hk.mk hb1; clear hb1)
  go_ret2
  exact ⟨rfl, (((Below.refl _ _).alloc (Nat.le_refl _) _).alloc (by simp) _).trans (HB1.out.mono (by simp <;> omega))⟩
theorem of_no3 (px py : Int) (W H : Int) (a : Option Addr) (n c B : Nat) (xs : List Int) (w : World) (h : By w B a n xs) (hB : B ≤ w.heap.size) (hn : n ≤ 140737488355328) (g : GOk W H n xs) (x0 : 0 ≤ px) (x1 : px < W * 65536) (q : py < 0) :
    Calls Tryd.prog 19 #[.agg #[.int .i64 W, .int .i64 H, .slice a n c], .agg #[.int .i64 px, .int .i64 py]] w fun e' w' => e' = .returned (.tuple #[.int .i64 0, .int .i64 3]) ∧ Below w.heap.size w w' := by
  have EQ : Hk (gE W H n xs = 0) := ⟨gE_yes g⟩
  obtain ⟨w1', w2', h1, h2, nn, ts⟩ := g
  clear nn ts
  have b0 : decide (px < 0) = false := by simp; omega
  have b1 : decide (W * 65536 ≤ px) = false := by simp; omega
  have b2 : decide (py < 0) = true := by simp; omega
  have HH := Hk.mk ((h.alloc hB (.cells #[.int .i64 W, .int .i64 H, .slice a n c] 24)).alloc (by simp; omega) (.cells #[.int .i64 px, .int .i64 py] 38))
  have hB' : B ≤ ((w.alloc (.cells #[.int .i64 W, .int .i64 H, .slice a n c] 24)).alloc (.cells #[.int .i64 px, .int .i64 py] 38)).heap.size := by simp; omega
  clear h
  go_enter Tryd.func19, Tryd.ntmps19
  go_wp2_with (go_at_call 15; (with_reducible refine (check_as 0 W H a n c B xs _ HH.out hB' hn EQ).mono ?_); rintro e w1 ⟨rfl, hb1⟩; obtain ⟨hc1, hf1⟩ := bcellg hb1; have hz1 := hb1.size; simp at hz1; have q0 : w.heap.size < w1.heap.size := (by omega); have q1 : w.heap.size + 1 < w1.heap.size := (by omega); clear hz1; have HB1 := Hk.mk hb1; clear hb1)
  go_ret2
  exact ⟨rfl, (((Below.refl _ _).alloc (Nat.le_refl _) _).alloc (by simp) _).trans (HB1.out.mono (by simp <;> omega))⟩
theorem of_no4 (px py : Int) (W H : Int) (a : Option Addr) (n c B : Nat) (xs : List Int) (w : World) (h : By w B a n xs) (hB : B ≤ w.heap.size) (hn : n ≤ 140737488355328) (g : GOk W H n xs) (x0 : 0 ≤ px) (x1 : px < W * 65536) (y0 : 0 ≤ py) (q : H * 65536 ≤ py) :
    Calls Tryd.prog 19 #[.agg #[.int .i64 W, .int .i64 H, .slice a n c], .agg #[.int .i64 px, .int .i64 py]] w fun e' w' => e' = .returned (.tuple #[.int .i64 0, .int .i64 3]) ∧ Below w.heap.size w w' := by
  have EQ : Hk (gE W H n xs = 0) := ⟨gE_yes g⟩
  obtain ⟨w1', w2', h1, h2, nn, ts⟩ := g
  clear nn ts
  have b0 : decide (px < 0) = false := by simp; omega
  have b1 : decide (W * 65536 ≤ px) = false := by simp; omega
  have b2 : decide (py < 0) = false := by simp; omega
  have b3 : decide (H * 65536 ≤ py) = true := by simp; omega
  have HH := Hk.mk ((h.alloc hB (.cells #[.int .i64 W, .int .i64 H, .slice a n c] 24)).alloc (by simp; omega) (.cells #[.int .i64 px, .int .i64 py] 38))
  have hB' : B ≤ ((w.alloc (.cells #[.int .i64 W, .int .i64 H, .slice a n c] 24)).alloc (.cells #[.int .i64 px, .int .i64 py] 38)).heap.size := by simp; omega
  clear h
  go_enter Tryd.func19, Tryd.ntmps19
  go_wp2_with (go_at_call 15; (with_reducible refine (check_as 0 W H a n c B xs _ HH.out hB' hn EQ).mono ?_); rintro e w1 ⟨rfl, hb1⟩; obtain ⟨hc1, hf1⟩ := bcellg hb1; have hz1 := hb1.size; simp at hz1; have q0 : w.heap.size < w1.heap.size := (by omega); have q1 : w.heap.size + 1 < w1.heap.size := (by omega); clear hz1; have HB1 := Hk.mk hb1; clear hb1)
  go_ret2
  exact ⟨rfl, (((Below.refl _ _).alloc (Nat.le_refl _) _).alloc (by simp) _).trans (HB1.out.mono (by simp <;> omega))⟩
theorem of_none (px py : Int) (W H : Int) (a : Option Addr) (n c B : Nat) (xs : List Int) (w : World) (h : By w B a n xs) (hB : B ≤ w.heap.size) (hn : n ≤ 140737488355328) (g : GOk W H n xs) (q : ¬ (0 ≤ px ∧ px < W * 65536 ∧ 0 ≤ py ∧ py < H * 65536)) :
    Calls Tryd.prog 19 #[.agg #[.int .i64 W, .int .i64 H, .slice a n c], .agg #[.int .i64 px, .int .i64 py]] w fun e' w' => e' = .returned (.tuple #[.int .i64 0, .int .i64 3]) ∧ Below w.heap.size w w' := by
  by_cases q1 : px < 0
  · exact of_no1 px py W H a n c B xs w h hB hn g q1
  by_cases q2 : W * 65536 ≤ px
  · exact of_no2 px py W H a n c B xs w h hB hn g (by omega) q2
  by_cases q3 : py < 0
  · exact of_no3 px py W H a n c B xs w h hB hn g (by omega) (by omega) q3
  · exact of_no4 px py W H a n c B xs w h hB hn g (by omega) (by omega) (by omega) (by omega)
theorem of_form (px py : Int) (W H : Int) (a : Option Addr) (n c B : Nat) (xs : List Int) (w : World) (h : By w B a n xs) (hB : B ≤ w.heap.size) (hn : n ≤ 140737488355328) (g : ¬ GOk W H n xs) :
    Calls Tryd.prog 19 #[.agg #[.int .i64 W, .int .i64 H, .slice a n c], .agg #[.int .i64 px, .int .i64 py]] w fun e' w' => e' = .returned (.tuple #[.int .i64 0, .int .i64 1]) ∧ Below w.heap.size w w' := by
  have EQ : Hk (gE W H n xs = 1) := ⟨gE_no g⟩
  clear g
  have HH := Hk.mk ((h.alloc hB (.cells #[.int .i64 W, .int .i64 H, .slice a n c] 24)).alloc (by simp; omega) (.cells #[.int .i64 px, .int .i64 py] 38))
  have hB' : B ≤ ((w.alloc (.cells #[.int .i64 W, .int .i64 H, .slice a n c] 24)).alloc (.cells #[.int .i64 px, .int .i64 py] 38)).heap.size := by simp; omega
  clear h
  go_enter Tryd.func19, Tryd.ntmps19
  go_wp2_with (go_at_call 15; (with_reducible refine (check_as 1 W H a n c B xs _ HH.out hB' hn EQ).mono ?_); rintro e w1 ⟨rfl, hb1⟩; obtain ⟨hc1, hf1⟩ := bcellg hb1; have hz1 := hb1.size; simp at hz1; have q0 : w.heap.size < w1.heap.size := (by omega); have q1 : w.heap.size + 1 < w1.heap.size := (by omega); clear hz1; have HB1 := Hk.mk hb1; clear hb1)
  go_ret2
  exact ⟨rfl, (((Below.refl _ _).alloc (Nat.le_refl _) _).alloc (by simp) _).trans (HB1.out.mono (by simp <;> omega))⟩
theorem of_yes (px py : Int) (W H : Int) (a : Option Addr) (n c B : Nat) (xs : List Int) (w : World) (h : By w B a n xs) (hB : B ≤ w.heap.size) (hn : n ≤ 140737488355328) (g : GOk W H n xs) (x0 : 0 ≤ px) (x1 : px < W * 65536) (y0 : 0 ≤ py) (y1 : py < H * 65536) :
    Calls Tryd.prog 19 #[.agg #[.int .i64 W, .int .i64 H, .slice a n c], .agg #[.int .i64 px, .int .i64 py]] w fun e' w' => e' = .returned (.tuple #[.int .i64 (px / 65536 + W * (py / 65536)), .int .i64 0]) ∧ Below w.heap.size w w' := by
  have EQ : Hk (gE W H n xs = 0) := ⟨gE_yes g⟩
  obtain ⟨w1', w2', h1, h2, nn, ts⟩ := g
  clear nn ts
  have b0 : decide (px < 0) = false := by simp; omega
  have b1 : decide (W * 65536 ≤ px) = false := by simp; omega
  have b2 : decide (py < 0) = false := by simp; omega
  have b3 : decide (H * 65536 ≤ py) = false := by simp; omega
  have HH := Hk.mk ((h.alloc hB (.cells #[.int .i64 W, .int .i64 H, .slice a n c] 24)).alloc (by simp; omega) (.cells #[.int .i64 px, .int .i64 py] 38))
  have hB' : B ≤ ((w.alloc (.cells #[.int .i64 W, .int .i64 H, .slice a n c] 24)).alloc (.cells #[.int .i64 px, .int .i64 py] 38)).heap.size := by simp; omega
  clear h
  go_enter Tryd.func19, Tryd.ntmps19
  go_wp2_with (first | (go_at_call 15; (with_reducible refine (check_as 0 W H a n c B xs _ HH.out hB' hn EQ).mono ?_); rintro e w1 ⟨rfl, hb1⟩; obtain ⟨hc1, hf1⟩ := bcellg hb1; have hz1 := hb1.size; simp at hz1; have q0 : w.heap.size < w1.heap.size := (by omega); have q1 : w.heap.size + 1 < w1.heap.size := (by omega); clear hz1; have HB1 := Hk.mk hb1; clear hb1) | (go_at_call 53; (with_reducible refine (tof_any W px py _ w1' w2' x0 (by omega) y0 (by omega)).mono ?_); rintro e w2 ⟨rfl, hb2⟩; have hz2 : w.heap.size ≤ w1.heap.size := (by omega); have HB2 := Hk.mk hb2; clear hb2))
  go_ret2
  exact ⟨rfl, ((((Below.refl _ _).alloc (Nat.le_refl _) _).alloc (by simp) _).trans (HB1.out.mono (by simp <;> omega))).trans (HB2.out.mono hz2)⟩
end Go.Proofs.YtjjodfdmbiebnaaDoor
/- Layer 6: the ways to the neighbours, as the table has them; what a neighbour is. -/
namespace Go.Proofs.YtjjodfdmbiebnaaDoor
open Go.ChangeShapes Go.WideShapes Go.ChangeAt Go.RowKit
set_option linter.unusedVariables false
def dxL : List Int := [0, 1, 0, -1, 1, 1, -1, -1]
def dyL : List Int := [-1, 0, 1, 0, -1, 1, 1, -1]
def oL : List Int := [0, -1, 1, 0, 0, 1, -1, 0, 1, -1, 1, 1, -1, 1, -1, -1]
theorem one_atn {cs : List Value} {a n j : Nat} {v : Value} (hj : j < n) (h : (((cs.drop a).take n).drop j).take 1 = [v]) : cs[a + j]? = some v := by
  have h1 := congrArg (fun l : List Value => l[0]?) h
  simp only [List.getElem?_take, List.getElem?_drop] at h1
  simpa [hj] using h1
section
variable {H : Type} {enc : TypeId × Value → H} {w : World} {base : Nat} {sp : Nat → Bool} {held : Bool}
theorem int_isn {t : TypeId} {fuel : Nat} {cs : List Value} {x : DataW H × List MemPlace} {z : Int} (ht : Tryd.prog.underlying t = some (.int .i64)) (h : DataW.trod enc Tryd.prog w base sp held fuel t cs = some x) (hx : x.1 = .lit (.int .i64 z)) : cs = [.int .i64 z] := by
  obtain ⟨n, rfl, e, _⟩ := DataW.trod_int ht h
  rw [e] at hx
  simp at hx
  rw [hx]
theorem off_is {fuel : Nat} {cs : List Value} {x : DataW H × List MemPlace} {n0 n1 : Int} (h : DataW.trod enc Tryd.prog w base sp held fuel 105 cs = some x)
    (hx : x.1 = .agg [.lit (.int .i64 n0), .lit (.int .i64 n1)]) :
    ∀ j, j < 2 → (cs.drop j).take 1 = [.int .i64 ([n0, n1].getD j 0)] := by
  have h3 : Tryd.prog.cellsOf 3 = 1 := by kernel_rfl
  obtain ⟨ys, n', _, e, _, hyl, hg⟩ := DataW.trod_struct Tryd.underlying105 h
  match ys, hyl with
  | [y0, y1], _ =>
    rw [e] at hx
    simp at hx
    obtain ⟨e0, e1⟩ := hx
    have g0 : DataW.trod enc Tryd.prog w base sp held n' 3 ((cs.drop 0).take (Tryd.prog.cellsOf 3)) = some y0 := hg 0 _ rfl
    rw [h3] at g0
    have g1 : DataW.trod enc Tryd.prog w base sp held n' 3 ((cs.drop 1).take (Tryd.prog.cellsOf 3)) = some y1 := hg 1 _ rfl
    rw [h3] at g1
    intro j hj
    match j, hj with
    | 0, _ => exact int_isn Tryd.underlying3 g0 e0
    | 1, _ => exact int_isn Tryd.underlying3 g1 e1
end
/-- What the walks lean on: the table's cells. -/
structure LT (w : World) : Prop where
  offs : ∀ i j, i < 8 → j < 2 → w.cell? ⟨0, i * 2 + j, none⟩ = some (.int .i64 (oL.getD (i * 2 + j) 0))
  size : 0 < w.heap.size
theorem LT.below {B : Nat} {w w' : World} (h : LT w) (hb : Below B w w') (hB : w.heap.size ≤ B) : LT w' :=
  ⟨fun i j hi hj => (hb.cell (p := ⟨0, i * 2 + j, none⟩) (by have := h.size; show 0 < B; omega)).trans (h.offs i j hi hj), Nat.lt_of_lt_of_le h.size hb.size⟩
theorem LT.drewN {w : World} (h : LT w) (n : Nat) : LT (w.drewN n) := ⟨h.offs, h.size⟩
theorem gOffs : Tryd.prog.globalNamed "throng/tiles.offsets" = some 0 := by kernel_rfl
theorem tOffs : (Tryd.prog.globals[0]?).map (·.type) = some 106 := by kernel_rfl
theorem of_laidT {W : World} (h : laidMetH Tryd.prog [("throng/tiles.offsets", Rows.laid_throng_tiles_offsets)] W) : LT W := by
  rw [MakeChecks.laidMetH_plain _ _ _ (by kernel_rfl)] at h
  obtain ⟨ps, ⟨g0, t0, cs0, f0, p0, q0, hg0, ht0, hv0, hd0, _, _⟩, _, _⟩ := h
  obtain rfl := Option.some.inj (gOffs.symm.trans hg0)
  obtain rfl := Option.some.inj (tOffs.symm.trans ht0)
  have c2 : Tryd.prog.cellsOf 105 = 2 := by kernel_rfl
  have K : ∀ i j, i < 8 → j < 2 → W.cell? ⟨0, i * 2 + j, none⟩ = some (.int .i64 (oL.getD (i * 2 + j) 0)) := by
    obtain ⟨xs, m, _, e, _, hyl, hg⟩ := DataW.trod_array Tryd.underlying106 hd0
    simp only [Prod.mk.injEq, Rows.laid_throng_tiles_offsets, DataW.agg.injEq] at e
    match xs, hyl with
    | [y0, y1, y2, y3, y4, y5, y6, y7], _ =>
      simp at e
      obtain ⟨⟨e0, e1, e2, e3, e4, e5, e6, e7⟩, _⟩ := e
      simp only [c2] at hg
      intro i j hi hj
      have gi := hg i hi
      rw [World.var?_cell hg0 hv0 (i * 2 + j), ← Array.getElem?_toList]
      match i, hi, gi with
      | 0, _, gi => rw [one_atn hj (off_is gi e0.symm j hj)]; match j, hj with | 0, _ => rfl | 1, _ => rfl
      | 1, _, gi => rw [one_atn hj (off_is gi e1.symm j hj)]; match j, hj with | 0, _ => rfl | 1, _ => rfl
      | 2, _, gi => rw [one_atn hj (off_is gi e2.symm j hj)]; match j, hj with | 0, _ => rfl | 1, _ => rfl
      | 3, _, gi => rw [one_atn hj (off_is gi e3.symm j hj)]; match j, hj with | 0, _ => rfl | 1, _ => rfl
      | 4, _, gi => rw [one_atn hj (off_is gi e4.symm j hj)]; match j, hj with | 0, _ => rfl | 1, _ => rfl
      | 5, _, gi => rw [one_atn hj (off_is gi e5.symm j hj)]; match j, hj with | 0, _ => rfl | 1, _ => rfl
      | 6, _, gi => rw [one_atn hj (off_is gi e6.symm j hj)]; match j, hj with | 0, _ => rfl | 1, _ => rfl
      | 7, _, gi => rw [one_atn hj (off_is gi e7.symm j hj)]; match j, hj with | 0, _ => rfl | 1, _ => rfl
  exact ⟨K, World.block_lt_of_cell? _ _ (K 0 0 (by omega) (by omega))⟩
/-- The neighbour of t in way k, or -1. -/
def nbS (W H t dx dy : Int) : Int := if 0 ≤ t % W + dx ∧ t % W + dx < W ∧ 0 ≤ t / W + dy ∧ t / W + dy < H then t % W + dx + W * (t / W + dy) else -1
def nb (W H t : Int) (k : Nat) : Int := nbS W H t (dxL.getD k 0) (dyL.getD k 0)
def nbL (W H t : Int) : List Int := (List.range 8).map (nb W H t)
end Go.Proofs.YtjjodfdmbiebnaaDoor
/- Layer 6: the neighbours of a tile. -/
namespace Go.Proofs.YtjjodfdmbiebnaaDoor
open Go.RowKit
set_option linter.unusedVariables false
/-- The eight cells of the answer under way, and the result's behind. -/
structure N8 (w0 w : World) (F : Nat → Int) : Prop where
  c : ∀ j, j < 8 → w.cell? ⟨w0.heap.size + 1, j, none⟩ = some (.int .i64 (F j))
  f : ∀ j, w.frozen? ⟨w0.heap.size + 1, j, none⟩ = false
  d : ∀ j, j < 8 → w.cell? ⟨w0.heap.size, j, none⟩ = some (.int .i64 0)
  g : ∀ j, w.frozen? ⟨w0.heap.size, j, none⟩ = false
  hs : w0.heap.size + 1 < w.heap.size
  hB : Below w0.heap.size w0 w
theorem N8.start (w : World) : N8 w ((w.alloc (.cells #[.int .i64 0, .int .i64 0, .int .i64 0, .int .i64 0, .int .i64 0, .int .i64 0, .int .i64 0, .int .i64 0] 84)).alloc (.cells #[.int .i64 0, .int .i64 0, .int .i64 0, .int .i64 0, .int .i64 0, .int .i64 0, .int .i64 0, .int .i64 0] 84)) (fun _ => 0) := by
  refine ⟨fun j hj => ?_, fun j => ?_, fun j hj => ?_, fun j => ?_, by simp, ((Below.refl _ _).alloc (Nat.le_refl _) _).alloc (by simp) _⟩
  · match j, hj with
    | 0, _ | 1, _ | 2, _ | 3, _ | 4, _ | 5, _ | 6, _ | 7, _ => go_simp
  · go_simp
  · match j, hj with
    | 0, _ | 1, _ | 2, _ | 3, _ | 4, _ | 5, _ | 6, _ | 7, _ => go_simp
  · go_simp
theorem N8.next {w0 w w' : World} {F : Nat → Int} (h : N8 w0 w F) (hb : Below w.heap.size w w') : N8 w0 w' F := by
  have hs := h.hs
  have a0 : w0.heap.size < w.heap.size := by omega
  exact ⟨fun j hj => (hb.cell (p := ⟨w0.heap.size + 1, j, none⟩) hs).trans (h.c j hj), fun j => (hb.frozen (p := ⟨w0.heap.size + 1, j, none⟩) hs).trans (h.f j),
    fun j hj => (hb.cell (p := ⟨w0.heap.size, j, none⟩) a0).trans (h.d j hj), fun j => (hb.frozen (p := ⟨w0.heap.size, j, none⟩) a0).trans (h.g j), Nat.lt_of_lt_of_le hs hb.size, h.hB.trans (hb.mono h.hB.size)⟩
theorem N8.alloc {w0 w : World} {F : Nat → Int} (h : N8 w0 w F) (o : Obj) : N8 w0 (w.alloc o) F := h.next ((Below.refl _ _).alloc (Nat.le_refl _) _)
theorem N8.drewN {w0 w : World} {F : Nat → Int} (h : N8 w0 w F) (n : Nat) : N8 w0 (w.drewN n) F := ⟨h.c, h.f, h.d, h.g, h.hs, below_drewN h.hB n⟩
theorem N8.set {w0 w : World} {F G : Nat → Int} (h : N8 w0 w F) (k : Nat) (v : Int) (hk : k < 8) (e : G k = v) (e' : ∀ j, j < 8 → j ≠ k → G j = F j) : N8 w0 (w.setCell ⟨w0.heap.size + 1, k, none⟩ (.int .i64 v)) G := by
  refine ⟨fun j hj => ?_, fun j => ?_, fun j hj => ?_, fun j => ?_, ?_, ?_⟩
  · by_cases ej : j = k
    · subst ej; rw [e]; exact World.cell?_setCell_same _ _ _ (u := .int .i64 (F j)) (h.c j hj)
    · rw [World.cell?_setCell_other _ _ _ _ (by simp <;> omega), e' j hj ej]; exact h.c j hj
  · simpa using h.f j
  · rw [World.cell?_setCell_other _ _ _ _ (by simp)]; exact h.d j hj
  · simpa using h.g j
  · simpa using h.hs
  · exact h.hB.setCell (by simp) _
theorem nbS_yes {W H t dx dy : Int} (a : 0 ≤ t % W + dx) (b : t % W + dx < W) (c : 0 ≤ t / W + dy) (d : t / W + dy < H) : nbS W H t dx dy = t % W + dx + W * (t / W + dy) := by unfold nbS; rw [if_pos ⟨a, b, c, d⟩]
theorem nbS_no {W H t dx dy : Int} (h : ¬ (0 ≤ t % W + dx ∧ t % W + dx < W ∧ 0 ≤ t / W + dy ∧ t / W + dy < H)) : nbS W H t dx dy = -1 := by unfold nbS; rw [if_neg h]
theorem d_bd (k : Nat) : (-1 ≤ dxL.getD k 0 ∧ dxL.getD k 0 ≤ 1) ∧ (-1 ≤ dyL.getD k 0 ∧ dyL.getD k 0 ≤ 1) := by
  by_cases h : k < 8
  · match k, h with
    | 0, _ | 1, _ | 2, _ | 3, _ | 4, _ | 5, _ | 6, _ | 7, _ => decide
  · have e1 : dxL.getD k 0 = 0 := by unfold dxL; simp [List.getD]; rw [List.getElem?_eq_none (by simp; omega)]; rfl
    have e2 : dyL.getD k 0 = 0 := by unfold dyL; simp [List.getD]; rw [List.getElem?_eq_none (by simp; omega)]; rfl
    rw [e1, e2]; omega
set_option maxRecDepth 100000 in
theorem idx_any (k : Nat) (hk : k < 8) : ∀ w, (Instr.index 106 (.agg #[.int .i64 0, .int .i64 (-1), .int .i64 1, .int .i64 0, .int .i64 0, .int .i64 1, .int .i64 (-1), .int .i64 0, .int .i64 1, .int .i64 (-1), .int .i64 1, .int .i64 1, .int .i64 (-1), .int .i64 1, .int .i64 (-1), .int .i64 (-1)]) (.int .i64 k)).run Tryd.prog w = .ok (.agg #[.int .i64 (dxL.getD k 0), .int .i64 (dyL.getD k 0)]) w := by
  match k, hk with
  | 0, _ => exact fun w => by kernel_rfl
  | 1, _ => exact fun w => by kernel_rfl
  | 2, _ => exact fun w => by kernel_rfl
  | 3, _ => exact fun w => by kernel_rfl
  | 4, _ => exact fun w => by kernel_rfl
  | 5, _ => exact fun w => by kernel_rfl
  | 6, _ => exact fun w => by kernel_rfl
  | 7, _ => exact fun w => by kernel_rfl

set_option maxRecDepth 100000 in
set_option maxHeartbeats 1600000 in
theorem tnear_any (W H t : Int) (w : World) (hL : LT w) (w1 : 1 ≤ W) (w2 : W ≤ 128) (h1 : 1 ≤ H) (h2 : H ≤ 128) (t0 : 0 ≤ t) (t1 : t ≤ 16384) :
    Calls Tryd.prog 54 #[.int .i64 W, .int .i64 H, .int .i64 t] w fun e w' => e = .returned (.agg #[.int .i64 (nb W H t 0), .int .i64 (nb W H t 1), .int .i64 (nb W H t 2), .int .i64 (nb W H t 3), .int .i64 (nb W H t 4), .int .i64 (nb W H t 5), .int .i64 (nb W H t 6), .int .i64 (nb W H t 7)]) ∧ Below w.heap.size w w' := by
  have q1 : 0 ≤ t % W := Int.emod_nonneg _ (by omega)
  have q2 : t % W < W := Int.emod_lt_of_pos _ (by omega)
  have q3 : 0 ≤ t / W := Int.ediv_nonneg t0 (by omega)
  have q4 : t / W ≤ t := Int.ediv_le_self _ t0
  have w0 : ¬ W = 0 := by omega
  have hLL : LT ((w.alloc (.cells #[.int .i64 0, .int .i64 0, .int .i64 0, .int .i64 0, .int .i64 0, .int .i64 0, .int .i64 0, .int .i64 0] 84)).alloc (.cells #[.int .i64 0, .int .i64 0, .int .i64 0, .int .i64 0, .int .i64 0, .int .i64 0, .int .i64 0, .int .i64 0] 84)) := hL.below (((Below.refl _ _).alloc (Nat.le_refl _) _).alloc (by simp) _) (Nat.le_refl _)
  have o0 : ((w.alloc (.cells #[.int .i64 0, .int .i64 0, .int .i64 0, .int .i64 0, .int .i64 0, .int .i64 0, .int .i64 0, .int .i64 0] 84)).alloc (.cells #[.int .i64 0, .int .i64 0, .int .i64 0, .int .i64 0, .int .i64 0, .int .i64 0, .int .i64 0, .int .i64 0] 84)).cell? ⟨0, 0, none⟩ = some (.int .i64 0) := hLL.offs 0 0 (by omega) (by omega)
  have o1 : ((w.alloc (.cells #[.int .i64 0, .int .i64 0, .int .i64 0, .int .i64 0, .int .i64 0, .int .i64 0, .int .i64 0, .int .i64 0] 84)).alloc (.cells #[.int .i64 0, .int .i64 0, .int .i64 0, .int .i64 0, .int .i64 0, .int .i64 0, .int .i64 0, .int .i64 0] 84)).cell? ⟨0, 1, none⟩ = some (.int .i64 (-1)) := hLL.offs 0 1 (by omega) (by omega)
  have o2 : ((w.alloc (.cells #[.int .i64 0, .int .i64 0, .int .i64 0, .int .i64 0, .int .i64 0, .int .i64 0, .int .i64 0, .int .i64 0] 84)).alloc (.cells #[.int .i64 0, .int .i64 0, .int .i64 0, .int .i64 0, .int .i64 0, .int .i64 0, .int .i64 0, .int .i64 0] 84)).cell? ⟨0, 2, none⟩ = some (.int .i64 1) := hLL.offs 1 0 (by omega) (by omega)
  have o3 : ((w.alloc (.cells #[.int .i64 0, .int .i64 0, .int .i64 0, .int .i64 0, .int .i64 0, .int .i64 0, .int .i64 0, .int .i64 0] 84)).alloc (.cells #[.int .i64 0, .int .i64 0, .int .i64 0, .int .i64 0, .int .i64 0, .int .i64 0, .int .i64 0, .int .i64 0] 84)).cell? ⟨0, 3, none⟩ = some (.int .i64 0) := hLL.offs 1 1 (by omega) (by omega)
  have o4 : ((w.alloc (.cells #[.int .i64 0, .int .i64 0, .int .i64 0, .int .i64 0, .int .i64 0, .int .i64 0, .int .i64 0, .int .i64 0] 84)).alloc (.cells #[.int .i64 0, .int .i64 0, .int .i64 0, .int .i64 0, .int .i64 0, .int .i64 0, .int .i64 0, .int .i64 0] 84)).cell? ⟨0, 4, none⟩ = some (.int .i64 0) := hLL.offs 2 0 (by omega) (by omega)
  have o5 : ((w.alloc (.cells #[.int .i64 0, .int .i64 0, .int .i64 0, .int .i64 0, .int .i64 0, .int .i64 0, .int .i64 0, .int .i64 0] 84)).alloc (.cells #[.int .i64 0, .int .i64 0, .int .i64 0, .int .i64 0, .int .i64 0, .int .i64 0, .int .i64 0, .int .i64 0] 84)).cell? ⟨0, 5, none⟩ = some (.int .i64 1) := hLL.offs 2 1 (by omega) (by omega)
  have o6 : ((w.alloc (.cells #[.int .i64 0, .int .i64 0, .int .i64 0, .int .i64 0, .int .i64 0, .int .i64 0, .int .i64 0, .int .i64 0] 84)).alloc (.cells #[.int .i64 0, .int .i64 0, .int .i64 0, .int .i64 0, .int .i64 0, .int .i64 0, .int .i64 0, .int .i64 0] 84)).cell? ⟨0, 6, none⟩ = some (.int .i64 (-1)) := hLL.offs 3 0 (by omega) (by omega)
  have o7 : ((w.alloc (.cells #[.int .i64 0, .int .i64 0, .int .i64 0, .int .i64 0, .int .i64 0, .int .i64 0, .int .i64 0, .int .i64 0] 84)).alloc (.cells #[.int .i64 0, .int .i64 0, .int .i64 0, .int .i64 0, .int .i64 0, .int .i64 0, .int .i64 0, .int .i64 0] 84)).cell? ⟨0, 7, none⟩ = some (.int .i64 0) := hLL.offs 3 1 (by omega) (by omega)
  have o8 : ((w.alloc (.cells #[.int .i64 0, .int .i64 0, .int .i64 0, .int .i64 0, .int .i64 0, .int .i64 0, .int .i64 0, .int .i64 0] 84)).alloc (.cells #[.int .i64 0, .int .i64 0, .int .i64 0, .int .i64 0, .int .i64 0, .int .i64 0, .int .i64 0, .int .i64 0] 84)).cell? ⟨0, 8, none⟩ = some (.int .i64 1) := hLL.offs 4 0 (by omega) (by omega)
  have o9 : ((w.alloc (.cells #[.int .i64 0, .int .i64 0, .int .i64 0, .int .i64 0, .int .i64 0, .int .i64 0, .int .i64 0, .int .i64 0] 84)).alloc (.cells #[.int .i64 0, .int .i64 0, .int .i64 0, .int .i64 0, .int .i64 0, .int .i64 0, .int .i64 0, .int .i64 0] 84)).cell? ⟨0, 9, none⟩ = some (.int .i64 (-1)) := hLL.offs 4 1 (by omega) (by omega)
  have o10 : ((w.alloc (.cells #[.int .i64 0, .int .i64 0, .int .i64 0, .int .i64 0, .int .i64 0, .int .i64 0, .int .i64 0, .int .i64 0] 84)).alloc (.cells #[.int .i64 0, .int .i64 0, .int .i64 0, .int .i64 0, .int .i64 0, .int .i64 0, .int .i64 0, .int .i64 0] 84)).cell? ⟨0, 10, none⟩ = some (.int .i64 1) := hLL.offs 5 0 (by omega) (by omega)
  have o11 : ((w.alloc (.cells #[.int .i64 0, .int .i64 0, .int .i64 0, .int .i64 0, .int .i64 0, .int .i64 0, .int .i64 0, .int .i64 0] 84)).alloc (.cells #[.int .i64 0, .int .i64 0, .int .i64 0, .int .i64 0, .int .i64 0, .int .i64 0, .int .i64 0, .int .i64 0] 84)).cell? ⟨0, 11, none⟩ = some (.int .i64 1) := hLL.offs 5 1 (by omega) (by omega)
  have o12 : ((w.alloc (.cells #[.int .i64 0, .int .i64 0, .int .i64 0, .int .i64 0, .int .i64 0, .int .i64 0, .int .i64 0, .int .i64 0] 84)).alloc (.cells #[.int .i64 0, .int .i64 0, .int .i64 0, .int .i64 0, .int .i64 0, .int .i64 0, .int .i64 0, .int .i64 0] 84)).cell? ⟨0, 12, none⟩ = some (.int .i64 (-1)) := hLL.offs 6 0 (by omega) (by omega)
  have o13 : ((w.alloc (.cells #[.int .i64 0, .int .i64 0, .int .i64 0, .int .i64 0, .int .i64 0, .int .i64 0, .int .i64 0, .int .i64 0] 84)).alloc (.cells #[.int .i64 0, .int .i64 0, .int .i64 0, .int .i64 0, .int .i64 0, .int .i64 0, .int .i64 0, .int .i64 0] 84)).cell? ⟨0, 13, none⟩ = some (.int .i64 1) := hLL.offs 6 1 (by omega) (by omega)
  have o14 : ((w.alloc (.cells #[.int .i64 0, .int .i64 0, .int .i64 0, .int .i64 0, .int .i64 0, .int .i64 0, .int .i64 0, .int .i64 0] 84)).alloc (.cells #[.int .i64 0, .int .i64 0, .int .i64 0, .int .i64 0, .int .i64 0, .int .i64 0, .int .i64 0, .int .i64 0] 84)).cell? ⟨0, 14, none⟩ = some (.int .i64 (-1)) := hLL.offs 7 0 (by omega) (by omega)
  have o15 : ((w.alloc (.cells #[.int .i64 0, .int .i64 0, .int .i64 0, .int .i64 0, .int .i64 0, .int .i64 0, .int .i64 0, .int .i64 0] 84)).alloc (.cells #[.int .i64 0, .int .i64 0, .int .i64 0, .int .i64 0, .int .i64 0, .int .i64 0, .int .i64 0, .int .i64 0] 84)).cell? ⟨0, 15, none⟩ = some (.int .i64 (-1)) := hLL.offs 7 1 (by omega) (by omega)
  clear hLL hL
  go_enter Tryd.func54, Tryd.ntmps54
  have K0 := Hk.mk (N8.start w)
  go_wp2
  clear o0 o1 o2 o3 o4 o5 o6 o7 o8 o9 o10 o11 o12 o13 o14 o15
  go_loopw [13] (fun i wr => ∃ k : Nat, k ≤ 8 ∧ i = .int .i64 k ∧ Hk (N8 w wr (fun j => if j < k then nb W H t j else 0))) (fun i _ => 8 - (intOf i).toNat)
  case atStart => exact ⟨0, by omega, rfl, ⟨by simpa using K0.out⟩⟩
  case round =>
    clear K0
    obtain ⟨k, hk, rfl, HN⟩ := hrel
    by_cases hlt : k < 8
    · have hix := idx_any k hlt
      obtain ⟨⟨x1, x2⟩, y1, y2⟩ := d_bd k
      have HNB : Hk (nb W H t k = nbS W H t (dxL.getD k 0) (dyL.getD k 0)) := ⟨rfl⟩
      generalize dxL.getD k 0 = dx at *
      generalize dyL.getD k 0 = dy at *
      have j1 : (0 : Int) ≤ (k : Int) := by omega
      have j2 : (k : Int) < 8 := by omega
      have HA := Hk.mk (HN.out.alloc (.cells #[.int .i64 dx, .int .i64 dy] 105))
      have c0 := HA.out.c k hlt
      have f0 := HA.out.f k
      have r1 : t.tmod W = t % W := Int.tmod_eq_emod_of_nonneg t0
      have r2 : t.tdiv W = t / W := Int.tdiv_eq_ediv_of_nonneg t0
      have e1 : IntKind.i64.wrap (t % W + dx) = t % W + dx := wr_in (by omega)
      have e3 : IntKind.i64.wrap (t / W) = t / W := wr_in (by omega)
      have e2 : IntKind.i64.wrap (t / W + dy) = t / W + dy := wr_in (by omega)
      by_cases z0 : t % W + dx < 0
      · have b0 : decide (t % W + dx < 0) = true := by simp; omega
        have HV : Hk (nb W H t k = -1) := ⟨HNB.out.trans (nbS_no (by omega))⟩
        go_wp2
        go_quiet (fail)
        go_wp2
        go_roundw
        case rel => exact ⟨k + 1, by omega, by go_num, ⟨(HA.out.drewN _).set k _ hlt (by rw [if_pos (by omega)]; exact HV.out) (fun j hj hjk => by by_cases hjj : j < k; rw [if_pos hjj, if_pos (by omega)]; rw [if_neg hjj, if_neg (by omega)])⟩⟩
        case measure => simp [intOf]; omega
      by_cases z1 : W ≤ t % W + dx
      · have b0 : decide (t % W + dx < 0) = false := by simp; omega
        have b1 : decide (W ≤ t % W + dx) = true := by simp; omega
        have HV : Hk (nb W H t k = -1) := ⟨HNB.out.trans (nbS_no (by omega))⟩
        go_wp2
        go_quiet (fail)
        go_wp2
        go_roundw
        case rel => exact ⟨k + 1, by omega, by go_num, ⟨(HA.out.drewN _).set k _ hlt (by rw [if_pos (by omega)]; exact HV.out) (fun j hj hjk => by by_cases hjj : j < k; rw [if_pos hjj, if_pos (by omega)]; rw [if_neg hjj, if_neg (by omega)])⟩⟩
        case measure => simp [intOf]; omega
      by_cases z2 : t / W + dy < 0
      · have b0 : decide (t % W + dx < 0) = false := by simp; omega
        have b1 : decide (W ≤ t % W + dx) = false := by simp; omega
        have b2 : decide (t / W + dy < 0) = true := by simp; omega
        have HV : Hk (nb W H t k = -1) := ⟨HNB.out.trans (nbS_no (by omega))⟩
        go_wp2
        go_quiet (fail)
        go_wp2
        go_roundw
        case rel => exact ⟨k + 1, by omega, by go_num, ⟨(HA.out.drewN _).set k _ hlt (by rw [if_pos (by omega)]; exact HV.out) (fun j hj hjk => by by_cases hjj : j < k; rw [if_pos hjj, if_pos (by omega)]; rw [if_neg hjj, if_neg (by omega)])⟩⟩
        case measure => simp [intOf]; omega
      by_cases z3 : H ≤ t / W + dy
      · have b0 : decide (t % W + dx < 0) = false := by simp; omega
        have b1 : decide (W ≤ t % W + dx) = false := by simp; omega
        have b2 : decide (t / W + dy < 0) = false := by simp; omega
        have b3 : decide (H ≤ t / W + dy) = true := by simp; omega
        have HV : Hk (nb W H t k = -1) := ⟨HNB.out.trans (nbS_no (by omega))⟩
        go_wp2
        go_quiet (fail)
        go_wp2
        go_roundw
        case rel => exact ⟨k + 1, by omega, by go_num, ⟨(HA.out.drewN _).set k _ hlt (by rw [if_pos (by omega)]; exact HV.out) (fun j hj hjk => by by_cases hjj : j < k; rw [if_pos hjj, if_pos (by omega)]; rw [if_neg hjj, if_neg (by omega)])⟩⟩
        case measure => simp [intOf]; omega
      · have b0 : decide (t % W + dx < 0) = false := by simp; omega
        have b1 : decide (W ≤ t % W + dx) = false := by simp; omega
        have b2 : decide (t / W + dy < 0) = false := by simp; omega
        have b3 : decide (H ≤ t / W + dy) = false := by simp; omega
        have m3 := Int.mul_le_mul w2 (show t / W + dy ≤ 128 by omega) (by omega) (by omega)
        have m4 : 0 ≤ W * (t / W + dy) := Int.mul_nonneg (by omega) (by omega)
        have e4 : IntKind.i64.wrap (W * (t / W + dy)) = W * (t / W + dy) := wr_in (by omega)
        have e5 : IntKind.i64.wrap (t % W + dx + W * (t / W + dy)) = t % W + dx + W * (t / W + dy) := wr_in (by omega)
        have HV : Hk (nb W H t k = t % W + dx + W * (t / W + dy)) := ⟨HNB.out.trans (nbS_yes (by omega) (by omega) (by omega) (by omega))⟩
        go_wp2
        go_quiet (fail)
        go_wp2
        go_roundw
        case rel => exact ⟨k + 1, by omega, by go_num, ⟨(HA.out.drewN _).set k _ hlt (by rw [if_pos (by omega)]; exact HV.out) (fun j hj hjk => by by_cases hjj : j < k; rw [if_pos hjj, if_pos (by omega)]; rw [if_neg hjj, if_neg (by omega)])⟩⟩
        case measure => simp [intOf]; omega
    · have hk8 : k = 8 := by omega
      subst hk8
      have c0 : wr.cell? ⟨w.heap.size + 1, 0, none⟩ = some (.int .i64 (nb W H t 0)) := (HN.out.c 0 (by omega)).trans (by rw [if_pos (by omega)])
      have d0 := HN.out.d 0 (by omega)
      have g0 := HN.out.g 0
      have c1 : wr.cell? ⟨w.heap.size + 1, 1, none⟩ = some (.int .i64 (nb W H t 1)) := (HN.out.c 1 (by omega)).trans (by rw [if_pos (by omega)])
      have d1 := HN.out.d 1 (by omega)
      have g1 := HN.out.g 1
      have c2 : wr.cell? ⟨w.heap.size + 1, 2, none⟩ = some (.int .i64 (nb W H t 2)) := (HN.out.c 2 (by omega)).trans (by rw [if_pos (by omega)])
      have d2 := HN.out.d 2 (by omega)
      have g2 := HN.out.g 2
      have c3 : wr.cell? ⟨w.heap.size + 1, 3, none⟩ = some (.int .i64 (nb W H t 3)) := (HN.out.c 3 (by omega)).trans (by rw [if_pos (by omega)])
      have d3 := HN.out.d 3 (by omega)
      have g3 := HN.out.g 3
      have c4 : wr.cell? ⟨w.heap.size + 1, 4, none⟩ = some (.int .i64 (nb W H t 4)) := (HN.out.c 4 (by omega)).trans (by rw [if_pos (by omega)])
      have d4 := HN.out.d 4 (by omega)
      have g4 := HN.out.g 4
      have c5 : wr.cell? ⟨w.heap.size + 1, 5, none⟩ = some (.int .i64 (nb W H t 5)) := (HN.out.c 5 (by omega)).trans (by rw [if_pos (by omega)])
      have d5 := HN.out.d 5 (by omega)
      have g5 := HN.out.g 5
      have c6 : wr.cell? ⟨w.heap.size + 1, 6, none⟩ = some (.int .i64 (nb W H t 6)) := (HN.out.c 6 (by omega)).trans (by rw [if_pos (by omega)])
      have d6 := HN.out.d 6 (by omega)
      have g6 := HN.out.g 6
      have c7 : wr.cell? ⟨w.heap.size + 1, 7, none⟩ = some (.int .i64 (nb W H t 7)) := (HN.out.c 7 (by omega)).trans (by rw [if_pos (by omega)])
      have d7 := HN.out.d 7 (by omega)
      have g7 := HN.out.g 7
      have HBB := Hk.mk HN.out.hB
      clear HN
      go_wp2
      refine bodyPost_ret (v := .agg #[.int .i64 (nb W H t 0), .int .i64 (nb W H t 1), .int .i64 (nb W H t 2), .int .i64 (nb W H t 3), .int .i64 (nb W H t 4), .int .i64 (nb W H t 5), .int .i64 (nb W H t 6), .int .i64 (nb W H t 7)]) (by simp [results, Tryd.results54, go_sem, d0, d1, d2, d3, d4, d5, d6, d7]) rfl ⟨rfl, ?_⟩
      exact ((((((((HBB.out).setCell (by simp) _).setCell (by simp) _).setCell (by simp) _).setCell (by simp) _).setCell (by simp) _).setCell (by simp) _).setCell (by simp) _).setCell (by simp) _
end Go.Proofs.YtjjodfdmbiebnaaDoor
/- Layer 6: the list of neighbours; lists compared. -/
namespace Go.Proofs.YtjjodfdmbiebnaaDoor
open Go.RowKit
set_option linter.unusedVariables false
theorem num6_any (x : Int) (w : World) : Calls Tryd.prog 14 #[.int .i64 x] w fun e w' => e = .returned (.int .i64 x) ∧ w = w' := by
  go_enter Tryd.func14, Tryd.ntmps14
  go_wp2
  go_ret
  exact ⟨rfl, rfl⟩
/-- What the neighbours' list is: new memory. -/
def NearR (w : World) (xs : List Int) (e : Ending) (w' : World) : Prop := ∃ g, e = .returned (.tuple #[.slice (some ⟨g, 0, none⟩) 8 8, .int .i64 0]) ∧ w.heap.size ≤ g ∧ g < w'.heap.size ∧ xs.length = 8 ∧ (∀ j, j < 8 → w'.cell? ⟨g, j, none⟩ = some (.int .i64 (xs.getD j 0))) ∧ (∀ j, w'.frozen? ⟨g, j, none⟩ = false) ∧ Below w.heap.size w w'
theorem nb_lit (w2 : World) (W H t : Int) (T : TypeId) : ∀ j, j < 8 → (w2.alloc (.cells #[.int .i64 (nb W H t 0), .int .i64 (nb W H t 1), .int .i64 (nb W H t 2), .int .i64 (nb W H t 3), .int .i64 (nb W H t 4), .int .i64 (nb W H t 5), .int .i64 (nb W H t 6), .int .i64 (nb W H t 7)] T)).cell? ⟨w2.heap.size, j, none⟩ = some (.int .i64 ((nbL W H t).getD j 0)) := fun j hj => by
  match j, hj with
  | 0, _ | 1, _ | 2, _ | 3, _ | 4, _ | 5, _ | 6, _ | 7, _ => (rw [World.cell?_alloc_mark]; rfl)
theorem near_bad (e t : Int) (W H : Int) (a : Option Addr) (n c B : Nat) (xs : List Int) (w : World) (h : By w B a n xs) (hB : B ≤ w.heap.size) (hn : n ≤ 140737488355328) (E : Hk (ctE W H n xs t = e)) (he : (e != 0) = true) :
    Calls Tryd.prog 20 #[.agg #[.int .i64 W, .int .i64 H, .slice a n c], .int .i64 t] w fun e' w' => e' = .returned (.tuple #[.slice none 0 0, .int .i64 e]) ∧ Below w.heap.size w w' := by
  have HH := Hk.mk (h.alloc hB (.cells #[.int .i64 W, .int .i64 H, .slice a n c] 24))
  have hB' : B ≤ (w.alloc (.cells #[.int .i64 W, .int .i64 H, .slice a n c] 24)).heap.size := by simp; omega
  clear h
  go_enter Tryd.func20, Tryd.ntmps20
  go_wp2_with (go_at_call 51; (with_reducible refine (ct_as e t W H a n c B xs _ HH.out hB' hn E).mono ?_); rintro e w1 ⟨rfl, hb1⟩; obtain ⟨hc1, hf1⟩ := bcellg hb1; have hz1 := hb1.size; simp at hz1; have HB1 := Hk.mk hb1; clear hb1)
  go_ret2
  exact ⟨rfl, ((Below.refl _ _).alloc (Nat.le_refl _) _).trans (HB1.out.mono (by simp))⟩
theorem near_yes (t : Int) (W H : Int) (a : Option Addr) (n c B : Nat) (xs : List Int) (w : World) (h : By w B a n xs) (hB : B ≤ w.heap.size) (hn : n ≤ 140737488355328) (hL : LT w) (g : GOk W H n xs) (t0 : 0 ≤ t) (t1 : t < W * H) :
    Calls Tryd.prog 20 #[.agg #[.int .i64 W, .int .i64 H, .slice a n c], .int .i64 t] w (NearR w (nbL W H t)) := by
  obtain ⟨m1, m2⟩ := mul_bd g.w1 g.w2 g.h1 g.h2
  have EQ : Hk (ctE W H n xs t = 0) := ⟨ctE_yes g t0 t1⟩
  have w1' := g.w1
  have w2' := g.w2
  have h1' := g.h1
  have h2' := g.h2
  have HLT := Hk.mk hL
  clear g hL
  have HH := Hk.mk (h.alloc hB (.cells #[.int .i64 W, .int .i64 H, .slice a n c] 24))
  have hB' : B ≤ (w.alloc (.cells #[.int .i64 W, .int .i64 H, .slice a n c] 24)).heap.size := by simp; omega
  clear h
  go_enter Tryd.func20, Tryd.ntmps20
  go_wp2_with (first | (go_at_call 51; (with_reducible refine (ct_as 0 t W H a n c B xs _ HH.out hB' hn EQ).mono ?_); rintro e w1 ⟨rfl, hb1⟩; obtain ⟨hc1, hf1⟩ := bcellg hb1; have hz1 := hb1.size; simp at hz1; have HB1 := Hk.mk hb1; have HL1 := Hk.mk ((HLT.out.below ((Below.refl _ _).alloc (Nat.le_refl _) (.cells #[.int .i64 W, .int .i64 H, .slice a n c] 24)) (Nat.le_refl _)).below hb1 (Nat.le_refl _)); clear hb1) | (go_at_call 54; (with_reducible refine (tnear_any W H t _ HL1.out w1' w2' h1' h2' t0 (by omega)).mono ?_); rintro e w2 ⟨rfl, hb2⟩; have hz2 : w.heap.size ≤ w2.heap.size := (by have := hb2.size; omega); have HB2 := Hk.mk hb2; have HZ := Hk.mk (nb_lit w2 W H t 84); clear hb2))
  go_ret2
  exact ⟨w2.heap.size, rfl, hz2, by simp, rfl, HZ.out, fun j => by go_simp, (((((Below.refl _ _).alloc (Nat.le_refl _) _).trans (HB1.out.mono (by simp))).trans (HB2.out.mono (by omega))).alloc (by omega) _)⟩
theorem eqn_yes (a a' : Option Addr) (n c c' B B' : Nat) (xs : List Int) (w : World) (h : Nq w B a n xs) (h' : Nq w B' a' n xs) (hn : n ≤ 1099511627776) :
    Calls Tryd.prog 33 #[.slice a n c, .slice a' n c'] w fun e w' => e = .returned (.bool true) ∧ ∃ m, w' = w.drewN m := by
  have H := Hk.mk h
  have H' := Hk.mk h'
  clear h h'
  go_enter Tryd.func33, Tryd.ntmps33
  go_wp2
  go_loopw [5] (fun i wr => ∃ k : Nat, k ≤ n ∧ i = .int .i64 k ∧ Hk (∃ m, wr = w.drewN m)) (fun i _ => n - (intOf i).toNat)
  case atStart => exact ⟨0, Nat.zero_le _, rfl, ⟨0, rfl⟩⟩
  case round =>
    obtain ⟨k, hk, rfl, HB⟩ := hrel
    by_cases hlt : k < n
    · obtain ⟨b, off, rfl, hbl, hc⟩ := H.out.rd (by omega)
      obtain ⟨b', off', rfl, hbl', hc'⟩ := H'.out.rd (by omega)
      have hcx : wr.cell? ⟨b, off + k, none⟩ = some (.int .i64 (xs.getD k 0)) := by obtain ⟨m, rfl⟩ := HB.out; exact hc k hlt
      have hcy : wr.cell? ⟨b', off' + k, none⟩ = some (.int .i64 (xs.getD k 0)) := by obtain ⟨m, rfl⟩ := HB.out; exact hc' k hlt
      clear hc hc'
      generalize xs.getD k 0 = x at *
      have i1 : (0 : Int) ≤ (k : Int) := by omega
      have i2 : (k : Int) < (n : Int) := by omega
      go_wp2
      go_quiet (fail)
      go_wp2
      go_roundw
      case rel => exact ⟨k + 1, by omega, by go_num, ⟨by obtain ⟨m, rfl⟩ := HB.out; exact ⟨_, by rw [World.drewN_drewN]⟩⟩⟩
      case measure => simp [intOf]; omega
    · have hkn : k = n := by omega
      subst hkn
      go_wp2
      go_ret
      exact ⟨rfl, HB.out⟩
end Go.Proofs.YtjjodfdmbiebnaaDoor
/- Layer 6: the list of neighbours, of the reference. -/
namespace Go.Proofs.YtjjodfdmbiebnaaDoor
open Go.RowKit
set_option linter.unusedVariables false
theorem ow_weak {w : World} {base base' n : Nat} {v : Value} {xs : List Value} {E : TypeId} {sz : Nat} (h : w.ownsRow base E sz v n xs) (hb : base' ≤ base) : w.ownsRow base' E sz v n xs := by
  refine ⟨h.1, ?_⟩
  rcases h.2 with e | ⟨g, cap, cur, e1, hg, e2⟩
  · exact .inl e
  · exact .inr ⟨g, cap, cur, e1, by omega, e2⟩
theorem info_int : (Tryd.prog.info? 3).map (fun i => (i.zero, i.size, i.bytes)) = some (some (.int .i64 0), 1, 8) := by kernel_rfl
theorem rn_step {W H t v : Int} {k : Nat} {w1 : World} {B : Nat} {v' : Value} (e : nb W H t k = v) (hk : k < 8) (h : w1.ownsRow B 3 1 v' (k + 1) (((nbL W H t).map (Value.int .i64)).take k ++ [.int .i64 v])) : w1.ownsRow B 3 1 v' (k + 1) (((nbL W H t).take (k + 1)).map (Value.int .i64)) := by
  have e1 : (nbL W H t).take (k + 1) = (nbL W H t).take k ++ [v] := by
    rw [List.take_succ_eq_append_getElem (by unfold nbL; simpa using hk)]
    congr 1
    unfold nbL
    simp [← e]
  rw [e1, List.map_append, List.map_take]
  exact h
theorem rn_lits (w : World) (W H : Int) (s : Value) : (∀ k, k < 8 → ((((w.alloc (.cells #[.int .i64 W, .int .i64 H, s] 24)).alloc (.cells #[.int .i64 0, .int .i64 1, .int .i64 0, .int .i64 (-1), .int .i64 1, .int .i64 1, .int .i64 (-1), .int .i64 (-1)] 84)).alloc (.cells #[.int .i64 (-1), .int .i64 0, .int .i64 1, .int .i64 0, .int .i64 (-1), .int .i64 1, .int .i64 1, .int .i64 (-1)] 84))).cell? ⟨w.heap.size + 1, k, none⟩ = some (.int .i64 (dxL.getD k 0))) ∧ (∀ k, k < 8 → ((((w.alloc (.cells #[.int .i64 W, .int .i64 H, s] 24)).alloc (.cells #[.int .i64 0, .int .i64 1, .int .i64 0, .int .i64 (-1), .int .i64 1, .int .i64 1, .int .i64 (-1), .int .i64 (-1)] 84)).alloc (.cells #[.int .i64 (-1), .int .i64 0, .int .i64 1, .int .i64 0, .int .i64 (-1), .int .i64 1, .int .i64 1, .int .i64 (-1)] 84))).cell? ⟨w.heap.size + 1 + 1, k, none⟩ = some (.int .i64 (dyL.getD k 0))) ∧ ((((w.alloc (.cells #[.int .i64 W, .int .i64 H, s] 24)).alloc (.cells #[.int .i64 0, .int .i64 1, .int .i64 0, .int .i64 (-1), .int .i64 1, .int .i64 1, .int .i64 (-1), .int .i64 (-1)] 84)).alloc (.cells #[.int .i64 (-1), .int .i64 0, .int .i64 1, .int .i64 0, .int .i64 (-1), .int .i64 1, .int .i64 1, .int .i64 (-1)] 84))).cell? ⟨w.heap.size, 0, none⟩ = some (.int .i64 W) ∧ ((((w.alloc (.cells #[.int .i64 W, .int .i64 H, s] 24)).alloc (.cells #[.int .i64 0, .int .i64 1, .int .i64 0, .int .i64 (-1), .int .i64 1, .int .i64 1, .int .i64 (-1), .int .i64 (-1)] 84)).alloc (.cells #[.int .i64 (-1), .int .i64 0, .int .i64 1, .int .i64 0, .int .i64 (-1), .int .i64 1, .int .i64 1, .int .i64 (-1)] 84))).cell? ⟨w.heap.size, 1, none⟩ = some (.int .i64 H) := by
  refine ⟨fun k hk => ?_, fun k hk => ?_, by go_simp, by go_simp⟩
  · match k, hk with
    | 0, _ | 1, _ | 2, _ | 3, _ | 4, _ | 5, _ | 6, _ | 7, _ => go_simp <;> rfl
  · match k, hk with
    | 0, _ | 1, _ | 2, _ | 3, _ | 4, _ | 5, _ | 6, _ | 7, _ => go_simp <;> rfl
set_option maxRecDepth 100000 in
set_option maxHeartbeats 1600000 in
theorem rnear_any (W H t : Int) (s : Value) (w : World) (w1 : 1 ≤ W) (w2 : W ≤ 128) (h1 : 1 ≤ H) (h2 : H ≤ 128) (t0 : 0 ≤ t) (t1 : t ≤ 16384) :
    Calls Tryd.prog 36 #[.agg #[.int .i64 W, .int .i64 H, s], .int .i64 t] w fun e w' => ∃ v, e = .returned v ∧ w'.ownsRow w.heap.size 3 1 v 8 ((nbL W H t).map (Value.int .i64)) ∧ Below w.heap.size w w' := by
  obtain ⟨i0, hi, hz0, hz1, hz2⟩ := info_parts info_int
  have q1 : 0 ≤ t % W := Int.emod_nonneg _ (by omega)
  have q2 : t % W < W := Int.emod_lt_of_pos _ (by omega)
  have q3 : 0 ≤ t / W := Int.ediv_nonneg t0 (by omega)
  have q4 : t / W ≤ t := Int.ediv_le_self _ t0
  have w0 : ¬ W = 0 := by omega
  have HL := Hk.mk (rn_lits w W H s)
  go_enter Tryd.func36, Tryd.ntmps36
  go_wp2
  go_loopw [7, 8] (fun l i wr => ∃ k : Nat, k ≤ 8 ∧ i = .int .i64 k ∧ Hk (wr.ownsRow (w.heap.size + 3) 3 1 l k (((nbL W H t).take k).map (Value.int .i64))) ∧ Hk (Below (w.heap.size + 3) ((((w.alloc (.cells #[.int .i64 W, .int .i64 H, s] 24)).alloc (.cells #[.int .i64 0, .int .i64 1, .int .i64 0, .int .i64 (-1), .int .i64 1, .int .i64 1, .int .i64 (-1), .int .i64 (-1)] 84)).alloc (.cells #[.int .i64 (-1), .int .i64 0, .int .i64 1, .int .i64 0, .int .i64 (-1), .int .i64 1, .int .i64 1, .int .i64 (-1)] 84))) wr)) (fun _ i _ => 8 - (intOf i).toNat)
  case atStart => exact ⟨0, by omega, rfl, ⟨World.ownsRow_nil _ _ _ _⟩, ⟨Below.refl _ _⟩⟩
  case round =>
    obtain ⟨k, hk, rfl, HO, HB⟩ := hrel
    have hsz : w.heap.size + 3 ≤ wr.heap.size := by have := HB.out.size; simp at this; omega
    by_cases hlt : k < 8
    · have HNB : Hk (nb W H t k = nbS W H t (dxL.getD k 0) (dyL.getD k 0)) := ⟨rfl⟩
      obtain ⟨⟨x1, x2⟩, y1, y2⟩ := d_bd k
      have c0 := (HB.out.cell (p := ⟨w.heap.size + 1, k, none⟩) (by show w.heap.size + 1 < w.heap.size + 3; omega)).trans (HL.out.1 k hlt)
      have c1 := (HB.out.cell (p := ⟨w.heap.size + 1 + 1, k, none⟩) (by show w.heap.size + 1 + 1 < w.heap.size + 3; omega)).trans (HL.out.2.1 k hlt)
      have c2 := (HB.out.cell (p := ⟨w.heap.size, 0, none⟩) (by show w.heap.size < w.heap.size + 3; omega)).trans HL.out.2.2.1
      have c3 := (HB.out.cell (p := ⟨w.heap.size, 1, none⟩) (by show w.heap.size < w.heap.size + 3; omega)).trans HL.out.2.2.2
      generalize dxL.getD k 0 = dx at *
      generalize dyL.getD k 0 = dy at *
      have j1 : (0 : Int) ≤ (k : Int) := by omega
      have j2 : (k : Int) < 8 := by omega
      have r1 : t.tmod W = t % W := Int.tmod_eq_emod_of_nonneg t0
      have r2 : t.tdiv W = t / W := Int.tdiv_eq_ediv_of_nonneg t0
      have e1 : IntKind.i64.wrap (t % W + dx) = t % W + dx := wr_in (by omega)
      have e3 : IntKind.i64.wrap (t / W) = t / W := wr_in (by omega)
      have e2 : IntKind.i64.wrap (t / W + dy) = t / W + dy := wr_in (by omega)
      by_cases z0 : t % W + dx < 0
      · have b0 : decide (t % W + dx < 0) = true := by simp; omega
        have HV : Hk (nb W H t k = (-1)) := ⟨HNB.out.trans (nbS_no (by omega))⟩
        go_wp2
        go_quiet (fail)
        go_wp2_with (at_builtin; refine wpList_append_own _ rfl _ _ 25 rfl (w.heap.size + 3) 3 i0 (.int .i64 0) 1 8 Tryd.underlying25 hi hz0 hz1 hz2 rfl (by decide) _ _ _ rfl (HO.out.alloc _) ⟨wr.heap.size, 0, none⟩ 1 1 [.int .i64 (-1)] rfl rfl ?c1 ?c2 ?c3 ?c4 ?c5 ?_)
        case c1 => exact one_new (World.drewN _ _) _ _
        case c2 => intro u hu; simp at hu; subst hu; rfl
        case c3 => unfold maxLen; omega
        case c4 => omega
        case c5 => simp; omega
        · intro v' w1 hown' hgrow _
          have HO2 := Hk.mk (rn_step HV.out hlt hown')
          have HB2 := Hk.mk ((below_drewN (HB.out.alloc hsz (.cells #[.int .i64 (-1)] 3)) _).grown hgrow (by simp; omega) (fun g hg => by have := (HO.out.lt g hg).1; omega))
          clear hown' hgrow HO HB
          go_wp2
          go_roundw
          case rel => exact ⟨k + 1, by omega, by go_num, HO2, HB2⟩
          case measure => simp [intOf]; omega
      by_cases z1 : W ≤ t % W + dx
      · have b0 : decide (t % W + dx < 0) = false := by simp; omega
        have b1 : decide (W ≤ t % W + dx) = true := by simp; omega
        have HV : Hk (nb W H t k = (-1)) := ⟨HNB.out.trans (nbS_no (by omega))⟩
        go_wp2
        go_quiet (fail)
        go_wp2_with (at_builtin; refine wpList_append_own _ rfl _ _ 25 rfl (w.heap.size + 3) 3 i0 (.int .i64 0) 1 8 Tryd.underlying25 hi hz0 hz1 hz2 rfl (by decide) _ _ _ rfl (HO.out.alloc _) ⟨wr.heap.size, 0, none⟩ 1 1 [.int .i64 (-1)] rfl rfl ?c1 ?c2 ?c3 ?c4 ?c5 ?_)
        case c1 => exact one_new (World.drewN _ _) _ _
        case c2 => intro u hu; simp at hu; subst hu; rfl
        case c3 => unfold maxLen; omega
        case c4 => omega
        case c5 => simp; omega
        · intro v' w1 hown' hgrow _
          have HO2 := Hk.mk (rn_step HV.out hlt hown')
          have HB2 := Hk.mk ((below_drewN (HB.out.alloc hsz (.cells #[.int .i64 (-1)] 3)) _).grown hgrow (by simp; omega) (fun g hg => by have := (HO.out.lt g hg).1; omega))
          clear hown' hgrow HO HB
          go_wp2
          go_roundw
          case rel => exact ⟨k + 1, by omega, by go_num, HO2, HB2⟩
          case measure => simp [intOf]; omega
      by_cases z2 : t / W + dy < 0
      · have b0 : decide (t % W + dx < 0) = false := by simp; omega
        have b1 : decide (W ≤ t % W + dx) = false := by simp; omega
        have b2 : decide (t / W + dy < 0) = true := by simp; omega
        have HV : Hk (nb W H t k = (-1)) := ⟨HNB.out.trans (nbS_no (by omega))⟩
        go_wp2
        go_quiet (fail)
        go_wp2_with (at_builtin; refine wpList_append_own _ rfl _ _ 25 rfl (w.heap.size + 3) 3 i0 (.int .i64 0) 1 8 Tryd.underlying25 hi hz0 hz1 hz2 rfl (by decide) _ _ _ rfl (HO.out.alloc _) ⟨wr.heap.size, 0, none⟩ 1 1 [.int .i64 (-1)] rfl rfl ?c1 ?c2 ?c3 ?c4 ?c5 ?_)
        case c1 => exact one_new (World.drewN _ _) _ _
        case c2 => intro u hu; simp at hu; subst hu; rfl
        case c3 => unfold maxLen; omega
        case c4 => omega
        case c5 => simp; omega
        · intro v' w1 hown' hgrow _
          have HO2 := Hk.mk (rn_step HV.out hlt hown')
          have HB2 := Hk.mk ((below_drewN (HB.out.alloc hsz (.cells #[.int .i64 (-1)] 3)) _).grown hgrow (by simp; omega) (fun g hg => by have := (HO.out.lt g hg).1; omega))
          clear hown' hgrow HO HB
          go_wp2
          go_roundw
          case rel => exact ⟨k + 1, by omega, by go_num, HO2, HB2⟩
          case measure => simp [intOf]; omega
      by_cases z3 : H ≤ t / W + dy
      · have b0 : decide (t % W + dx < 0) = false := by simp; omega
        have b1 : decide (W ≤ t % W + dx) = false := by simp; omega
        have b2 : decide (t / W + dy < 0) = false := by simp; omega
        have b3 : decide (H ≤ t / W + dy) = true := by simp; omega
        have HV : Hk (nb W H t k = (-1)) := ⟨HNB.out.trans (nbS_no (by omega))⟩
        go_wp2
        go_quiet (fail)
        go_wp2_with (at_builtin; refine wpList_append_own _ rfl _ _ 25 rfl (w.heap.size + 3) 3 i0 (.int .i64 0) 1 8 Tryd.underlying25 hi hz0 hz1 hz2 rfl (by decide) _ _ _ rfl (HO.out.alloc _) ⟨wr.heap.size, 0, none⟩ 1 1 [.int .i64 (-1)] rfl rfl ?c1 ?c2 ?c3 ?c4 ?c5 ?_)
        case c1 => exact one_new (World.drewN _ _) _ _
        case c2 => intro u hu; simp at hu; subst hu; rfl
        case c3 => unfold maxLen; omega
        case c4 => omega
        case c5 => simp; omega
        · intro v' w1 hown' hgrow _
          have HO2 := Hk.mk (rn_step HV.out hlt hown')
          have HB2 := Hk.mk ((below_drewN (HB.out.alloc hsz (.cells #[.int .i64 (-1)] 3)) _).grown hgrow (by simp; omega) (fun g hg => by have := (HO.out.lt g hg).1; omega))
          clear hown' hgrow HO HB
          go_wp2
          go_roundw
          case rel => exact ⟨k + 1, by omega, by go_num, HO2, HB2⟩
          case measure => simp [intOf]; omega
      · have b0 : decide (t % W + dx < 0) = false := by simp; omega
        have b1 : decide (W ≤ t % W + dx) = false := by simp; omega
        have b2 : decide (t / W + dy < 0) = false := by simp; omega
        have b3 : decide (H ≤ t / W + dy) = false := by simp; omega
        have m3 := Int.mul_le_mul w2 (show t / W + dy ≤ 128 by omega) (by omega) (by omega)
        have m4 : 0 ≤ W * (t / W + dy) := Int.mul_nonneg (by omega) (by omega)
        have e4 : IntKind.i64.wrap (W * (t / W + dy)) = W * (t / W + dy) := wr_in (by omega)
        have e5 : IntKind.i64.wrap (t % W + dx + W * (t / W + dy)) = t % W + dx + W * (t / W + dy) := wr_in (by omega)
        have HV : Hk (nb W H t k = (t % W + dx + W * (t / W + dy))) := ⟨HNB.out.trans (nbS_yes (by omega) (by omega) (by omega) (by omega))⟩
        go_wp2
        go_quiet (fail)
        go_wp2_with (at_builtin; refine wpList_append_own _ rfl _ _ 25 rfl (w.heap.size + 3) 3 i0 (.int .i64 0) 1 8 Tryd.underlying25 hi hz0 hz1 hz2 rfl (by decide) _ _ _ rfl (HO.out.alloc _) ⟨wr.heap.size, 0, none⟩ 1 1 [.int .i64 (t % W + dx + W * (t / W + dy))] rfl rfl ?c1 ?c2 ?c3 ?c4 ?c5 ?_)
        case c1 => exact one_new (World.drewN _ _) _ _
        case c2 => intro u hu; simp at hu; subst hu; rfl
        case c3 => unfold maxLen; omega
        case c4 => omega
        case c5 => simp; omega
        · intro v' w1 hown' hgrow _
          have HO2 := Hk.mk (rn_step HV.out hlt hown')
          have HB2 := Hk.mk ((below_drewN (HB.out.alloc hsz (.cells #[.int .i64 (t % W + dx + W * (t / W + dy))] 3)) _).grown hgrow (by simp; omega) (fun g hg => by have := (HO.out.lt g hg).1; omega))
          clear hown' hgrow HO HB
          go_wp2
          go_roundw
          case rel => exact ⟨k + 1, by omega, by go_num, HO2, HB2⟩
          case measure => simp [intOf]; omega
    · have hk8 : k = 8 := by omega
      subst hk8
      go_wp2
      go_ret
      refine ⟨_, rfl, ?_, (((((Below.refl _ _).alloc (Nat.le_refl _) _).alloc (by simp) _).alloc (by simp <;> omega) _).trans (HB.out.mono (by simp <;> omega)))⟩
      have hn : ((nbL W H t).take 8) = nbL W H t := List.take_of_length_le (by unfold nbL; simp)
      rw [hn] at HO
      exact ow_weak HO.out (by omega)
end Go.Proofs.YtjjodfdmbiebnaaDoor
