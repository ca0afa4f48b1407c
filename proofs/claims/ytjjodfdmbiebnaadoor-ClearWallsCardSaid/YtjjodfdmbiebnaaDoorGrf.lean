/- Layer 6: centres, tiles of places. -/
import Derived.Test.YtjjodfdmbiebnaaDoorGre
namespace Go.Proofs.YtjjodfdmbiebnaaDoor
open Go.RowKit
set_option linter.unusedVariables false
theorem center_yes (t : Int) (W H : Int) (a : Option Addr) (n c B : Nat) (xs : List Int) (w : World) (h : By w B a n xs) (hB : B ≤ w.heap.size) (hn : n ≤ 140737488355328) (g : GOk W H n xs) (t0 : 0 ≤ t) (t1 : t < W * H) :
    Calls Tryd.prog 18 #[.agg #[.int .i64 W, .int .i64 H, .slice a n c], .int .i64 t] w fun e' w' => e' = .returned (.tuple #[.agg #[.int .i64 (t % W * 65536 + 32768), .int .i64 (t / W * 65536 + 32768)], .int .i64 0]) ∧ Below w.heap.size w w' := by
  obtain ⟨m1, m2⟩ := mul_bd g.w1 g.w2 g.h1 g.h2
  have EQ : Hk (ctE W H n xs t = 0) := ⟨ctE_yes g t0 t1⟩
  have w1' := g.w1
  have w2' := g.w2
  clear g
  have HH := Hk.mk ((h.alloc hB (.cells #[.int .i64 W, .int .i64 H, .slice a n c] 24)).alloc (by simp; omega) (.cells #[.int .i64 0, .int .i64 0] 38))
  have hB' : B ≤ ((w.alloc (.cells #[.int .i64 W, .int .i64 H, .slice a n c] 24)).alloc (.cells #[.int .i64 0, .int .i64 0] 38)).heap.size := by simp; omega
  clear h
  go_enter Tryd.func18, Tryd.ntmps18
  go_wp2_with (first | (go_at_call 51; (with_reducible refine (ct_as 0 t W H a n c B xs _ HH.out hB' hn EQ).mono ?_); rintro e w1 ⟨rfl, hb1⟩; obtain ⟨hc1, hf1⟩ := bcellg hb1; have hz1 := hb1.size; simp at hz1; have q0 : w.heap.size < w1.heap.size := (by omega); have q1 : w.heap.size + 1 < w1.heap.size := (by omega); clear hz1; have HB1 := Hk.mk hb1; clear hb1) | (go_at_call 52; (with_reducible refine (tcenter_any W t _ w1' w2' t0 (by omega)).mono ?_); rintro e w2 ⟨rfl, hb2⟩; obtain ⟨hc2, hf2⟩ := bcellg hb2; have hz2 := hb2.size; have q3 : w.heap.size + 1 < w2.heap.size := (by omega); clear hz2; have HB2 := Hk.mk hb2; clear hb2))
  refine bodyPost_ret (v := .tuple #[.agg #[.int .i64 (t % W * 65536 + 32768), .int .i64 (t / W * 65536 + 32768)], .int .i64 0]) (by simp [results, Tryd.results18, go_sem, hc2, q1, hc1]) rfl ⟨rfl, ?_⟩
  exact ((((((Below.refl _ _).alloc (Nat.le_refl _) _).alloc (by simp) _).trans (HB1.out.mono (by simp <;> omega))).trans (HB2.out.mono (by omega))).setCell (by simp <;> omega) _).setCell (by simp <;> omega) _
theorem center_bad (e t : Int) (W H : Int) (a : Option Addr) (n c B : Nat) (xs : List Int) (w : World) (h : By w B a n xs) (hB : B ≤ w.heap.size) (hn : n ≤ 140737488355328) (E : Hk (ctE W H n xs t = e)) (he : (e != 0) = true) :
    Calls Tryd.prog 18 #[.agg #[.int .i64 W, .int .i64 H, .slice a n c], .int .i64 t] w fun e' w' => e' = .returned (.tuple #[.agg #[.int .i64 0, .int .i64 0], .int .i64 e]) ∧ Below w.heap.size w w' := by
  have HH := Hk.mk ((h.alloc hB (.cells #[.int .i64 W, .int .i64 H, .slice a n c] 24)).alloc (by simp; omega) (.cells #[.int .i64 0, .int .i64 0] 38))
  have hB' : B ≤ ((w.alloc (.cells #[.int .i64 W, .int .i64 H, .slice a n c] 24)).alloc (.cells #[.int .i64 0, .int .i64 0] 38)).heap.size := by simp; omega
  clear h
  go_enter Tryd.func18, Tryd.ntmps18
  go_wp2_with (go_at_call 51; (with_reducible refine (ct_as e t W H a n c B xs _ HH.out hB' hn E).mono ?_); rintro e w1 ⟨rfl, hb1⟩; obtain ⟨hc1, hf1⟩ := bcellg hb1; have hz1 := hb1.size; simp at hz1; have q0 : w.heap.size < w1.heap.size := (by omega); have q1 : w.heap.size + 1 < w1.heap.size := (by omega); clear hz1; have HB1 := Hk.mk hb1; clear hb1)
  refine bodyPost_ret (v := .tuple #[.agg #[.int .i64 0, .int .i64 0], .int .i64 e]) (by simp [results, Tryd.results18, go_sem, hc1]) rfl ⟨rfl, ?_⟩
  exact (((((Below.refl _ _).alloc (Nat.le_refl _) _).alloc (by simp) _).trans (HB1.out.mono (by simp <;> omega))).setCell (by simp <;> omega) _).setCell (by simp <;> omega) _
theorem column_any (x : Int) (w : World) (x0 : 0 ≤ x) (x1 : x ≤ 9223372036854775807) :
    Calls Tryd.prog 72 #[.int .i64 x] w fun e' w' => e' = .returned (.int .i64 (x / 65536)) ∧ w = w' := by
  have u1 : 0 ≤ x / 65536 := by omega
  go_enter Tryd.func72, Tryd.ntmps72
  go_wp2
  go_ret
  exact ⟨rfl, rfl⟩
theorem tof_any (W px py : Int) (w : World) (w1 : 1 ≤ W) (w2 : W ≤ 128) (x0 : 0 ≤ px) (x1 : px ≤ 8388608) (y0 : 0 ≤ py) (y1 : py ≤ 8388608) :
    Calls Tryd.prog 53 #[.int .i64 W, .agg #[.int .i64 px, .int .i64 py]] w fun e' w' => e' = .returned (.int .i64 (px / 65536 + W * (py / 65536))) ∧ Below w.heap.size w w' := by
  have u1 : 0 ≤ px / 65536 := by omega
  have u2 : px / 65536 ≤ 128 := by omega
  have u3 : 0 ≤ py / 65536 := by omega
  have u4 : py / 65536 ≤ 128 := by omega
  have m3 := Int.mul_le_mul w2 u4 (by omega) (by omega)
  have m4 : 0 ≤ W * (py / 65536) := Int.mul_nonneg (by omega) (by omega)
  have e1 : IntKind.i64.wrap (W * (py / 65536)) = W * (py / 65536) := wr_in (by omega)
  have e2 : IntKind.i64.wrap (px / 65536 + W * (py / 65536)) = px / 65536 + W * (py / 65536) := wr_in (by omega)
  go_enter Tryd.func53, Tryd.ntmps53
  go_wp2
  go_region_held3 (fun w' => w'.cell? ⟨w.heap.size, 0, none⟩ = some (.int .i64 px) ∧ w'.cell? ⟨w.heap.size, 1, none⟩ = some (.int .i64 py)) (go_keep) (first | (go_at_call 72; refine (column_any _ _ (by omega) (by omega)).mono ?_; rintro e w' ⟨rfl, rfl⟩))
  go_wp2
  go_ret
  exact ⟨rfl, ((Below.refl _ _).alloc (Nat.le_refl _) _).drew⟩
theorem of_no1 (px py : Int) (W H : Int) (a : Option Addr) (n c B : Nat) (xs : List Int) (w : World) (h : By w B a n xs) (hB : B ≤ w.heap.size) (hn : n ≤ 140737488355328) (g : GOk W H n xs) (q : px < 0) :
    Calls Tryd.prog 19 #[.agg #[.int .i64 W, .int .i64 H, .slice a n c], .agg #[.int .i64 px, .int .i64 py]] w fun e' w' => e' = .returned (.tuple #[.int .i64 0, .int .i64 3]) ∧ Below w.heap.size w w' := by
  have EQ : Hk (gE W H n xs = 0) := ⟨gE_yes g⟩
  obtain ⟨w1', w2', h1, h2, nn, ts⟩ := g
  clear nn ts
  have b0 : decide (px < 0) = true := by simp; omega
  have HH := Hk.mk ((h.alloc hB (.cells #[.int .i64 W, .int .i64 H, .slice a n c] 24)).alloc (by simp; omega) (.cells #[.int .i64 px, .int .i64 py] 38))
  have hB' : B ≤ ((w.alloc (.cells #[.int .i64 W, .int .i64 H, .slice a n c] 24)).alloc (.cells #[.int .i64 px, .int .i64 py] 38)).heap.size := by simp; omega
  clear h
  go_enter Tryd.func19, Tryd.ntmps19
  go_wp2_with (go_at_call 15; (with_reducible refine (check_as 0 W H a n c B xs _ HH.out hB' hn EQ).mono ?_); rintro e w1 ⟨rfl, hb1⟩; obtain ⟨hc1, hf1⟩ := bcellg hb1; have hz1 := hb1.size; simp at hz1; have q0 : w.heap.size < w1.heap.size := (by omega); have q1 : w.heap.size + 1 < w1.heap.size := (by omega); clear hz1; have HB1 := Hk.mk hb1; clear hb1)
  go_ret2
  exact ⟨rfl, (((Below.refl _ _).alloc (Nat.le_refl _) _).alloc (by simp) _).trans (HB1.out.mono (by simp <;> omega))⟩
theorem of_no2 (px py : Int) (W H : Int) (a : Option Addr) (n c B : Nat) (xs : List Int) (w : World) (h : By w B a n xs) (hB : B ≤ w.heap.size) (hn : n ≤ 140737488355328) (g : GOk W H n xs) (x0 : 0 ≤ px) (q : W * 65536 ≤ px) :
    Calls Tryd.prog 19 #[.agg #[.int .i64 W, .int .i64 H, .slice a n c], .agg #[.int .i64 px, .int .i64 py]] w fun e' w' => e' = .returned (.tuple #[.int .i64 0, .int .i64 3]) ∧ Below w.heap.size w w' := by
  have EQ : Hk (gE W H n xs = 0) := ⟨gE_yes g⟩
  obtain ⟨w1', w2', h1, h2, nn, ts⟩ := g
  clear nn ts
  have b0 : decide (px < 0) = false := by simp; omega
  have b1 : decide (W * 65536 ≤ px) = true := by simp; omega
  have HH := Hk.mk ((h.alloc hB (.cells #[.int .i64 W, .int .i64 H, .slice a n c] 24)).alloc (by simp; omega) (.cells #[.int .i64 px, .int .i64 py] 38))
  have hB' : B ≤ ((w.alloc (.cells #[.int .i64 W, .int .i64 H, .slice a n c] 24)).alloc (.cells #[.int .i64 px, .int .i64 py] 38)).heap.size := by simp; omega
  clear h
  go_enter Tryd.func19, Tryd.ntmps19
  go_wp2_with (go_at_call 15; (with_reducible refine (check_as 0 W H a n c B xs _ HH.out hB' hn EQ).mono ?_); rintro e w1 ⟨rfl, hb1⟩; obtain ⟨hc1, hf1⟩ := bcellg hb1; have hz1 := hb1.size; simp at hz1; have q0 : w.heap.size < w1.heap.size := (by omega); have q1 : w.heap.size + 1 < w1.heap.size := (by omega); clear hz1; have HB1 := Hk.mk hb1; clear hb1)
  go_ret2
  exact ⟨rfl, (((Below.refl _ _).alloc (Nat.le_refl _) _).alloc (by simp) _).trans (HB1.out.mono (by simp <;> omega))⟩
theorem of_no3 (px py : Int) (W H : Int) (a : Option Addr) (n c B : Nat) (xs : List Int) (w : World) (h : By w B a n xs) (hB : B ≤ w.heap.size) (hn : n ≤ 140737488355328) (g : GOk W H n xs) (x0 : 0 ≤ px) (x1 : px < W * 65536) (q : py < 0) :
    Calls Tryd.prog 19 #[.agg #[.int .i64 W, .int .i64 H, .slice a n c], .agg #[.int .i64 px, .int .i64 py]] w fun e' w' => e' = .returned (.tuple #[.int .i64 0, .int .i64 3]) ∧ Below w.heap.size w w' := by
  have EQ : Hk (gE W H n xs = 0) := ⟨gE_yes g⟩
  obtain ⟨w1', w2', h1, h2, nn, ts⟩ := g
  clear nn ts
  have b0 : decide (px < 0) = false := by simp; omega
  have b1 : decide (W * 65536 ≤ px) = false := by simp; omega
  have b2 : decide (py < 0) = true := by simp; omega
  have HH := Hk.mk ((h.alloc hB (.cells #[.int .i64 W, .int .i64 H, .slice a n c] 24)).alloc (by simp; omega) (.cells #[.int .i64 px, .int .i64 py] 38))
  have hB' : B ≤ ((w.alloc (.cells #[.int .i64 W, .int .i64 H, .slice a n c] 24)).alloc (.cells #[.int .i64 px, .int .i64 py] 38)).heap.size := by simp; omega
  clear h
  go_enter Tryd.func19, Tryd.ntmps19
  go_wp2_with (go_at_call 15; (with_reducible refine (check_as 0 W H a n c B xs _ HH.out hB' hn EQ).mono ?_); rintro e w1 ⟨rfl, hb1⟩; obtain ⟨hc1, hf1⟩ := bcellg hb1; have hz1 := hb1.size; simp at hz1; have q0 : w.heap.size < w1.heap.size := (by omega); have q1 : w.heap.size + 1 < w1.heap.size := (by omega); clear hz1; have HB1 := Hk.mk hb1; clear hb1)
  go_ret2
  exact ⟨rfl, (((Below.refl _ _).alloc (Nat.le_refl _) _).alloc (by simp) _).trans (HB1.out.mono (by simp <;> omega))⟩
theorem of_no4 (px py : Int) (W H : Int) (a : Option Addr) (n c B : Nat) (xs : List Int) (w : World) (h : By w B a n xs) (hB : B ≤ w.heap.size) (hn : n ≤ 140737488355328) (g : GOk W H n xs) (x0 : 0 ≤ px) (x1 : px < W * 65536) (y0 : 0 ≤ py) (q : H * 65536 ≤ py) :
    Calls Tryd.prog 19 #[.agg #[.int .i64 W, .int .i64 H, .slice a n c], .agg #[.int .i64 px, .int .i64 py]] w fun e' w' => e' = .returned (.tuple #[.int .i64 0, .int .i64 3]) ∧ Below w.heap.size w w' := by
  have EQ : Hk (gE W H n xs = 0) := ⟨gE_yes g⟩
  obtain ⟨w1', w2', h1, h2, nn, ts⟩ := g
  clear nn ts
  have b0 : decide (px < 0) = false := by simp; omega
  have b1 : decide (W * 65536 ≤ px) = false := by simp; omega
  have b2 : decide (py < 0) = false := by simp; omega
  have b3 : decide (H * 65536 ≤ py) = true := by simp; omega
  have HH := Hk.mk ((h.alloc hB (.cells #[.int .i64 W, .int .i64 H, .slice a n c] 24)).alloc (by simp; omega) (.cells #[.int .i64 px, .int .i64 py] 38))
  have hB' : B ≤ ((w.alloc (.cells #[.int .i64 W, .int .i64 H, .slice a n c] 24)).alloc (.cells #[.int .i64 px, .int .i64 py] 38)).heap.size := by simp; omega
  clear h
  go_enter Tryd.func19, Tryd.ntmps19
  go_wp2_with (go_at_call 15; (with_reducible refine (check_as 0 W H a n c B xs _ HH.out hB' hn EQ).mono ?_); rintro e w1 ⟨rfl, hb1⟩; obtain ⟨hc1, hf1⟩ := bcellg hb1; have hz1 := hb1.size; simp at hz1; have q0 : w.heap.size < w1.heap.size := (by omega); have q1 : w.heap.size + 1 < w1.heap.size := (by omega); clear hz1; have HB1 := Hk.mk hb1; clear hb1)
  go_ret2
  exact ⟨rfl, (((Below.refl _ _).alloc (Nat.le_refl _) _).alloc (by simp) _).trans (HB1.out.mono (by simp <;> omega))⟩
theorem of_none (px py : Int) (W H : Int) (a : Option Addr) (n c B : Nat) (xs : List Int) (w : World) (h : By w B a n xs) (hB : B ≤ w.heap.size) (hn : n ≤ 140737488355328) (g : GOk W H n xs) (q : ¬ (0 ≤ px ∧ px < W * 65536 ∧ 0 ≤ py ∧ py < H * 65536)) :
    Calls Tryd.prog 19 #[.agg #[.int .i64 W, .int .i64 H, .slice a n c], .agg #[.int .i64 px, .int .i64 py]] w fun e' w' => e' = .returned (.tuple #[.int .i64 0, .int .i64 3]) ∧ Below w.heap.size w w' := by
  by_cases q1 : px < 0
  · exact of_no1 px py W H a n c B xs w h hB hn g q1
  by_cases q2 : W * 65536 ≤ px
  · exact of_no2 px py W H a n c B xs w h hB hn g (by omega) q2
  by_cases q3 : py < 0
  · exact of_no3 px py W H a n c B xs w h hB hn g (by omega) (by omega) q3
  · exact of_no4 px py W H a n c B xs w h hB hn g (by omega) (by omega) (by omega) (by omega)
theorem of_form (px py : Int) (W H : Int) (a : Option Addr) (n c B : Nat) (xs : List Int) (w : World) (h : By w B a n xs) (hB : B ≤ w.heap.size) (hn : n ≤ 140737488355328) (g : ¬ GOk W H n xs) :
    Calls Tryd.prog 19 #[.agg #[.int .i64 W, .int .i64 H, .slice a n c], .agg #[.int .i64 px, .int .i64 py]] w fun e' w' => e' = .returned (.tuple #[.int .i64 0, .int .i64 1]) ∧ Below w.heap.size w w' := by
  have EQ : Hk (gE W H n xs = 1) := ⟨gE_no g⟩
  clear g
  have HH := Hk.mk ((h.alloc hB (.cells #[.int .i64 W, .int .i64 H, .slice a n c] 24)).alloc (by simp; omega) (.cells #[.int .i64 px, .int .i64 py] 38))
  have hB' : B ≤ ((w.alloc (.cells #[.int .i64 W, .int .i64 H, .slice a n c] 24)).alloc (.cells #[.int .i64 px, .int .i64 py] 38)).heap.size := by simp; omega
  clear h
  go_enter Tryd.func19, Tryd.ntmps19
  go_wp2_with (go_at_call 15; (with_reducible refine (check_as 1 W H a n c B xs _ HH.out hB' hn EQ).mono ?_); rintro e w1 ⟨rfl, hb1⟩; obtain ⟨hc1, hf1⟩ := bcellg hb1; have hz1 := hb1.size; simp at hz1; have q0 : w.heap.size < w1.heap.size := (by omega); have q1 : w.heap.size + 1 < w1.heap.size := (by omega); clear hz1; have HB1 := Hk.mk hb1; clear hb1)
  go_ret2
  exact ⟨rfl, (((Below.refl _ _).alloc (Nat.le_refl _) _).alloc (by simp) _).trans (HB1.out.mono (by simp <;> omega))⟩
theorem of_yes (px py : Int) (W H : Int) (a : Option Addr) (n c B : Nat) (xs : List Int) (w : World) (h : By w B a n xs) (hB : B ≤ w.heap.size) (hn : n ≤ 140737488355328) (g : GOk W H n xs) (x0 : 0 ≤ px) (x1 : px < W * 65536) (y0 : 0 ≤ py) (y1 : py < H * 65536) :
    Calls Tryd.prog 19 #[.agg #[.int .i64 W, .int .i64 H, .slice a n c], .agg #[.int .i64 px, .int .i64 py]] w fun e' w' => e' = .returned (.tuple #[.int .i64 (px / 65536 + W * (py / 65536)), .int .i64 0]) ∧ Below w.heap.size w w' := by
  have EQ : Hk (gE W H n xs = 0) := ⟨gE_yes g⟩
  obtain ⟨w1', w2', h1, h2, nn, ts⟩ := g
  clear nn ts
  have b0 : decide (px < 0) = false := by simp; omega
  have b1 : decide (W * 65536 ≤ px) = false := by simp; omega
  have b2 : decide (py < 0) = false := by simp; omega
  have b3 : decide (H * 65536 ≤ py) = false := by simp; omega
  have HH := Hk.mk ((h.alloc hB (.cells #[.int .i64 W, .int .i64 H, .slice a n c] 24)).alloc (by simp; omega) (.cells #[.int .i64 px, .int .i64 py] 38))
  have hB' : B ≤ ((w.alloc (.cells #[.int .i64 W, .int .i64 H, .slice a n c] 24)).alloc (.cells #[.int .i64 px, .int .i64 py] 38)).heap.size := by simp; omega
  clear h
  go_enter Tryd.func19, Tryd.ntmps19
  go_wp2_with (first | (go_at_call 15; (with_reducible refine (check_as 0 W H a n c B xs _ HH.out hB' hn EQ).mono ?_); rintro e w1 ⟨rfl, hb1⟩; obtain ⟨hc1, hf1⟩ := bcellg hb1; have hz1 := hb1.size; simp at hz1; have q0 : w.heap.size < w1.heap.size := (by omega); have q1 : w.heap.size + 1 < w1.heap.size := (by omega); clear hz1; have HB1 := Hk.mk hb1; clear hb1) | (go_at_call 53; (with_reducible refine (tof_any W px py _ w1' w2' x0 (by omega) y0 (by omega)).mono ?_); rintro e w2 ⟨rfl, hb2⟩; have hz2 : w.heap.size ≤ w1.heap.size := (by omega); have HB2 := Hk.mk hb2; clear hb2))
  go_ret2
  exact ⟨rfl, ((((Below.refl _ _).alloc (Nat.le_refl _) _).alloc (by simp) _).trans (HB1.out.mono (by simp <;> omega))).trans (HB2.out.mono hz2)⟩
end Go.Proofs.YtjjodfdmbiebnaaDoor
