import Derived.Laws.MakeOwn
import Derived.Deep.QuietTactic
import Derived.BigQuiet
import Derived.Deep.RegionWith
import Derived.Deep.RegionHeld3
import Derived.Deep.DeepCutAuto
import Derived.Deep.DeepFit
import Derived.Outline
import Derived.Test.YtjjodfdmbiebnaaRk
/- For every argument, BuildEdges answers true and leaves its argument as it was: on any ground of plain tiles a building stands just where all of it is on the ground. No condition. -/
namespace Go.Proofs.Ytjjodfdmbiebnaa
open Go.ChangeShapes Go.WideShapes Go.ChangeAt Go.RowKit Go.Deep
set_option linter.unusedVariables false
set_option linter.unusedSimpArgs false
theorem made_rep (z : Value) (n : Nat) : madeCells #[z] n = Array.replicate n z := by
  apply Array.ext
  · simp [madeCells]
  · intro i h1 h2
    simp [madeCells, Nat.mod_one]
theorem run_mk8 (N : Nat) (hN : N ≤ 20000) (w : World) : (Instr.makeSlice 22 (.int .i64 (N : Int)) (.int .i64 (N : Int))).run Try.prog w = .ok (.slice (some ⟨w.heap.size, 0, none⟩) N N) (w.alloc (.cells (Array.replicate N (Value.int .u8 0)) 5)) := by
  obtain ⟨i0, hi, hz0, hz1, hz2⟩ := info_parts info_u8
  have := run_make (P := Try.prog) (w := w) 22 5 i0 (.int .u8 0) Try.underlying22 hi hz0 .i64 .i64 (N : Int) (N : Int) (by omega) (by omega) (by rw [hz2]; omega) (by omega)
  rw [this, hz1]
  simp only [Int.toNat_natCast, Nat.mul_one]
  rw [show (Value.int .u8 0).cells = #[Value.int .u8 0] from rfl, made_rep]
theorem by_bk0 {w : World} {T N : Nat} (h : Bk w T (Array.replicate N (Value.int .u8 0))) : By w (T + 1) (some ⟨T, 0, none⟩) N (List.replicate N 0) :=
  ⟨by simp, by intro b hb; rw [List.eq_of_mem_replicate hb]; unfold Fn.Byt; omega, fun hn => ⟨T, 0, rfl, by omega, fun k hk => by rw [h.c]; simp [hk]⟩⟩
def edB (x wd : Int) : Bd := ⟨1, 1, x, 0, wd, 1⟩
theorem addEdge {W H : Int} {N : Nat} {x wd : Int} (g : GOk W H N (List.replicate N 0)) : addE W H N (List.replicate N 0) [] (edB x wd) = if wd < 1 ∨ 4 < wd then 1 else if x < 0 ∨ W < x + wd then 3 else 0 := by
  have w1 := g.w1; have h1 := g.h1
  unfold addE
  rw [if_pos (mok_nil g)]
  by_cases c1 : wd < 1 ∨ 4 < wd
  · rw [if_pos c1, if_pos]
    unfold fmB edB
    simp; omega
  rw [if_neg c1, if_neg (by unfold fmB edB; simp; omega)]
  by_cases c2 : x < 0 ∨ W < x + wd
  · rw [if_pos c2, if_pos]
    unfold inB edB
    simp; omega
  rw [if_neg c2, if_neg (by unfold inB edB; simp; omega), if_neg, if_neg, if_neg (by simp)]
  · intro h
    have : frB W (List.replicate N 0) (edB x wd) = true := by
      unfold frB
      rw [List.all_eq_true]
      intro t _
      have : (List.replicate N (0 : Int)).getD t.toNat 0 = 0 := by
        by_cases hk : t.toNat < N
        · simp [List.getD, hk]
        · simp [List.getD, hk]
      rw [this]; rfl
    rw [this] at h; cases h
  · rintro (⟨k, hk, _⟩ | h)
    · simp at hk
    · rw [List.any_eq_true] at h
      obtain ⟨t, _, h⟩ := h
      simp [cvB] at h
theorem edge_no (W H : Int) (T N B : Nat) (x wd : Int) (E : Int) (w : World) (h : By w B (some ⟨T, 0, none⟩) N (List.replicate N 0)) (hB : B ≤ w.heap.size) (hN : N ≤ 20000) (g : Hk (GOk W H N (List.replicate N 0))) (EV : Hk (addE W H N (List.replicate N 0) [] (edB x wd) = E)) (hE : E ≠ 0) :
    Calls Try.prog 18 #[.agg #[.int .i64 W, .int .i64 H, .slice (some ⟨T, 0, none⟩) N N], .slice none 0 0, .agg #[.int .i64 1, .int .i64 1, .int .i64 x, .int .i64 0, .int .i64 wd, .int .i64 1]] w fun e w' => e = .returned (.tuple #[.slice none 0 0, .int .i64 E]) ∧ Below w.heap.size w w' := by
  refine (add_nil W H (some ⟨T, 0, none⟩) N N B (List.replicate N 0) (edB x wd) w h hB (by omega)).mono ?_
  rintro e z (⟨h0, rfl, hb⟩ | ⟨h0, _⟩)
  · rw [EV.out]; exact ⟨rfl, hb⟩
  · exact absurd (EV.out.symm.trans h0) hE
theorem edge_yes (W H : Int) (T N B : Nat) (x wd : Int) (w : World) (h : By w B (some ⟨T, 0, none⟩) N (List.replicate N 0)) (hB : B ≤ w.heap.size) (hN : N ≤ 20000) (g : Hk (GOk W H N (List.replicate N 0))) (EV : Hk (addE W H N (List.replicate N 0) [] (edB x wd) = 0)) :
    Calls Try.prog 18 #[.agg #[.int .i64 W, .int .i64 H, .slice (some ⟨T, 0, none⟩) N N], .slice none 0 0, .agg #[.int .i64 1, .int .i64 1, .int .i64 x, .int .i64 0, .int .i64 wd, .int .i64 1]] w fun e w' => ∃ va vc, e = .returned (.tuple #[.slice va 1 vc, .int .i64 0]) ∧ Below w.heap.size w w' := by
  refine (add_nil W H (some ⟨T, 0, none⟩) N N B (List.replicate N 0) (edB x wd) w h hB (by omega)).mono ?_
  rintro e z (⟨h0, _⟩ | ⟨h0, v, rfl, hv, hb⟩)
  · exact absurd EV.out h0
  · obtain ⟨va, vc, rfl, _⟩ := hv.bq
    exact ⟨va, vc, rfl, hb⟩
set_option maxRecDepth 100000 in
theorem buildEdges_big (W H : Int) (a : Option Addr) (n c : Nat) (xs : List Int) (la : Option Addr) (ln lc : Nat) (bs : List Bd) (ma : Option Addr) (mn mc : Nat) (ia : Option Addr) (im ic : Nat) (w : World) (h : By w w.heap.size a n xs) (hb0 : Bq w w.heap.size la ln bs) (hn : n ≤ 9223372036854775807) (hln : ln ≤ 9223372036854775807) (HV : Hk (gtA n ln mn im = true)) :
    Calls Try.prog 7 #[.agg #[.int .i64 W, .int .i64 H, .slice a n c, .slice la ln lc, .slice ma mn mc, .slice ia im ic]] w fun e w' => e = .returned (.bool true) ∧ Below w.heap.size w w' := by
  have HWB : Hk (Below w.heap.size w (w.alloc (.cells #[.int .i64 W, .int .i64 H, .slice a n c, .slice la ln lc, .slice ma mn mc, .slice ia im ic] 28))) := ⟨(Below.refl _ _).alloc (Nat.le_refl _) _⟩
  have hNW : w.heap.size + 1 ≤ (w.alloc (.cells #[.int .i64 W, .int .i64 H, .slice a n c, .slice la ln lc, .slice ma mn mc, .slice ia im ic] 28)).heap.size := by simp
  have HB : Hk (Below (w.heap.size + 1) (w.alloc (.cells #[.int .i64 W, .int .i64 H, .slice a n c, .slice la ln lc, .slice ma mn mc, .slice ia im ic] 28)) (w.alloc (.cells #[.int .i64 W, .int .i64 H, .slice a n c, .slice la ln lc, .slice ma mn mc, .slice ia im ic] 28))) := ⟨Below.refl _ _⟩
  have HTR : Hk (∀ X, Below (w.heap.size + 1) (w.alloc (.cells #[.int .i64 W, .int .i64 H, .slice a n c, .slice la ln lc, .slice ma mn mc, .slice ia im ic] 28)) X → Below w.heap.size w X) := ⟨fun X hX => HWB.out.trans (hX.mono (by omega))⟩
  have HBY := Hk.mk (fun (X : World) (hX : Below (w.heap.size + 1) (w.alloc (.cells #[.int .i64 W, .int .i64 H, .slice a n c, .slice la ln lc, .slice ma mn mc, .slice ia im ic] 28)) X) => h.below (HTR.out X hX) (Nat.le_refl _))
  have HBQ := Hk.mk (fun (X : World) (hX : Below (w.heap.size + 1) (w.alloc (.cells #[.int .i64 W, .int .i64 H, .slice a n c, .slice la ln lc, .slice ma mn mc, .slice ia im ic] 28)) X) => hb0.below (HTR.out X hX) (Nat.le_refl _))
  clear h hb0
  obtain ⟨hc, hf, hl, hn', hm⟩ := kw_rules HB.out hNW
  go_enter Try.func7, Try.ntmps7
  go_wp2_with (go_at_call 14; (with_reducible refine (heavy8_as true W H a n c la ln lc ma mn mc ia im ic _ (by omega) (by omega) HV).mono ?_); rintro e z ⟨rfl, hb⟩; replace HB := Hk.mk (kw_step HB.out hNW hb); clear hb; clear hc hf hl hn' hm; obtain ⟨hc, hf, hl, hn', hm⟩ := kw_rules HB.out hNW)
  go_ret
  exact ⟨rfl, HTR.out _ HB.out⟩
set_option maxRecDepth 100000 in
theorem buildEdges_form (W H : Int) (a : Option Addr) (n c : Nat) (xs : List Int) (la : Option Addr) (ln lc : Nat) (bs : List Bd) (ma : Option Addr) (mn mc : Nat) (ia : Option Addr) (im ic : Nat) (w : World) (h : By w w.heap.size a n xs) (hb0 : Bq w w.heap.size la ln bs) (hn : n ≤ 700) (hln : ln ≤ 30) (HV : Hk (gtA n ln mn im = false)) (GE : Hk (gB W H n xs = false)) :
    Calls Try.prog 7 #[.agg #[.int .i64 W, .int .i64 H, .slice a n c, .slice la ln lc, .slice ma mn mc, .slice ia im ic]] w fun e w' => e = .returned (.bool true) ∧ Below w.heap.size w w' := by
  have HWB : Hk (Below w.heap.size w (w.alloc (.cells #[.int .i64 W, .int .i64 H, .slice a n c, .slice la ln lc, .slice ma mn mc, .slice ia im ic] 28))) := ⟨(Below.refl _ _).alloc (Nat.le_refl _) _⟩
  have hNW : w.heap.size + 1 ≤ (w.alloc (.cells #[.int .i64 W, .int .i64 H, .slice a n c, .slice la ln lc, .slice ma mn mc, .slice ia im ic] 28)).heap.size := by simp
  have HB : Hk (Below (w.heap.size + 1) (w.alloc (.cells #[.int .i64 W, .int .i64 H, .slice a n c, .slice la ln lc, .slice ma mn mc, .slice ia im ic] 28)) (w.alloc (.cells #[.int .i64 W, .int .i64 H, .slice a n c, .slice la ln lc, .slice ma mn mc, .slice ia im ic] 28))) := ⟨Below.refl _ _⟩
  have HTR : Hk (∀ X, Below (w.heap.size + 1) (w.alloc (.cells #[.int .i64 W, .int .i64 H, .slice a n c, .slice la ln lc, .slice ma mn mc, .slice ia im ic] 28)) X → Below w.heap.size w X) := ⟨fun X hX => HWB.out.trans (hX.mono (by omega))⟩
  have HBY := Hk.mk (fun (X : World) (hX : Below (w.heap.size + 1) (w.alloc (.cells #[.int .i64 W, .int .i64 H, .slice a n c, .slice la ln lc, .slice ma mn mc, .slice ia im ic] 28)) X) => h.below (HTR.out X hX) (Nat.le_refl _))
  have HBQ := Hk.mk (fun (X : World) (hX : Below (w.heap.size + 1) (w.alloc (.cells #[.int .i64 W, .int .i64 H, .slice a n c, .slice la ln lc, .slice ma mn mc, .slice ia im ic] 28)) X) => hb0.below (HTR.out X hX) (Nat.le_refl _))
  clear h hb0
  obtain ⟨hc, hf, hl, hn', hm⟩ := kw_rules HB.out hNW
  go_enter Try.func7, Try.ntmps7
  go_wp2_with (first | (go_at_call 14; (with_reducible refine (heavy8_as false W H a n c la ln lc ma mn mc ia im ic _ (by omega) (by omega) HV).mono ?_); rintro e z ⟨rfl, hb⟩; replace HB := Hk.mk (kw_step HB.out hNW hb); clear hb; clear hc hf hl hn' hm; obtain ⟨hc, hf, hl, hn', hm⟩ := kw_rules HB.out hNW) | (go_at_call 31; (with_reducible refine (rgr_as false W H a n c w.heap.size xs _ ?_ ?_ (by omega) GE).mono ?_); (exact (HBY.out _ HB.out)); (exact (hsz1 HB.out)); rintro e z ⟨rfl, hb⟩; replace HB := Hk.mk (kw_step HB.out hNW hb); clear hb; clear hc hf hl hn' hm; obtain ⟨hc, hf, hl, hn', hm⟩ := kw_rules HB.out hNW))
  go_ret
  exact ⟨rfl, HTR.out _ HB.out⟩
set_option maxRecDepth 100000 in
theorem buildEdges_wide (W H : Int) (a : Option Addr) (n c : Nat) (xs : List Int) (la : Option Addr) (ln lc : Nat) (bs : List Bd) (ma : Option Addr) (mn mc : Nat) (ia : Option Addr) (im ic : Nat) (w : World) (h : By w w.heap.size a n xs) (hb0 : Bq w w.heap.size la ln bs) (hn : n ≤ 700) (hln : ln ≤ 30) (HV : Hk (gtA n ln mn im = false)) (GE : Hk (gB W H n xs = true)) (hw : 20 < W) :
    Calls Try.prog 7 #[.agg #[.int .i64 W, .int .i64 H, .slice a n c, .slice la ln lc, .slice ma mn mc, .slice ia im ic]] w fun e w' => e = .returned (.bool true) ∧ Below w.heap.size w w' := by
  have HWB : Hk (Below w.heap.size w (w.alloc (.cells #[.int .i64 W, .int .i64 H, .slice a n c, .slice la ln lc, .slice ma mn mc, .slice ia im ic] 28))) := ⟨(Below.refl _ _).alloc (Nat.le_refl _) _⟩
  have hNW : w.heap.size + 1 ≤ (w.alloc (.cells #[.int .i64 W, .int .i64 H, .slice a n c, .slice la ln lc, .slice ma mn mc, .slice ia im ic] 28)).heap.size := by simp
  have HB : Hk (Below (w.heap.size + 1) (w.alloc (.cells #[.int .i64 W, .int .i64 H, .slice a n c, .slice la ln lc, .slice ma mn mc, .slice ia im ic] 28)) (w.alloc (.cells #[.int .i64 W, .int .i64 H, .slice a n c, .slice la ln lc, .slice ma mn mc, .slice ia im ic] 28))) := ⟨Below.refl _ _⟩
  have HTR : Hk (∀ X, Below (w.heap.size + 1) (w.alloc (.cells #[.int .i64 W, .int .i64 H, .slice a n c, .slice la ln lc, .slice ma mn mc, .slice ia im ic] 28)) X → Below w.heap.size w X) := ⟨fun X hX => HWB.out.trans (hX.mono (by omega))⟩
  have HBY := Hk.mk (fun (X : World) (hX : Below (w.heap.size + 1) (w.alloc (.cells #[.int .i64 W, .int .i64 H, .slice a n c, .slice la ln lc, .slice ma mn mc, .slice ia im ic] 28)) X) => h.below (HTR.out X hX) (Nat.le_refl _))
  have HBQ := Hk.mk (fun (X : World) (hX : Below (w.heap.size + 1) (w.alloc (.cells #[.int .i64 W, .int .i64 H, .slice a n c, .slice la ln lc, .slice ma mn mc, .slice ia im ic] 28)) X) => hb0.below (HTR.out X hX) (Nat.le_refl _))
  clear h hb0
  obtain ⟨hc, hf, hl, hn', hm⟩ := kw_rules HB.out hNW
  go_enter Try.func7, Try.ntmps7
  go_wp2_with (first | (go_at_call 14; (with_reducible refine (heavy8_as false W H a n c la ln lc ma mn mc ia im ic _ (by omega) (by omega) HV).mono ?_); rintro e z ⟨rfl, hb⟩; replace HB := Hk.mk (kw_step HB.out hNW hb); clear hb; clear hc hf hl hn' hm; obtain ⟨hc, hf, hl, hn', hm⟩ := kw_rules HB.out hNW) | (go_at_call 31; (with_reducible refine (rgr_as true W H a n c w.heap.size xs _ ?_ ?_ (by omega) GE).mono ?_); (exact (HBY.out _ HB.out)); (exact (hsz1 HB.out)); rintro e z ⟨rfl, hb⟩; replace HB := Hk.mk (kw_step HB.out hNW hb); clear hb; clear hc hf hl hn' hm; obtain ⟨hc, hf, hl, hn', hm⟩ := kw_rules HB.out hNW))
  go_ret
  exact ⟨rfl, HTR.out _ HB.out⟩
set_option maxRecDepth 100000 in
theorem buildEdges_high (W H : Int) (a : Option Addr) (n c : Nat) (xs : List Int) (la : Option Addr) (ln lc : Nat) (bs : List Bd) (ma : Option Addr) (mn mc : Nat) (ia : Option Addr) (im ic : Nat) (w : World) (h : By w w.heap.size a n xs) (hb0 : Bq w w.heap.size la ln bs) (hn : n ≤ 700) (hln : ln ≤ 30) (HV : Hk (gtA n ln mn im = false)) (GE : Hk (gB W H n xs = true)) (hw : W ≤ 20) (hh : 20 < H) :
    Calls Try.prog 7 #[.agg #[.int .i64 W, .int .i64 H, .slice a n c, .slice la ln lc, .slice ma mn mc, .slice ia im ic]] w fun e w' => e = .returned (.bool true) ∧ Below w.heap.size w w' := by
  have HWB : Hk (Below w.heap.size w (w.alloc (.cells #[.int .i64 W, .int .i64 H, .slice a n c, .slice la ln lc, .slice ma mn mc, .slice ia im ic] 28))) := ⟨(Below.refl _ _).alloc (Nat.le_refl _) _⟩
  have hNW : w.heap.size + 1 ≤ (w.alloc (.cells #[.int .i64 W, .int .i64 H, .slice a n c, .slice la ln lc, .slice ma mn mc, .slice ia im ic] 28)).heap.size := by simp
  have HB : Hk (Below (w.heap.size + 1) (w.alloc (.cells #[.int .i64 W, .int .i64 H, .slice a n c, .slice la ln lc, .slice ma mn mc, .slice ia im ic] 28)) (w.alloc (.cells #[.int .i64 W, .int .i64 H, .slice a n c, .slice la ln lc, .slice ma mn mc, .slice ia im ic] 28))) := ⟨Below.refl _ _⟩
  have HTR : Hk (∀ X, Below (w.heap.size + 1) (w.alloc (.cells #[.int .i64 W, .int .i64 H, .slice a n c, .slice la ln lc, .slice ma mn mc, .slice ia im ic] 28)) X → Below w.heap.size w X) := ⟨fun X hX => HWB.out.trans (hX.mono (by omega))⟩
  have HBY := Hk.mk (fun (X : World) (hX : Below (w.heap.size + 1) (w.alloc (.cells #[.int .i64 W, .int .i64 H, .slice a n c, .slice la ln lc, .slice ma mn mc, .slice ia im ic] 28)) X) => h.below (HTR.out X hX) (Nat.le_refl _))
  have HBQ := Hk.mk (fun (X : World) (hX : Below (w.heap.size + 1) (w.alloc (.cells #[.int .i64 W, .int .i64 H, .slice a n c, .slice la ln lc, .slice ma mn mc, .slice ia im ic] 28)) X) => hb0.below (HTR.out X hX) (Nat.le_refl _))
  clear h hb0
  obtain ⟨hc, hf, hl, hn', hm⟩ := kw_rules HB.out hNW
  go_enter Try.func7, Try.ntmps7
  go_wp2_with (first | (go_at_call 14; (with_reducible refine (heavy8_as false W H a n c la ln lc ma mn mc ia im ic _ (by omega) (by omega) HV).mono ?_); rintro e z ⟨rfl, hb⟩; replace HB := Hk.mk (kw_step HB.out hNW hb); clear hb; clear hc hf hl hn' hm; obtain ⟨hc, hf, hl, hn', hm⟩ := kw_rules HB.out hNW) | (go_at_call 31; (with_reducible refine (rgr_as true W H a n c w.heap.size xs _ ?_ ?_ (by omega) GE).mono ?_); (exact (HBY.out _ HB.out)); (exact (hsz1 HB.out)); rintro e z ⟨rfl, hb⟩; replace HB := Hk.mk (kw_step HB.out hNW hb); clear hb; clear hc hf hl hn' hm; obtain ⟨hc, hf, hl, hn', hm⟩ := kw_rules HB.out hNW))
  go_ret
  exact ⟨rfl, HTR.out _ HB.out⟩
set_option maxHeartbeats 1600000 in
set_option maxRecDepth 100000 in
theorem buildEdges_go (W H : Int) (a : Option Addr) (n c : Nat) (xs : List Int) (la : Option Addr) (ln lc : Nat) (bs : List Bd) (ma : Option Addr) (mn mc : Nat) (ia : Option Addr) (im ic : Nat) (w : World) (h : By w w.heap.size a n xs) (hb0 : Bq w w.heap.size la ln bs) (hn : n ≤ 700) (hln : ln ≤ 30) (HV : Hk (gtA n ln mn im = false)) (GE : Hk (gB W H n xs = true)) (hw : W ≤ 20) (hh : H ≤ 20) :
    Calls Try.prog 7 #[.agg #[.int .i64 W, .int .i64 H, .slice a n c, .slice la ln lc, .slice ma mn mc, .slice ia im ic]] w fun e w' => e = .returned (.bool true) ∧ Below w.heap.size w w' := by
  have HWB : Hk (Below w.heap.size w (w.alloc (.cells #[.int .i64 W, .int .i64 H, .slice a n c, .slice la ln lc, .slice ma mn mc, .slice ia im ic] 28))) := ⟨(Below.refl _ _).alloc (Nat.le_refl _) _⟩
  have hNW : w.heap.size + 1 ≤ (w.alloc (.cells #[.int .i64 W, .int .i64 H, .slice a n c, .slice la ln lc, .slice ma mn mc, .slice ia im ic] 28)).heap.size := by simp
  have HB : Hk (Below (w.heap.size + 1) (w.alloc (.cells #[.int .i64 W, .int .i64 H, .slice a n c, .slice la ln lc, .slice ma mn mc, .slice ia im ic] 28)) (w.alloc (.cells #[.int .i64 W, .int .i64 H, .slice a n c, .slice la ln lc, .slice ma mn mc, .slice ia im ic] 28))) := ⟨Below.refl _ _⟩
  have HTR : Hk (∀ X, Below (w.heap.size + 1) (w.alloc (.cells #[.int .i64 W, .int .i64 H, .slice a n c, .slice la ln lc, .slice ma mn mc, .slice ia im ic] 28)) X → Below w.heap.size w X) := ⟨fun X hX => HWB.out.trans (hX.mono (by omega))⟩
  have HBY := Hk.mk (fun (X : World) (hX : Below (w.heap.size + 1) (w.alloc (.cells #[.int .i64 W, .int .i64 H, .slice a n c, .slice la ln lc, .slice ma mn mc, .slice ia im ic] 28)) X) => h.below (HTR.out X hX) (Nat.le_refl _))
  have HBQ := Hk.mk (fun (X : World) (hX : Below (w.heap.size + 1) (w.alloc (.cells #[.int .i64 W, .int .i64 H, .slice a n c, .slice la ln lc, .slice ma mn mc, .slice ia im ic] 28)) X) => hb0.below (HTR.out X hX) (Nat.le_refl _))
  clear h hb0
  obtain ⟨hc, hf, hl, hn', hm⟩ := kw_rules HB.out hNW
  have gg := gB_iff.1 GE.out
  have w1 := gg.w1
  have h1 := gg.h1
  obtain ⟨m1, m2⟩ := mul_bd gg.w1 gg.w2 gg.h1 gg.h2
  obtain ⟨N, hNe⟩ : ∃ N : Nat, W * H = (N : Int) := ⟨(W * H).toNat, by omega⟩
  have hN : N ≤ 20000 := by omega
  have HG : Hk (GOk W H N (List.replicate N 0)) := ⟨⟨gg.w1, gg.w2, gg.h1, gg.h2, hNe.symm, by intro x hx; rw [List.eq_of_mem_replicate hx]; omega⟩⟩
  have hmk := fun w => run_mk8 N hN w
  have hwr : IntKind.i64.wrap (N : Int) = (N : Int) := IntWalk.i64_in _ (by omega)
  have N0 : (0 : Int) ≤ (N : Int) := by omega
  clear gg
  go_enter Try.func7, Try.ntmps7
  go_upto_region 3 with (first | (go_at_call 14; (with_reducible refine (heavy8_as false W H a n c la ln lc ma mn mc ia im ic _ (by omega) (by omega) HV).mono ?_); rintro e z ⟨rfl, hb⟩; replace HB := Hk.mk (kw_step HB.out hNW hb); clear hb; clear hc hf hl hn' hm; obtain ⟨hc, hf, hl, hn', hm⟩ := kw_rules HB.out hNW) | (go_at_call 31; (with_reducible refine (rgr_as true W H a n c w.heap.size xs _ ?_ ?_ (by omega) GE).mono ?_); (exact (HBY.out _ HB.out)); (exact (hsz1 HB.out)); rintro e z ⟨rfl, hb⟩; replace HB := Hk.mk (kw_step HB.out hNW hb); clear hb; clear hc hf hl hn' hm; obtain ⟨hc, hf, hl, hn', hm⟩ := kw_rules HB.out hNW))
  generalize z = VA at *
  have HB0 := HB
  have q0 : VA.cell? ⟨w.heap.size, 0, none⟩ = some (.int .i64 W) := (hc _ _ (by omega)).trans (by go_simp)
  have q1 : VA.cell? ⟨w.heap.size, 1, none⟩ = some (.int .i64 H) := (hc _ _ (by omega)).trans (by go_simp)
  have bX : w.heap.size < VA.heap.size := hl _ (by omega)
  clear hc hf hl hn' hm
  have L0V : VA.heap.size ≤ VA.heap.size := Nat.le_refl _
  apply reg_merge
  intro HG4
  apply reg_merge
  intro HG3
  apply reg_merge
  intro HG2
  apply reg_merge
  intro HG1
  refine wp_region_held_drew (S := fun Z => (∀ b o, b < VA.heap.size → Z.cell? ⟨b, o, none⟩ = VA.cell? ⟨b, o, none⟩)) (by kernel_rfl) (fun _ _ _ => rfl) (fun hHeld => ?_)
  have HB : Hk (Below VA.heap.size VA VA.drew) := ⟨(Below.refl _ _).drew⟩
  obtain ⟨Z, hWe⟩ : ∃ Z, VA.drew = Z := ⟨_, rfl⟩
  rw [hWe] at HB hHeld ⊢
  clear hWe
  refine wpAnyH_take (i := 0) (v := ?_) rfl (by kernel_rfl) (by kernel_rfl) (by kernel_rfl) (fun _ _ _ h => h) (Or.inl ⟨by rfl, fun wX hSw => ?_⟩) (by assumption) ?_
  rotate_left
  · (try dsimp only at hSw); go_simp; try with_reducible rfl
  (try simp only [Act.put, List.getElem_toArray, List.getElem_cons_succ, List.getElem_cons_zero, List.setIfInBounds_toArray, List.set_cons_zero, List.set_cons_succ])
  refine wpAnyH_take (i := 1) (v := ?_) rfl (by kernel_rfl) (by kernel_rfl) (by kernel_rfl) (fun _ _ _ h => h) (Or.inl ⟨by rfl, fun wX hSw => ?_⟩) (by assumption) ?_
  rotate_left
  · (try dsimp only at hSw); go_simp; try with_reducible rfl
  (try simp only [Act.put, List.getElem_toArray, List.getElem_cons_succ, List.getElem_cons_zero, List.setIfInBounds_toArray, List.set_cons_zero, List.set_cons_succ])
  refine wpAnyH_take (i := 2) (v := ?_) rfl (by kernel_rfl) (by kernel_rfl) (by kernel_rfl) (fun _ _ _ h => h) (Or.inl ⟨by rfl, fun wX hSw => ?_⟩) (by assumption) ?_
  rotate_left
  · (try dsimp only at hSw); go_simp; try with_reducible rfl
  (try simp only [Act.put, List.getElem_toArray, List.getElem_cons_succ, List.getElem_cons_zero, List.setIfInBounds_toArray, List.set_cons_zero, List.set_cons_succ])
  refine wpAnyH_take (i := 3) (v := ?_) rfl (by kernel_rfl) (by kernel_rfl) (by kernel_rfl) (fun _ _ _ h => h) (Or.inl ⟨by rfl, fun wX hSw => ?_⟩) (by assumption) ?_
  rotate_left
  · (try dsimp only at hSw); go_simp; try with_reducible rfl
  (try simp only [Act.put, List.getElem_toArray, List.getElem_cons_succ, List.getElem_cons_zero, List.setIfInBounds_toArray, List.set_cons_zero, List.set_cons_succ])
  refine wpAnyH_take (i := 4) (v := ?_) rfl (by kernel_rfl) (by kernel_rfl) (by kernel_rfl) (fun _ _ _ h => h) (Or.inl ⟨by rfl, fun wX hSw => ?_⟩) (by assumption) ?_
  rotate_left
  · (try dsimp only at hSw); go_simp; try with_reducible rfl
  (try simp only [Act.put, List.getElem_toArray, List.getElem_cons_succ, List.getElem_cons_zero, List.setIfInBounds_toArray, List.set_cons_zero, List.set_cons_succ])
  refine wpAnyH_take (i := 5) (v := ?_) rfl (by kernel_rfl) (by kernel_rfl) (by kernel_rfl) (fun _ _ _ h => h) (Or.inl ⟨by rfl, fun wX hSw => ?_⟩) (by assumption) ?_
  rotate_left
  · (try dsimp only at hSw); go_simp; try with_reducible rfl
  (try simp only [Act.put, List.getElem_toArray, List.getElem_cons_succ, List.getElem_cons_zero, List.setIfInBounds_toArray, List.set_cons_zero, List.set_cons_succ])
  refine wpAnyH_take (i := 6) (v := ?_) rfl (by kernel_rfl) (by kernel_rfl) (by kernel_rfl) (fun _ _ _ h => h) (Or.inl ⟨by rfl, fun wX hSw => ?_⟩) (by assumption) ?_
  rotate_left
  · (try dsimp only at hSw); go_simp; try with_reducible rfl
  (try simp only [Act.put, List.getElem_toArray, List.getElem_cons_succ, List.getElem_cons_zero, List.setIfInBounds_toArray, List.set_cons_zero, List.set_cons_succ])
  refine wpAnyH_take (i := 7) (v := ?_) rfl (by kernel_rfl) (by kernel_rfl) (by kernel_rfl) (fun _ _ _ h => h) (Or.inl ⟨by rfl, fun wX hSw => ?_⟩) (by assumption) ?_
  rotate_left
  · (try dsimp only at hSw); go_simp; try with_reducible rfl
  (try simp only [Act.put, List.getElem_toArray, List.getElem_cons_succ, List.getElem_cons_zero, List.setIfInBounds_toArray, List.set_cons_zero, List.set_cons_succ])
  refine wpAnyH_take (i := 8) (v := ?_) rfl (by kernel_rfl) (by kernel_rfl) (by kernel_rfl) (fun _ _ _ h => h) (Or.inl ⟨by rfl, fun wX hSw => ?_⟩) (by assumption) ?_
  rotate_left
  · (try dsimp only at hSw); go_simp; try with_reducible rfl
  (try simp only [Act.put, List.getElem_toArray, List.getElem_cons_succ, List.getElem_cons_zero, List.setIfInBounds_toArray, List.set_cons_zero, List.set_cons_succ])
  refine wpAnyH_take (i := 9) (v := ?_) rfl (by kernel_rfl) (by kernel_rfl) (by kernel_rfl) (fun _ _ _ h => h) (Or.inl ⟨by rfl, fun wX hSw => ?_⟩) (by assumption) ?_
  rotate_left
  · (try dsimp only at hSw); go_simp; try with_reducible rfl
  (try simp only [Act.put, List.getElem_toArray, List.getElem_cons_succ, List.getElem_cons_zero, List.setIfInBounds_toArray, List.set_cons_zero, List.set_cons_succ])
  refine wpAnyH_take (i := 10) (v := ?_) rfl (by kernel_rfl) (by kernel_rfl) (by kernel_rfl) (fun _ _ _ h => h) (Or.inl ⟨by rfl, fun wX hSw => ?_⟩) (by assumption) ?_
  rotate_left
  · (try dsimp only at hSw); go_simp; try with_reducible rfl
  (try simp only [Act.put, List.getElem_toArray, List.getElem_cons_succ, List.getElem_cons_zero, List.setIfInBounds_toArray, List.set_cons_zero, List.set_cons_succ])
  refine wpAnyH_take (i := 11) (v := ?_) rfl (by kernel_rfl) (by kernel_rfl) (by kernel_rfl) (fun _ _ _ h => h) (Or.inl ⟨by rfl, fun wX hSw => ?_⟩) (by assumption) ?_
  rotate_left
  · (try dsimp only at hSw); go_simp; try with_reducible rfl
  (try simp only [Act.put, List.getElem_toArray, List.getElem_cons_succ, List.getElem_cons_zero, List.setIfInBounds_toArray, List.set_cons_zero, List.set_cons_succ])
  refine wpAnyH_take (i := 12) (v := ?_) rfl (by kernel_rfl) (by kernel_rfl) (by kernel_rfl) (fun _ _ _ h => h) (Or.inl ⟨by rfl, fun wX hSw => ?_⟩) (by assumption) ?_
  rotate_left
  · (try dsimp only at hSw); go_simp; try with_reducible rfl
  (try simp only [Act.put, List.getElem_toArray, List.getElem_cons_succ, List.getElem_cons_zero, List.setIfInBounds_toArray, List.set_cons_zero, List.set_cons_succ])
  refine wpAnyH_ready (rs := [13, 15]) (by kernel_rfl) (by simp) ?_
  refine AllReadyH.cons rfl (fun K hK => ?_) (AllReadyH.cons rfl (fun K hK => ?_) (AllReadyH.nil))
  · skip
    go_simp
    have L_T := kw_le HB.out L0V
    have HP_T : Hk (Bk _ _ (Array.replicate N (Value.int .u8 0))) := ⟨Bk.new Z (Array.replicate N (Value.int .u8 0)) 5⟩
    replace HB := Hk.mk (kw_al HB.out L0V (.cells (Array.replicate N (Value.int .u8 0)) 5))
    refine hK.out _ _ ?_ (fun hHeld2 => ?_)
    · exact kw_s HB.out
    clear hK K hHeld
    have hHeld := hHeld2
    clear hHeld2
    (try simp only [Act.put, List.getElem_toArray, List.getElem_cons_succ, List.getElem_cons_zero, List.setIfInBounds_toArray, List.set_cons_zero, List.set_cons_succ])
    generalize Z.heap.size = T at *
    generalize Z.alloc (.cells (Array.replicate N (Value.int .u8 0)) 5) = Zx at *
    refine wpAnyH_take (i := 14) (v := ?_) rfl (by kernel_rfl) (by kernel_rfl) (by kernel_rfl) (fun _ _ _ h => h) (Or.inl ⟨by rfl, fun wX hSw => ?_⟩) (by assumption) ?_
    rotate_left
    · (try dsimp only at hSw); go_simp; try with_reducible rfl
    (try simp only [Act.put, List.getElem_toArray, List.getElem_cons_succ, List.getElem_cons_zero, List.setIfInBounds_toArray, List.set_cons_zero, List.set_cons_succ])
    refine reg_cast (l' := #[true, true, true, true, true, true, true, true, true, true, true, true, true, true, true, false, false]) (by kernel_rfl) ?_
    revert hHeld
    revert L_T
    revert HP_T
    revert HB
    revert T
    revert Zx
    exact HG1.out
  · skip
    go_simp
    have L_P := kw_le HB.out L0V
    have HP_P : Hk (Bk _ _ #[.int .i64 0, .int .i64 0, .slice none 0 0]) := ⟨Bk.new Z #[.int .i64 0, .int .i64 0, .slice none 0 0] 24⟩
    replace HB := Hk.mk (kw_al HB.out L0V (.cells #[.int .i64 0, .int .i64 0, .slice none 0 0] 24))
    refine hK.out _ _ ?_ (fun hHeld2 => ?_)
    · exact kw_s HB.out
    clear hK K hHeld
    have hHeld := hHeld2
    clear hHeld2
    (try simp only [Act.put, List.getElem_toArray, List.getElem_cons_succ, List.getElem_cons_zero, List.setIfInBounds_toArray, List.set_cons_zero, List.set_cons_succ])
    generalize Z.heap.size = P at *
    generalize Z.alloc (.cells #[.int .i64 0, .int .i64 0, .slice none 0 0] 24) = Zx at *
    refine reg_cast (l' := #[true, true, true, true, true, true, true, true, true, true, true, true, true, false, false, true, false]) (by kernel_rfl) ?_
    revert hHeld
    revert L_P
    revert HP_P
    revert HB
    revert P
    revert Zx
    exact HG2.out
  intro Z T HB HP_T L_T hHeld
  refine wpAnyH_ready (rs := [15]) (by kernel_rfl) (by simp) ?_
  refine AllReadyH.cons rfl (fun K hK => ?_) (AllReadyH.nil)
  · skip
    go_simp
    have N_T_P := HP_T.out.ne
    have N_P_T := HP_T.out.ne'
    have L_P := kw_le HB.out L0V
    replace HP_T := Hk.mk (HP_T.out.al (.cells #[.int .i64 0, .int .i64 0, .slice none 0 0] 24))
    have HP_P : Hk (Bk _ _ #[.int .i64 0, .int .i64 0, .slice none 0 0]) := ⟨Bk.new Z #[.int .i64 0, .int .i64 0, .slice none 0 0] 24⟩
    replace HB := Hk.mk (kw_al HB.out L0V (.cells #[.int .i64 0, .int .i64 0, .slice none 0 0] 24))
    refine hK.out _ _ ?_ (fun hHeld2 => ?_)
    · exact kw_s HB.out
    clear hK K hHeld
    have hHeld := hHeld2
    clear hHeld2
    (try simp only [Act.put, List.getElem_toArray, List.getElem_cons_succ, List.getElem_cons_zero, List.setIfInBounds_toArray, List.set_cons_zero, List.set_cons_succ])
    generalize Z.heap.size = P at *
    generalize Z.alloc (.cells #[.int .i64 0, .int .i64 0, .slice none 0 0] 24) = Zx at *
    refine reg_cast (l' := #[true, true, true, true, true, true, true, true, true, true, true, true, true, true, true, true, false]) (by kernel_rfl) ?_
    revert hHeld
    revert N_P_T
    revert N_T_P
    revert L_P
    revert L_T
    revert HP_P
    revert HP_T
    revert HB
    revert P
    revert T
    revert Zx
    exact HG3.out
  intro Z P HB HP_P L_P hHeld
  refine wpAnyH_ready (rs := [13]) (by kernel_rfl) (by simp) ?_
  refine AllReadyH.cons rfl (fun K hK => ?_) (AllReadyH.nil)
  · skip
    go_simp
    have N_P_T := HP_P.out.ne
    have N_T_P := HP_P.out.ne'
    have L_T := kw_le HB.out L0V
    replace HP_P := Hk.mk (HP_P.out.al (.cells (Array.replicate N (Value.int .u8 0)) 5))
    have HP_T : Hk (Bk _ _ (Array.replicate N (Value.int .u8 0))) := ⟨Bk.new Z (Array.replicate N (Value.int .u8 0)) 5⟩
    replace HB := Hk.mk (kw_al HB.out L0V (.cells (Array.replicate N (Value.int .u8 0)) 5))
    refine hK.out _ _ ?_ (fun hHeld2 => ?_)
    · exact kw_s HB.out
    clear hK K hHeld
    have hHeld := hHeld2
    clear hHeld2
    (try simp only [Act.put, List.getElem_toArray, List.getElem_cons_succ, List.getElem_cons_zero, List.setIfInBounds_toArray, List.set_cons_zero, List.set_cons_succ])
    generalize Z.heap.size = T at *
    generalize Z.alloc (.cells (Array.replicate N (Value.int .u8 0)) 5) = Zx at *
    refine wpAnyH_take (i := 14) (v := ?_) rfl (by kernel_rfl) (by kernel_rfl) (by kernel_rfl) (fun _ _ _ h => h) (Or.inl ⟨by rfl, fun wX hSw => ?_⟩) (by assumption) ?_
    rotate_left
    · (try dsimp only at hSw); go_simp; try with_reducible rfl
    (try simp only [Act.put, List.getElem_toArray, List.getElem_cons_succ, List.getElem_cons_zero, List.setIfInBounds_toArray, List.set_cons_zero, List.set_cons_succ])
    refine reg_cast (l' := #[true, true, true, true, true, true, true, true, true, true, true, true, true, true, true, true, false]) (by kernel_rfl) ?_
    revert hHeld
    revert N_P_T
    revert N_T_P
    revert L_P
    revert L_T
    revert HP_P
    revert HP_T
    revert HB
    revert P
    revert T
    revert Zx
    exact HG3.out
  intro Z T P HB HP_T HP_P L_T L_P N_T_P N_P_T hHeld
  refine wpAnyH_ready (rs := [16]) (by kernel_rfl) (by simp) ?_
  refine AllReadyH.cons rfl (fun K hK => ?_) (AllReadyH.nil)
  · skip
    have st_c0 : Z.cell? ⟨P, 0, none⟩ = some (.int .i64 0) := HP_P.out.c 0
    have st_f0 : Z.frozen? ⟨P, 0, none⟩ = false := HP_P.out.f 0
    have st_c1 : Z.cell? ⟨P, 1, none⟩ = some (.int .i64 0) := HP_P.out.c 1
    have st_f1 : Z.frozen? ⟨P, 1, none⟩ = false := HP_P.out.f 1
    have st_c2 : Z.cell? ⟨P, 2, none⟩ = some (.slice none 0 0) := HP_P.out.c 2
    have st_f2 : Z.frozen? ⟨P, 2, none⟩ = false := HP_P.out.f 2
    go_simp
    clear st_c0 st_f0
    clear st_c1 st_f1
    clear st_c2 st_f2
    replace HP_T := Hk.mk (Bk.oth ((Bk.oth ((Bk.oth (HP_T.out) N_T_P 0 (.int .i64 W))) N_T_P 1 (.int .i64 H))) N_T_P 2 (.slice (some ⟨T, 0, none⟩) N N))
    replace HP_P : Hk (Bk _ P #[.int .i64 W, .int .i64 H, .slice (some ⟨T, 0, none⟩) N N]) := ⟨(Bk.set ((Bk.set ((Bk.set (HP_P.out) 0 (.int .i64 W))) 1 (.int .i64 H))) 2 (.slice (some ⟨T, 0, none⟩) N N))⟩
    replace HB := Hk.mk (Below.setCell (p := ⟨P, 2, none⟩) ((Below.setCell (p := ⟨P, 1, none⟩) ((Below.setCell (p := ⟨P, 0, none⟩) (HB.out) L_P (.int .i64 W))) L_P (.int .i64 H))) L_P (.slice (some ⟨T, 0, none⟩) N N))
    refine hK.out _ _ ?_ (fun hHeld2 => ?_)
    · exact kw_s HB.out
    clear hK K hHeld
    have hHeld := hHeld2
    clear hHeld2
    (try simp only [Act.put, List.getElem_toArray, List.getElem_cons_succ, List.getElem_cons_zero, List.setIfInBounds_toArray, List.set_cons_zero, List.set_cons_succ])
    generalize (World.setCell (World.setCell (World.setCell Z ⟨P, 0, none⟩ (.int .i64 W)) ⟨P, 1, none⟩ (.int .i64 H)) ⟨P, 2, none⟩ (.slice (some ⟨T, 0, none⟩) N N)) = Zx at *
    refine reg_cast (l' := #[true, true, true, true, true, true, true, true, true, true, true, true, true, true, true, true, true]) (by kernel_rfl) ?_
    revert hHeld
    revert N_P_T
    revert N_T_P
    revert L_P
    revert L_T
    revert HP_P
    revert HP_T
    revert HB
    revert P
    revert T
    revert Zx
    exact HG4.out
  intro Z T P HB HP_T HP_P L_T L_P N_T_P N_P_T hHeld
  refine wpAnyH_done (by kernel_rfl) ?_ _
  have HBZ := Hk.mk (HTR.out _ (kw_step HB0.out hNW HB.out))
  have e0 : Z.cell? ⟨P, 0, none⟩ = some (.int .i64 W) := HP_P.out.c 0
  have e1 : Z.cell? ⟨P, 1, none⟩ = some (.int .i64 H) := HP_P.out.c 1
  have e2 : Z.cell? ⟨P, 2, none⟩ = some (.slice (some ⟨T, 0, none⟩) N N) := HP_P.out.c 2
  have bP := HP_P.out.lt
  have hT1 : T + 1 ≤ Z.heap.size := HP_T.out.lt
  have HBT : Hk (∀ X, Below Z.heap.size Z X → By X (T + 1) (some ⟨T, 0, none⟩) N (List.replicate N 0)) := ⟨fun X hX => (by_bk0 HP_T.out).below hX hT1⟩
  have L0 : Z.heap.size ≤ Z.heap.size := Nat.le_refl _
  have hws : Hk (w.heap.size ≤ Z.heap.size) := ⟨by have := HB.out.size; omega⟩
  clear HB HP_P HP_T L_P L_T N_P_T N_T_P hHeld L0V HB0 q0 q1 bX HTR HBY HBQ HWB hNW hmk hwr HV GE N0
  go_wp2
  go_loopw [4] (fun i wr => ∃ wd : Int, i = .int .i64 wd ∧ 0 ≤ wd ∧ wd ≤ 6 ∧ Hk (Below Z.heap.size Z wr)) (fun i _ => (6 - intOf i).toNat)
  case atStart => exact ⟨0, rfl, by omega, by omega, ⟨Below.refl _ _⟩⟩
  case round =>
    obtain ⟨wd, rfl, k0, k6, HB⟩ := hrel
    obtain ⟨hc, hf, hl, hn', hm⟩ := kw_rules HB.out L0
    by_cases hlt : wd ≤ 5
    · go_wp2
      clear hc hf hl hn' hm
      obtain ⟨wo, rfl⟩ : ∃ wo : World, wo = wr := ⟨wr, rfl⟩
      go_loopw [5] (fun i wr => ∃ x : Int, i = .int .i64 x ∧ -1 ≤ x ∧ x ≤ W + 1 ∧ Hk (Below Z.heap.size Z wr)) (fun i _ => (W + 2 - intOf i).toNat)
      case atStart => exact ⟨-1, rfl, by omega, by omega, HB⟩
      case round =>
        clear HB
        obtain ⟨x, rfl, x0, x1, HB⟩ := hrel
        obtain ⟨hc, hf, hl, hn', hm⟩ := kw_rules HB.out L0
        by_cases hxw : x ≤ W
        · by_cases c1 : wd < 1
          · go_wp2_with (first | (go_at_call 18; (with_reducible refine (edge_no W H T N (T + 1) x wd 1 _ (HBT.out _ HB.out) (Nat.le_trans hT1 HB.out.size) hN HG ⟨by rw [addEdge HG.out]; exact if_pos (Or.inl c1)⟩ (by decide)).mono ?_); rintro e z ⟨rfl, hb⟩; replace HB := Hk.mk (kw_step HB.out L0 hb); clear hb hc hf hl hn' hm; obtain ⟨hc, hf, hl, hn', hm⟩ := kw_rules HB.out L0) | (go_at_call 19; (with_reducible refine (num8_any _ _).mono ?_); rintro e z ⟨rfl, rfl⟩))
            exact ⟨⟨x + 1, rfl, by omega, by omega, HB⟩, by simp [intOf]; omega⟩
          by_cases c2 : 4 < wd
          · go_wp2_with (first | (go_at_call 18; (with_reducible refine (edge_no W H T N (T + 1) x wd 1 _ (HBT.out _ HB.out) (Nat.le_trans hT1 HB.out.size) hN HG ⟨by rw [addEdge HG.out]; exact if_pos (Or.inr c2)⟩ (by decide)).mono ?_); rintro e z ⟨rfl, hb⟩; replace HB := Hk.mk (kw_step HB.out L0 hb); clear hb hc hf hl hn' hm; obtain ⟨hc, hf, hl, hn', hm⟩ := kw_rules HB.out L0) | (go_at_call 19; (with_reducible refine (num8_any _ _).mono ?_); rintro e z ⟨rfl, rfl⟩))
            exact ⟨⟨x + 1, rfl, by omega, by omega, HB⟩, by simp [intOf]; omega⟩
          by_cases c3 : x < 0
          · go_wp2_with (first | (go_at_call 18; (with_reducible refine (edge_no W H T N (T + 1) x wd 3 _ (HBT.out _ HB.out) (Nat.le_trans hT1 HB.out.size) hN HG ⟨by rw [addEdge HG.out]; rw [if_neg (by omega)]; exact if_pos (Or.inl c3)⟩ (by decide)).mono ?_); rintro e z ⟨rfl, hb⟩; replace HB := Hk.mk (kw_step HB.out L0 hb); clear hb hc hf hl hn' hm; obtain ⟨hc, hf, hl, hn', hm⟩ := kw_rules HB.out L0) | (go_at_call 19; (with_reducible refine (num8_any _ _).mono ?_); rintro e z ⟨rfl, rfl⟩))
            exact ⟨⟨x + 1, rfl, by omega, by omega, HB⟩, by simp [intOf]; omega⟩
          by_cases c4 : W < x + wd
          · go_wp2_with (first | (go_at_call 18; (with_reducible refine (edge_no W H T N (T + 1) x wd 3 _ (HBT.out _ HB.out) (Nat.le_trans hT1 HB.out.size) hN HG ⟨by rw [addEdge HG.out]; rw [if_neg (by omega)]; exact if_pos (Or.inr c4)⟩ (by decide)).mono ?_); rintro e z ⟨rfl, hb⟩; replace HB := Hk.mk (kw_step HB.out L0 hb); clear hb hc hf hl hn' hm; obtain ⟨hc, hf, hl, hn', hm⟩ := kw_rules HB.out L0) | (go_at_call 19; (with_reducible refine (num8_any _ _).mono ?_); rintro e z ⟨rfl, rfl⟩))
            exact ⟨⟨x + 1, rfl, by omega, by omega, HB⟩, by simp [intOf]; omega⟩
          · have b1 : decide (wd < 1) = false := by simp; omega
            have b2 : decide (4 < wd) = false := by simp; omega
            have b3 : decide (x < 0) = false := by simp; omega
            have b4 : decide (W < x + wd) = false := by simp; omega
            go_wp2_with (first | (go_at_call 18; (with_reducible refine (edge_yes W H T N (T + 1) x wd _ (HBT.out _ HB.out) (Nat.le_trans hT1 HB.out.size) hN HG ⟨by rw [addEdge HG.out, if_neg (by omega), if_neg (by omega)]⟩).mono ?_); rintro e z ⟨va, vc, rfl, hb⟩; replace HB := Hk.mk (kw_step HB.out L0 hb); clear hb hc hf hl hn' hm; obtain ⟨hc, hf, hl, hn', hm⟩ := kw_rules HB.out L0) | (go_at_call 19; (with_reducible refine (num8_any _ _).mono ?_); rintro e z ⟨rfl, rfl⟩))
            exact ⟨⟨x + 1, rfl, by omega, by omega, HB⟩, by simp [intOf]; omega⟩
        · go_wp2_with fail
          exact ⟨⟨wd + 1, rfl, by omega, by omega, HB⟩, by simp [intOf]; omega⟩
    · go_wp2_with (go_at_call 23; (with_reducible refine (wakes8_any _).mono ?_); rintro e z ⟨rfl, hb⟩; replace HB := Hk.mk (kw_step HB.out L0 hb); clear hb)
      go_ret
      exact ⟨rfl, HBZ.out.trans (HB.out.mono hws.out)⟩
theorem buildEdges_walk (v : Value) (w : World) (rows : Asks8 w v) :
    Calls Try.prog 7 #[v] w fun e w' => e = .returned (.bool true) ∧ Below w.heap.size w w' := by
  obtain ⟨W, H, a, n, c, xs, la, ln, lc, bs, ma, mn, mc, ms, ia, im, ic, js, rfl, hW, hH, hn, hlc, hcc, hby, hbq, hi, hmc, hc2, hmq, hj, him, hnq⟩ := rows
  by_cases g : gtA n ln mn im = true
  · exact buildEdges_big W H a n c xs la ln lc bs ma mn mc ia im ic w hby hbq hn (by omega) ⟨g⟩
  · have g' : gtA n ln mn im = false := by simpa using g
    have hs : n ≤ 700 ∧ ln ≤ 30 := by unfold gtA at g'; simp at g'; omega
    cases q : gB W H n xs
    · exact buildEdges_form W H a n c xs la ln lc bs ma mn mc ia im ic w hby hbq hs.1 hs.2 ⟨g'⟩ ⟨q⟩
    by_cases hw : 20 < W
    · exact buildEdges_wide W H a n c xs la ln lc bs ma mn mc ia im ic w hby hbq hs.1 hs.2 ⟨g'⟩ ⟨q⟩ hw
    by_cases hh : 20 < H
    · exact buildEdges_high W H a n c xs la ln lc bs ma mn mc ia im ic w hby hbq hs.1 hs.2 ⟨g'⟩ ⟨q⟩ (by omega) hh
    · exact buildEdges_go W H a n c xs la ln lc bs ma mn mc ia im ic w hby hbq hs.1 hs.2 ⟨g'⟩ ⟨q⟩ (by omega) (by omega)

theorem buildEdges_own : ownKnob Try.prog.godebug = none := by kernel_rfl
theorem buildEdges_laidOut : laidOutB Try.prog = true := by kernel_rfl
set_option maxRecDepth 100000 in
theorem buildEdges_lifted (os : Os) (started : os.Started) (H : Type) (enc : TypeId × Value → H) :
    ReturnsInHanded {} Try.checked os 7 .any (Rows.buildEdgesSpec.pre6 enc Try.prog Try.f7 Rows.buildEdgesRow.domain false) (Rows.buildEdgesSpec.post enc Try.prog Try.f7 false true false false) := by
  refine returnsInHanded_of_change (C := Try.checked) buildEdges_own started (by kernel_rfl) Try.func7
    (ChangeSpec.witness6 (enc := enc) (C := Try.checked) false ⟨#[], #[.agg #[.int .i64 0, .int .i64 0, .slice none 0 0, .slice none 0 0, .slice none 0 0, .slice none 0 0]], []⟩ 8 (by kernel_rfl) (by kernel_rfl) (by kernel_rfl) (by kernel_rfl)) ?_
  intro W base args ds gs before hval0 hW hcnd _
  have hval : ∀ (j : Nat) t v, Try.f7.params[j]? = some t → args[j]? = some v → Value.okWide Try.prog W .any base t v := hval0
  have hW' := hW
  obtain ⟨p, q, hA0, hV, rfl, hfz, hnd⟩ := hW
  have hA : DataW.TrodAll enc Try.prog W 0 (fun _ => true) true Try.f7.params.toList args.toList ds p := hA0
  rw [Try.params7] at hA hval
  obtain ⟨v0, vs0, d0, ds0, p0, q0, hargs, rfl, rfl, h0, r0⟩ := trodAll_cons hA
  obtain ⟨rfl, rfl, rfl⟩ := trodAll_nil r0
  obtain rfl : args = #[v0] := by cases args; simp_all
  obtain ⟨rfl, rfl⟩ := trodVars_none hV
  obtain ⟨cs0, rfl, hcs0⟩ := okWide_struct Try.underlying28 (hval 0 28 v0 rfl rfl)
  have k0 := h0
  have lt0 : ∀ x ∈ p0, x.block < W.heap.size := by obtain ⟨m, hm⟩ := k0; exact DataW.trod_lt m _ _ _ hm
  have rows : Asks8 W (.agg cs0) := by obtain ⟨fuel, hf⟩ := h0; exact asks8_of hcs0 hf
  clear hA0 hval0
  refine (buildEdges_walk (.agg cs0) W rows).mono fun e W' ⟨he, bel⟩ => ?_
  subst he
  exact ⟨_, rfl, _, _, _, [], _, [], hW', trodAll_mk1 (shut_bool Try.underlying4 _), (trodAll_cons_mk (Below.trod buildEdges_laidOut (by kernel_rfl) (of_decide_eq_true (by kernel_rfl)) k0 bel lt0) trodAll_mk0), rfl, bel.frame _, fun h => by cases h⟩
theorem buildEdges_over : Rows.buildEdgesRow.holds Try.pinned (OpenSpec.ofChange Rows.buildEdgesSpec) :=
  OpenClaim.holds_of_wide 7 Try.f7 rfl rfl rfl rfl rfl rfl rfl ⟨rfl, rfl, rfl, rfl, rfl⟩ rfl rfl rfl rfl rfl (by kernel_rfl) Try.func7 (by kernel_rfl)
    (of_decide_eq_true (by kernel_rfl)) (by unfold Func.isWrapper; first | (rw [if_pos (by decide +kernel)]; kernel_rfl) | (rw [if_neg (by decide +kernel)]; exact ⟨rfl, rfl⟩))
    (fun os started H enc _ => buildEdges_lifted os started H enc)
/-- The given statement of BuildEdges. -/
theorem buildEdges_holds : Rows.BuildEdgesSaid := buildEdges_over
end Go.Proofs.Ytjjodfdmbiebnaa

