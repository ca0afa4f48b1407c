/- The contracts of package ground: whether it may be; of the program and of the reference. -/
import Derived.Test.YtjjodfdmbiebnaaDoorGp
import Derived.IntWalk
namespace Go.Proofs.YtjjodfdmbiebnaaDoor
open Go.RowKit
set_option linter.unusedVariables false
def I64' (x : Int) : Prop := -9223372036854775808 ≤ x ∧ x ≤ 9223372036854775807
theorem check_hd (W H : Int) (a : Option Addr) (n c B : Nat) (xs : List Int) (w : World) (h : By w B a n xs) (hB : B ≤ w.heap.size) (g : GHd W H n) (hn : n ≤ 16384) :
    Calls Tryd.prog 15 #[.agg #[.int .i64 W, .int .i64 H, .slice a n c]] w fun e w' => e = .returned (.int .i64 (gE W H n xs)) ∧ Below w.heap.size w w' := by
  obtain ⟨w1, w2, h1, h2, nn⟩ := g
  obtain ⟨m1, m2⟩ := mul_bd w1 w2 h1 h2
  have b1 : decide (W < 1) = false := by simp; omega
  have b2 : decide (128 < W) = false := by simp; omega
  have b3 : decide (H < 1) = false := by simp; omega
  have b4 : decide (128 < H) = false := by simp; omega
  have b5 : ((n : Int) != W * H) = false := by rw [bne_eq_false_iff_eq]; exact nn
  have NN := Hk.mk nn
  have HH := Hk.mk (h.alloc hB (.cells #[.int .i64 W, .int .i64 H, .slice a n c] 24))
  clear nn h
  go_enter Tryd.func15, Tryd.ntmps15
  go_wp2
  go_loop [37] (fun i => ∃ k : Nat, k ≤ n ∧ i = .int .i64 k ∧ Hk (∀ j, j < k → xs.getD j 0 ≤ 5)) (fun i => n - (intOf i).toNat)
  case atStart => exact ⟨0, Nat.zero_le _, rfl, ⟨fun j hj => absurd hj (by omega)⟩⟩
  case round =>
    obtain ⟨k, hk, rfl, HJ⟩ := hrel
    by_cases hlt : k < n
    · obtain ⟨b, off, rfl, hbl, hc⟩ := HH.out.at_ (by omega)
      have hcx := hc k hlt
      have hx := HH.out.bd hlt
      have hmem : xs.getD k 0 ∈ xs := getD_mem (by rw [HH.out.len]; exact hlt)
      have HM := Hk.mk hmem
      clear hc hmem
      generalize hX : xs.getD k 0 = x at *
      have HX := Hk.mk hX
      clear hX
      by_cases h5 : 5 < x
      · have d5 : decide (5 < x) = true := by simp; omega
        go_wp2
        go_ret
        exact ⟨ri (gE_no (fun g => by have := g.ts x HM.out; omega)).symm, (Below.refl _ _).alloc (Nat.le_refl _) _⟩
      · have d5 : decide (5 < x) = false := by simp; omega
        go_wp2
        go_round
        case rel => exact ⟨k + 1, by omega, by go_num, ⟨fun j hj => by
          by_cases e : j = k
          · subst e; rw [HX.out]; omega
          · exact HJ.out j (by omega)⟩⟩
        case measure => simp [intOf]; omega
    · have hkn : k = n := by omega
      subst hkn
      go_wp2
      go_ret
      exact ⟨ri (gE_yes ⟨w1, w2, h1, h2, NN.out, fun x hx => by
        obtain ⟨j, hj, rfl⟩ := List.mem_iff_getElem.1 hx
        have := HJ.out j (by rw [← HH.out.len]; exact hj)
        simpa [List.getD, List.getElem?_eq_getElem hj] using this⟩).symm, (Below.refl _ _).alloc (Nat.le_refl _) _⟩
theorem check_bad (W H : Int) (a : Option Addr) (n c : Nat) (xs : List Int) (w : World) (g : ¬ GHd W H n) (hn : n ≤ 140737488355328) :
    Calls Tryd.prog 15 #[.agg #[.int .i64 W, .int .i64 H, .slice a n c]] w fun e w' => e = .returned (.int .i64 (gE W H n xs)) ∧ Below w.heap.size w w' := by
  have NO := Hk.mk g
  have hno : ¬ GOk W H n xs := fun h => NO.out ⟨h.w1, h.w2, h.h1, h.h2, h.nn⟩
  have R := Hk.mk (gE_no hno)
  clear g hno
  by_cases c1 : W < 1
  · have b1 : decide (W < 1) = true := by simp; omega
    go_enter Tryd.func15, Tryd.ntmps15
    go_wp2
    go_ret
    exact ⟨ri R.out.symm, (Below.refl _ _).alloc (Nat.le_refl _) _⟩
  have b1 : decide (W < 1) = false := by simp; omega
  by_cases c2 : 128 < W
  · have b2 : decide (128 < W) = true := by simp; omega
    go_enter Tryd.func15, Tryd.ntmps15
    go_wp2
    go_ret
    exact ⟨ri R.out.symm, (Below.refl _ _).alloc (Nat.le_refl _) _⟩
  have b2 : decide (128 < W) = false := by simp; omega
  by_cases c3 : H < 1
  · have b3 : decide (H < 1) = true := by simp; omega
    go_enter Tryd.func15, Tryd.ntmps15
    go_wp2
    go_ret
    exact ⟨ri R.out.symm, (Below.refl _ _).alloc (Nat.le_refl _) _⟩
  have b3 : decide (H < 1) = false := by simp; omega
  by_cases c4 : 128 < H
  · have b4 : decide (128 < H) = true := by simp; omega
    go_enter Tryd.func15, Tryd.ntmps15
    go_wp2
    go_ret
    exact ⟨ri R.out.symm, (Below.refl _ _).alloc (Nat.le_refl _) _⟩
  have b4 : decide (128 < H) = false := by simp; omega
  obtain ⟨m1, m2⟩ := mul_bd (W := W) (H := H) (by omega) (by omega) (by omega) (by omega)
  have b5 : ((n : Int) != W * H) = true := by rw [bne_iff_ne]; exact fun e => NO.out ⟨by omega, by omega, by omega, by omega, e⟩
  go_enter Tryd.func15, Tryd.ntmps15
  go_wp2
  go_ret
  exact ⟨ri R.out.symm, (Below.refl _ _).alloc (Nat.le_refl _) _⟩
theorem check_any (W H : Int) (a : Option Addr) (n c B : Nat) (xs : List Int) (w : World) (h : By w B a n xs) (hB : B ≤ w.heap.size) (hn : n ≤ 140737488355328) :
    Calls Tryd.prog 15 #[.agg #[.int .i64 W, .int .i64 H, .slice a n c]] w fun e w' => e = .returned (.int .i64 (gE W H n xs)) ∧ Below w.heap.size w w' := by
  by_cases g : GHd W H n
  · exact check_hd W H a n c B xs w h hB g (by have := mul_bd g.w1 g.w2 g.h1 g.h2; have := g.nn; omega)
  · exact check_bad W H a n c xs w g hn
theorem rbo {a b : Bool} (h : a = b) : Ending.returned (.bool a) = .returned (.bool b) := by rw [h]
theorem rgr_hd (W H : Int) (a : Option Addr) (n c B : Nat) (xs : List Int) (w : World) (h : By w B a n xs) (hB : B ≤ w.heap.size) (g : GHd W H n) (hn : n ≤ 16384) :
    Calls Tryd.prog 61 #[.agg #[.int .i64 W, .int .i64 H, .slice a n c]] w fun e w' => e = .returned (.bool (gB W H n xs)) ∧ Below w.heap.size w w' := by
  obtain ⟨w1, w2, h1, h2, nn⟩ := g
  obtain ⟨m1, m2⟩ := mul_bd w1 w2 h1 h2
  have b1 : decide (W < 1) = false := by simp; omega
  have b2 : decide (128 < W) = false := by simp; omega
  have b3 : decide (H < 1) = false := by simp; omega
  have b4 : decide (128 < H) = false := by simp; omega
  have b5 : ((n : Int) != W * H) = false := by rw [bne_eq_false_iff_eq]; exact nn
  have NN := Hk.mk nn
  have HH := Hk.mk (h.alloc hB (.cells #[.int .i64 W, .int .i64 H, .slice a n c] 24))
  clear nn h
  go_enter Tryd.func61, Tryd.ntmps61
  go_wp2
  go_loop [3] (fun i => ∃ k : Nat, k ≤ n ∧ i = .int .i64 k ∧ Hk (∀ j, j < k → xs.getD j 0 ≤ 5)) (fun i => n - (intOf i).toNat)
  case atStart => exact ⟨0, Nat.zero_le _, rfl, ⟨fun j hj => absurd hj (by omega)⟩⟩
  case round =>
    obtain ⟨k, hk, rfl, HJ⟩ := hrel
    by_cases hlt : k < n
    · obtain ⟨b, off, rfl, hbl, hc⟩ := HH.out.at_ (by omega)
      have hcx := hc k hlt
      have hx := HH.out.bd hlt
      have hmem : xs.getD k 0 ∈ xs := getD_mem (by rw [HH.out.len]; exact hlt)
      have HM := Hk.mk hmem
      clear hc hmem
      generalize hX : xs.getD k 0 = x at *
      have HX := Hk.mk hX
      clear hX
      by_cases h5 : 5 < x
      · have d5 : decide (5 < x) = true := by simp; omega
        go_wp2
        go_ret
        exact ⟨rbo (gB_no (fun g => by have := g.ts x HM.out; omega)).symm, (Below.refl _ _).alloc (Nat.le_refl _) _⟩
      · have d5 : decide (5 < x) = false := by simp; omega
        go_wp2
        go_round
        case rel => exact ⟨k + 1, by omega, by go_num, ⟨fun j hj => by
          by_cases e : j = k
          · subst e; rw [HX.out]; omega
          · exact HJ.out j (by omega)⟩⟩
        case measure => simp [intOf]; omega
    · have hkn : k = n := by omega
      subst hkn
      go_wp2
      go_ret
      exact ⟨rbo (gB_yes ⟨w1, w2, h1, h2, NN.out, fun x hx => by
        obtain ⟨j, hj, rfl⟩ := List.mem_iff_getElem.1 hx
        have := HJ.out j (by rw [← HH.out.len]; exact hj)
        simpa [List.getD, List.getElem?_eq_getElem hj] using this⟩).symm, (Below.refl _ _).alloc (Nat.le_refl _) _⟩
theorem rgr_bad (W H : Int) (a : Option Addr) (n c : Nat) (xs : List Int) (w : World) (g : ¬ GHd W H n) (hn : n ≤ 140737488355328) :
    Calls Tryd.prog 61 #[.agg #[.int .i64 W, .int .i64 H, .slice a n c]] w fun e w' => e = .returned (.bool (gB W H n xs)) ∧ Below w.heap.size w w' := by
  have NO := Hk.mk g
  have hno : ¬ GOk W H n xs := fun h => NO.out ⟨h.w1, h.w2, h.h1, h.h2, h.nn⟩
  have R := Hk.mk (gB_no hno)
  clear g hno
  by_cases c1 : W < 1
  · have b1 : decide (W < 1) = true := by simp; omega
    go_enter Tryd.func61, Tryd.ntmps61
    go_wp2
    go_ret
    exact ⟨rbo R.out.symm, (Below.refl _ _).alloc (Nat.le_refl _) _⟩
  have b1 : decide (W < 1) = false := by simp; omega
  by_cases c2 : 128 < W
  · have b2 : decide (128 < W) = true := by simp; omega
    go_enter Tryd.func61, Tryd.ntmps61
    go_wp2
    go_ret
    exact ⟨rbo R.out.symm, (Below.refl _ _).alloc (Nat.le_refl _) _⟩
  have b2 : decide (128 < W) = false := by simp; omega
  by_cases c3 : H < 1
  · have b3 : decide (H < 1) = true := by simp; omega
    go_enter Tryd.func61, Tryd.ntmps61
    go_wp2
    go_ret
    exact ⟨rbo R.out.symm, (Below.refl _ _).alloc (Nat.le_refl _) _⟩
  have b3 : decide (H < 1) = false := by simp; omega
  by_cases c4 : 128 < H
  · have b4 : decide (128 < H) = true := by simp; omega
    go_enter Tryd.func61, Tryd.ntmps61
    go_wp2
    go_ret
    exact ⟨rbo R.out.symm, (Below.refl _ _).alloc (Nat.le_refl _) _⟩
  have b4 : decide (128 < H) = false := by simp; omega
  obtain ⟨m1, m2⟩ := mul_bd (W := W) (H := H) (by omega) (by omega) (by omega) (by omega)
  have b5 : ((n : Int) != W * H) = true := by rw [bne_iff_ne]; exact fun e => NO.out ⟨by omega, by omega, by omega, by omega, e⟩
  go_enter Tryd.func61, Tryd.ntmps61
  go_wp2
  go_ret
  exact ⟨rbo R.out.symm, (Below.refl _ _).alloc (Nat.le_refl _) _⟩
theorem rgr_any (W H : Int) (a : Option Addr) (n c B : Nat) (xs : List Int) (w : World) (h : By w B a n xs) (hB : B ≤ w.heap.size) (hn : n ≤ 140737488355328) :
    Calls Tryd.prog 61 #[.agg #[.int .i64 W, .int .i64 H, .slice a n c]] w fun e w' => e = .returned (.bool (gB W H n xs)) ∧ Below w.heap.size w w' := by
  by_cases g : GHd W H n
  · exact rgr_hd W H a n c B xs w h hB g (by have := mul_bd g.w1 g.w2 g.h1 g.h2; have := g.nn; omega)
  · exact rgr_bad W H a n c xs w g hn
theorem check_as (e : Int) (W H : Int) (a : Option Addr) (n c B : Nat) (xs : List Int) (w : World) (h : By w B a n xs) (hB : B ≤ w.heap.size) (hn : n ≤ 140737488355328) (E : Hk (gE W H n xs = e)) :
    Calls Tryd.prog 15 #[.agg #[.int .i64 W, .int .i64 H, .slice a n c]] w fun e' w' => e' = .returned (.int .i64 e) ∧ Below w.heap.size w w' := by
  obtain ⟨rfl⟩ := E; exact check_any W H a n c B xs w h hB hn
theorem rgr_as (e : Bool) (W H : Int) (a : Option Addr) (n c B : Nat) (xs : List Int) (w : World) (h : By w B a n xs) (hB : B ≤ w.heap.size) (hn : n ≤ 140737488355328) (E : Hk (gB W H n xs = e)) :
    Calls Tryd.prog 61 #[.agg #[.int .i64 W, .int .i64 H, .slice a n c]] w fun e' w' => e' = .returned (.bool e) ∧ Below w.heap.size w w' := by
  obtain ⟨rfl⟩ := E; exact rgr_any W H a n c B xs w h hB hn
end Go.Proofs.YtjjodfdmbiebnaaDoor
