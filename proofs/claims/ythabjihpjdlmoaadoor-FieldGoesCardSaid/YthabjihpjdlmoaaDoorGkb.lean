import Derived.Test.YthabjihpjdlmoaaDoorGka
import Derived.IntWalk
/- Plain words of layer 6: grounds. -/
namespace Go.Proofs.YthabjihpjdlmoaaDoor
/-- May this be a ground? -/
def gB (W H : Int) (n : Nat) (xs : List Int) : Bool := decide (1 ≤ W ∧ W ≤ 128 ∧ 1 ≤ H ∧ H ≤ 128 ∧ (n : Int) = W * H ∧ ∀ x ∈ xs, x ≤ 5)
def gE (W H : Int) (n : Nat) (xs : List Int) : Int := if gB W H n xs = true then 0 else 1
structure GOk (W H : Int) (n : Nat) (xs : List Int) : Prop where
  w1 : 1 ≤ W
  w2 : W ≤ 128
  h1 : 1 ≤ H
  h2 : H ≤ 128
  nn : (n : Int) = W * H
  ts : ∀ x ∈ xs, x ≤ 5
theorem gB_iff {W H : Int} {n : Nat} {xs : List Int} : gB W H n xs = true ↔ GOk W H n xs := by
  unfold gB
  rw [decide_eq_true_iff]
  exact ⟨fun ⟨a, b, c, d, e, f⟩ => ⟨a, b, c, d, e, f⟩, fun ⟨a, b, c, d, e, f⟩ => ⟨a, b, c, d, e, f⟩⟩
theorem gE_yes {W H : Int} {n : Nat} {xs : List Int} (h : GOk W H n xs) : gE W H n xs = 0 := by unfold gE; rw [if_pos (gB_iff.2 h)]
theorem gE_no {W H : Int} {n : Nat} {xs : List Int} (h : ¬ GOk W H n xs) : gE W H n xs = 1 := by unfold gE; rw [if_neg (fun g => h (gB_iff.1 g))]
theorem gB_yes {W H : Int} {n : Nat} {xs : List Int} (h : GOk W H n xs) : gB W H n xs = true := gB_iff.2 h
theorem gB_no {W H : Int} {n : Nat} {xs : List Int} (h : ¬ GOk W H n xs) : gB W H n xs = false := by
  cases e : gB W H n xs
  · rfl
  · exact absurd (gB_iff.1 e) h
theorem mul_bd {W H : Int} (w1 : 1 ≤ W) (w2 : W ≤ 128) (h1 : 1 ≤ H) (h2 : H ≤ 128) : 1 ≤ W * H ∧ W * H ≤ 16384 := by
  have a := Int.mul_le_mul w2 h2 (by omega) (by omega)
  have b := Int.mul_le_mul w1 h1 (by omega) (by omega)
  omega
/-- What stands of a ground before its tiles are looked at. -/
structure GHd (W H : Int) (n : Nat) : Prop where
  w1 : 1 ≤ W
  w2 : W ≤ 128
  h1 : 1 ≤ H
  h2 : H ≤ 128
  nn : (n : Int) = W * H
end Go.Proofs.YthabjihpjdlmoaaDoor
/- The contracts of package ground: whether it may be; of the program and of the reference. -/
namespace Go.Proofs.YthabjihpjdlmoaaDoor
open Go.RowKit
set_option linter.unusedVariables false
def I64' (x : Int) : Prop := -9223372036854775808 ≤ x ∧ x ≤ 9223372036854775807
theorem check_hd (W H : Int) (a : Option Addr) (n c B : Nat) (xs : List Int) (w : World) (h : By w B a n xs) (hB : B ≤ w.heap.size) (g : GHd W H n) (hn : n ≤ 16384) :
    Calls Tryd.prog 128 #[.agg #[.int .i64 W, .int .i64 H, .slice a n c]] w fun e w' => e = .returned (.int .i64 (gE W H n xs)) ∧ Below w.heap.size w w' := by
  obtain ⟨w1, w2, h1, h2, nn⟩ := g
  obtain ⟨m1, m2⟩ := mul_bd w1 w2 h1 h2
  have b1 : decide (W < 1) = false := by simp; omega
  have b2 : decide (128 < W) = false := by simp; omega
  have b3 : decide (H < 1) = false := by simp; omega
  have b4 : decide (128 < H) = false := by simp; omega
  have b5 : ((n : Int) != W * H) = false := by rw [bne_eq_false_iff_eq]; exact nn
  have NN := Hk.mk nn
  have HH := Hk.mk (h.alloc hB (.cells #[.int .i64 W, .int .i64 H, .slice a n c] 24))
  clear nn h
  go_enter Tryd.func128, Tryd.ntmps128
  go_wp2
  go_loop [37] (fun i => ∃ k : Nat, k ≤ n ∧ i = .int .i64 k ∧ Hk (∀ j, j < k → xs.getD j 0 ≤ 5)) (fun i => n - (intOf i).toNat)
  case atStart => exact ⟨0, Nat.zero_le _, rfl, ⟨fun j hj => absurd hj (by omega)⟩⟩
  case round =>
    obtain ⟨k, hk, rfl, HJ⟩ := hrel
    by_cases hlt : k < n
    · obtain ⟨b, off, rfl, hbl, hc⟩ := HH.out.at_ (by omega)
      have hcx := hc k hlt
      have hx := HH.out.bd hlt
      have hmem : xs.getD k 0 ∈ xs := getD_mem (by rw [HH.out.len]; exact hlt)
      have HM := Hk.mk hmem
      clear hc hmem
      generalize hX : xs.getD k 0 = x at *
      have HX := Hk.mk hX
      clear hX
      by_cases h5 : 5 < x
      · have d5 : decide (5 < x) = true := by simp; omega
        go_wp2
        go_ret
        exact ⟨ri (gE_no (fun g => by have := g.ts x HM.out; omega)).symm, (Below.refl _ _).alloc (Nat.le_refl _) _⟩
      · have d5 : decide (5 < x) = false := by simp; omega
        go_wp2
        go_round
        case rel => exact ⟨k + 1, by omega, by go_num, ⟨fun j hj => by
          by_cases e : j = k
          · subst e; rw [HX.out]; omega
          · exact HJ.out j (by omega)⟩⟩
        case measure => simp [intOf]; omega
    · have hkn : k = n := by omega
      subst hkn
      go_wp2
      go_ret
      exact ⟨ri (gE_yes ⟨w1, w2, h1, h2, NN.out, fun x hx => by
        obtain ⟨j, hj, rfl⟩ := List.mem_iff_getElem.1 hx
        have := HJ.out j (by rw [← HH.out.len]; exact hj)
        simpa [List.getD, List.getElem?_eq_getElem hj] using this⟩).symm, (Below.refl _ _).alloc (Nat.le_refl _) _⟩
theorem check_bad (W H : Int) (a : Option Addr) (n c : Nat) (xs : List Int) (w : World) (g : ¬ GHd W H n) (hn : n ≤ 140737488355328) :
    Calls Tryd.prog 128 #[.agg #[.int .i64 W, .int .i64 H, .slice a n c]] w fun e w' => e = .returned (.int .i64 (gE W H n xs)) ∧ Below w.heap.size w w' := by
  have NO := Hk.mk g
  have hno : ¬ GOk W H n xs := fun h => NO.out ⟨h.w1, h.w2, h.h1, h.h2, h.nn⟩
  have R := Hk.mk (gE_no hno)
  clear g hno
  by_cases c1 : W < 1
  · have b1 : decide (W < 1) = true := by simp; omega
    go_enter Tryd.func128, Tryd.ntmps128
    go_wp2
    go_ret
    exact ⟨ri R.out.symm, (Below.refl _ _).alloc (Nat.le_refl _) _⟩
  have b1 : decide (W < 1) = false := by simp; omega
  by_cases c2 : 128 < W
  · have b2 : decide (128 < W) = true := by simp; omega
    go_enter Tryd.func128, Tryd.ntmps128
    go_wp2
    go_ret
    exact ⟨ri R.out.symm, (Below.refl _ _).alloc (Nat.le_refl _) _⟩
  have b2 : decide (128 < W) = false := by simp; omega
  by_cases c3 : H < 1
  · have b3 : decide (H < 1) = true := by simp; omega
    go_enter Tryd.func128, Tryd.ntmps128
    go_wp2
    go_ret
    exact ⟨ri R.out.symm, (Below.refl _ _).alloc (Nat.le_refl _) _⟩
  have b3 : decide (H < 1) = false := by simp; omega
  by_cases c4 : 128 < H
  · have b4 : decide (128 < H) = true := by simp; omega
    go_enter Tryd.func128, Tryd.ntmps128
    go_wp2
    go_ret
    exact ⟨ri R.out.symm, (Below.refl _ _).alloc (Nat.le_refl _) _⟩
  have b4 : decide (128 < H) = false := by simp; omega
  obtain ⟨m1, m2⟩ := mul_bd (W := W) (H := H) (by omega) (by omega) (by omega) (by omega)
  have b5 : ((n : Int) != W * H) = true := by rw [bne_iff_ne]; exact fun e => NO.out ⟨by omega, by omega, by omega, by omega, e⟩
  go_enter Tryd.func128, Tryd.ntmps128
  go_wp2
  go_ret
  exact ⟨ri R.out.symm, (Below.refl _ _).alloc (Nat.le_refl _) _⟩
theorem check_any (W H : Int) (a : Option Addr) (n c B : Nat) (xs : List Int) (w : World) (h : By w B a n xs) (hB : B ≤ w.heap.size) (hn : n ≤ 140737488355328) :
    Calls Tryd.prog 128 #[.agg #[.int .i64 W, .int .i64 H, .slice a n c]] w fun e w' => e = .returned (.int .i64 (gE W H n xs)) ∧ Below w.heap.size w w' := by
  by_cases g : GHd W H n
  · exact check_hd W H a n c B xs w h hB g (by have := mul_bd g.w1 g.w2 g.h1 g.h2; have := g.nn; omega)
  · exact check_bad W H a n c xs w g hn
theorem rbo {a b : Bool} (h : a = b) : Ending.returned (.bool a) = .returned (.bool b) := by rw [h]
theorem rgr_hd (W H : Int) (a : Option Addr) (n c B : Nat) (xs : List Int) (w : World) (h : By w B a n xs) (hB : B ≤ w.heap.size) (g : GHd W H n) (hn : n ≤ 16384) :
    Calls Tryd.prog 83 #[.agg #[.int .i64 W, .int .i64 H, .slice a n c]] w fun e w' => e = .returned (.bool (gB W H n xs)) ∧ Below w.heap.size w w' := by
  obtain ⟨w1, w2, h1, h2, nn⟩ := g
  obtain ⟨m1, m2⟩ := mul_bd w1 w2 h1 h2
  have b1 : decide (W < 1) = false := by simp; omega
  have b2 : decide (128 < W) = false := by simp; omega
  have b3 : decide (H < 1) = false := by simp; omega
  have b4 : decide (128 < H) = false := by simp; omega
  have b5 : ((n : Int) != W * H) = false := by rw [bne_eq_false_iff_eq]; exact nn
  have NN := Hk.mk nn
  have HH := Hk.mk (h.alloc hB (.cells #[.int .i64 W, .int .i64 H, .slice a n c] 24))
  clear nn h
  go_enter Tryd.func83, Tryd.ntmps83
  go_wp2
  go_loop [3] (fun i => ∃ k : Nat, k ≤ n ∧ i = .int .i64 k ∧ Hk (∀ j, j < k → xs.getD j 0 ≤ 5)) (fun i => n - (intOf i).toNat)
  case atStart => exact ⟨0, Nat.zero_le _, rfl, ⟨fun j hj => absurd hj (by omega)⟩⟩
  case round =>
    obtain ⟨k, hk, rfl, HJ⟩ := hrel
    by_cases hlt : k < n
    · obtain ⟨b, off, rfl, hbl, hc⟩ := HH.out.at_ (by omega)
      have hcx := hc k hlt
      have hx := HH.out.bd hlt
      have hmem : xs.getD k 0 ∈ xs := getD_mem (by rw [HH.out.len]; exact hlt)
      have HM := Hk.mk hmem
      clear hc hmem
      generalize hX : xs.getD k 0 = x at *
      have HX := Hk.mk hX
      clear hX
      by_cases h5 : 5 < x
      · have d5 : decide (5 < x) = true := by simp; omega
        go_wp2
        go_ret
        exact ⟨rbo (gB_no (fun g => by have := g.ts x HM.out; omega)).symm, (Below.refl _ _).alloc (Nat.le_refl _) _⟩
      · have d5 : decide (5 < x) = false := by simp; omega
        go_wp2
        go_round
        case rel => exact ⟨k + 1, by omega, by go_num, ⟨fun j hj => by
          by_cases e : j = k
          · subst e; rw [HX.out]; omega
          · exact HJ.out j (by omega)⟩⟩
        case measure => simp [intOf]; omega
    · have hkn : k = n := by omega
      subst hkn
      go_wp2
      go_ret
      exact ⟨rbo (gB_yes ⟨w1, w2, h1, h2, NN.out, fun x hx => by
        obtain ⟨j, hj, rfl⟩ := List.mem_iff_getElem.1 hx
        have := HJ.out j (by rw [← HH.out.len]; exact hj)
        simpa [List.getD, List.getElem?_eq_getElem hj] using this⟩).symm, (Below.refl _ _).alloc (Nat.le_refl _) _⟩
theorem rgr_bad (W H : Int) (a : Option Addr) (n c : Nat) (xs : List Int) (w : World) (g : ¬ GHd W H n) (hn : n ≤ 140737488355328) :
    Calls Tryd.prog 83 #[.agg #[.int .i64 W, .int .i64 H, .slice a n c]] w fun e w' => e = .returned (.bool (gB W H n xs)) ∧ Below w.heap.size w w' := by
  have NO := Hk.mk g
  have hno : ¬ GOk W H n xs := fun h => NO.out ⟨h.w1, h.w2, h.h1, h.h2, h.nn⟩
  have R := Hk.mk (gB_no hno)
  clear g hno
  by_cases c1 : W < 1
  · have b1 : decide (W < 1) = true := by simp; omega
    go_enter Tryd.func83, Tryd.ntmps83
    go_wp2
    go_ret
    exact ⟨rbo R.out.symm, (Below.refl _ _).alloc (Nat.le_refl _) _⟩
  have b1 : decide (W < 1) = false := by simp; omega
  by_cases c2 : 128 < W
  · have b2 : decide (128 < W) = true := by simp; omega
    go_enter Tryd.func83, Tryd.ntmps83
    go_wp2
    go_ret
    exact ⟨rbo R.out.symm, (Below.refl _ _).alloc (Nat.le_refl _) _⟩
  have b2 : decide (128 < W) = false := by simp; omega
  by_cases c3 : H < 1
  · have b3 : decide (H < 1) = true := by simp; omega
    go_enter Tryd.func83, Tryd.ntmps83
    go_wp2
    go_ret
    exact ⟨rbo R.out.symm, (Below.refl _ _).alloc (Nat.le_refl _) _⟩
  have b3 : decide (H < 1) = false := by simp; omega
  by_cases c4 : 128 < H
  · have b4 : decide (128 < H) = true := by simp; omega
    go_enter Tryd.func83, Tryd.ntmps83
    go_wp2
    go_ret
    exact ⟨rbo R.out.symm, (Below.refl _ _).alloc (Nat.le_refl _) _⟩
  have b4 : decide (128 < H) = false := by simp; omega
  obtain ⟨m1, m2⟩ := mul_bd (W := W) (H := H) (by omega) (by omega) (by omega) (by omega)
  have b5 : ((n : Int) != W * H) = true := by rw [bne_iff_ne]; exact fun e => NO.out ⟨by omega, by omega, by omega, by omega, e⟩
  go_enter Tryd.func83, Tryd.ntmps83
  go_wp2
  go_ret
  exact ⟨rbo R.out.symm, (Below.refl _ _).alloc (Nat.le_refl _) _⟩
theorem rgr_any (W H : Int) (a : Option Addr) (n c B : Nat) (xs : List Int) (w : World) (h : By w B a n xs) (hB : B ≤ w.heap.size) (hn : n ≤ 140737488355328) :
    Calls Tryd.prog 83 #[.agg #[.int .i64 W, .int .i64 H, .slice a n c]] w fun e w' => e = .returned (.bool (gB W H n xs)) ∧ Below w.heap.size w w' := by
  by_cases g : GHd W H n
  · exact rgr_hd W H a n c B xs w h hB g (by have := mul_bd g.w1 g.w2 g.h1 g.h2; have := g.nn; omega)
  · exact rgr_bad W H a n c xs w g hn
theorem check_as (e : Int) (W H : Int) (a : Option Addr) (n c B : Nat) (xs : List Int) (w : World) (h : By w B a n xs) (hB : B ≤ w.heap.size) (hn : n ≤ 140737488355328) (E : Hk (gE W H n xs = e)) :
    Calls Tryd.prog 128 #[.agg #[.int .i64 W, .int .i64 H, .slice a n c]] w fun e' w' => e' = .returned (.int .i64 e) ∧ Below w.heap.size w w' := by
  obtain ⟨rfl⟩ := E; exact check_any W H a n c B xs w h hB hn
theorem rgr_as (e : Bool) (W H : Int) (a : Option Addr) (n c B : Nat) (xs : List Int) (w : World) (h : By w B a n xs) (hB : B ≤ w.heap.size) (hn : n ≤ 140737488355328) (E : Hk (gB W H n xs = e)) :
    Calls Tryd.prog 83 #[.agg #[.int .i64 W, .int .i64 H, .slice a n c]] w fun e' w' => e' = .returned (.bool e) ∧ Below w.heap.size w w' := by
  obtain ⟨rfl⟩ := E; exact rgr_any W H a n c B xs w h hB hn
end Go.Proofs.YthabjihpjdlmoaaDoor
/- Layer 6: whether a number is a tile's. -/
namespace Go.Proofs.YthabjihpjdlmoaaDoor
open Go.RowKit
set_option linter.unusedVariables false
theorem bcellg {W w1 : World} (hb : Below W.heap.size W w1) : (∀ b o, b < W.heap.size → w1.cell? ⟨b, o, none⟩ = W.cell? ⟨b, o, none⟩) ∧ (∀ b o, b < W.heap.size → w1.frozen? ⟨b, o, none⟩ = W.frozen? ⟨b, o, none⟩) :=
  ⟨fun b o h => hb.cell (p := ⟨b, o, none⟩) h, fun b o h => hb.frozen (p := ⟨b, o, none⟩) h⟩
def ctE (W H : Int) (n : Nat) (xs : List Int) (t : Int) : Int := if gB W H n xs = true then (if 0 ≤ t ∧ t < W * H then 0 else 3) else 1
theorem ctE_yes {W H t : Int} {n : Nat} {xs : List Int} (g : GOk W H n xs) (h0 : 0 ≤ t) (h1 : t < W * H) : ctE W H n xs t = 0 := by unfold ctE; rw [if_pos (gB_yes g), if_pos ⟨h0, h1⟩]
theorem ctE_none {W H t : Int} {n : Nat} {xs : List Int} (g : GOk W H n xs) (h : ¬ (0 ≤ t ∧ t < W * H)) : ctE W H n xs t = 3 := by unfold ctE; rw [if_pos (gB_yes g), if_neg h]
theorem ctE_form {W H t : Int} {n : Nat} {xs : List Int} (g : ¬ GOk W H n xs) : ctE W H n xs t = 1 := by unfold ctE; rw [if_neg (by rw [gB_no g]; decide)]
end Go.Proofs.YthabjihpjdlmoaaDoor
/- Layer 6: places of tiles. -/
namespace Go.Proofs.YthabjihpjdlmoaaDoor
open Go.RowKit
set_option linter.unusedVariables false
end Go.Proofs.YthabjihpjdlmoaaDoor
/- Layer 6: tiles of places. -/
namespace Go.Proofs.YthabjihpjdlmoaaDoor
open Go.RowKit
set_option linter.unusedVariables false
theorem rtile_any (t W H : Int) (s : Value) (w : World) (w1 : 1 ≤ W) (w2 : W ≤ 128) (h1 : 1 ≤ H) (h2 : H ≤ 128) :
    Calls Tryd.prog 25 #[.agg #[.int .i64 W, .int .i64 H, s], .int .i64 t] w fun e' w' => e' = .returned (.bool (decide (0 ≤ t ∧ t < W * H))) ∧ Below w.heap.size w w' := by
  obtain ⟨m1, m2⟩ := mul_bd w1 w2 h1 h2
  by_cases t0 : 0 ≤ t
  · have b1 : decide (0 ≤ t) = true := by simp; omega
    by_cases t1 : t < W * H
    · have b2 : decide (t < W * H) = true := by simp; omega
      go_enter Tryd.func25, Tryd.ntmps25
      go_wp2
      go_ret
      exact ⟨rbo (by first | (simp; omega) | (simp; done)), (Below.refl _ _).alloc (Nat.le_refl _) _⟩
    · have b2 : decide (t < W * H) = false := by simp; omega
      go_enter Tryd.func25, Tryd.ntmps25
      go_wp2
      go_ret
      exact ⟨rbo (by first | (simp; omega) | (simp; done)), (Below.refl _ _).alloc (Nat.le_refl _) _⟩
  · have b1 : decide (0 ≤ t) = false := by simp; omega
    go_enter Tryd.func25, Tryd.ntmps25
    go_wp2
    go_ret
    exact ⟨rbo (by first | (simp; omega) | (simp; done)), (Below.refl _ _).alloc (Nat.le_refl _) _⟩
end Go.Proofs.YthabjihpjdlmoaaDoor
/- Layer 6: centres of tiles. -/
namespace Go.Proofs.YthabjihpjdlmoaaDoor
open Go.RowKit
set_option linter.unusedVariables false
theorem wr_in {x : Int} (h : -9223372036854775808 ≤ x ∧ x ≤ 9223372036854775807) : IntKind.i64.wrap x = x := IntWalk.i64_in _ ⟨h.1, h.2⟩
set_option maxHeartbeats 800000 in
theorem rcenter_any (W H t : Int) (s : Value) (w : World) (w1 : 1 ≤ W) (w2 : W ≤ 128) (t0 : 0 ≤ t) (t1 : t ≤ 16384) :
    Calls Tryd.prog 51 #[.agg #[.int .i64 W, .int .i64 H, s], .int .i64 t] w fun e' w' => e' = .returned (.agg #[.int .i64 (t % W * 65536 + 32768), .int .i64 (t / W * 65536 + 32768)]) ∧ Below w.heap.size w w' := by
  have q1 : 0 ≤ t % W := Int.emod_nonneg _ (by omega)
  have q2 : t % W < W := Int.emod_lt_of_pos _ (by omega)
  have q3 : 0 ≤ t / W := Int.ediv_nonneg t0 (by omega)
  have q4 : t / W ≤ t := Int.ediv_le_self _ t0
  have r1 : t.tmod W = t % W := Int.tmod_eq_emod_of_nonneg t0
  have r2 : t.tdiv W = t / W := Int.tdiv_eq_ediv_of_nonneg t0
  have w0 : ¬ W = 0 := by omega
  have e1 : IntKind.i64.wrap (t % W * 65536) = t % W * 65536 := wr_in (by omega)
  have e2 : IntKind.i64.wrap (t % W * 65536 + 32768) = t % W * 65536 + 32768 := wr_in (by omega)
  have e3 : IntKind.i64.wrap (t / W) = t / W := wr_in (by omega)
  have e4 : IntKind.i64.wrap (t / W * 65536) = t / W * 65536 := wr_in (by omega)
  have e5 : IntKind.i64.wrap (t / W * 65536 + 32768) = t / W * 65536 + 32768 := wr_in (by omega)
  go_enter Tryd.func51, Tryd.ntmps51
  go_wp2
  go_region_held3 (fun w' => w'.cell? ⟨w.heap.size, 0, none⟩ = some (.int .i64 W)) (go_keep) (fail)
  all_goals
    go_wp2
    refine bodyPost_ret (v := .agg #[.int .i64 (t % W * 65536 + 32768), .int .i64 (t / W * 65536 + 32768)]) (by simp [results, Tryd.results51, go_sem]) rfl ⟨rfl, ?_⟩
    exact (((Below.refl _ _).alloc (Nat.le_refl _) _).alloc (by simp <;> omega) _).drew
end Go.Proofs.YthabjihpjdlmoaaDoor
