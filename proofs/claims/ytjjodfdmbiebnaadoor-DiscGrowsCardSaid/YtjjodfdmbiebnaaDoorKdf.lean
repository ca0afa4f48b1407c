import Derived.IntWalk
import Derived.Test.YtjjodfdmbiebnaaDoorKdb
import Derived.WalkKit
import Derived.Below
import Derived.Test.YtjjodfdmbiebnaaDoorProg
import Derived.Test.YtjjodfdmbiebnaaDoorKde
import Derived.ProofKit
import Derived.OpenShut
import Derived.ShutString
import Derived.ChangeOld
import Derived.Deep.Slices
import Derived.Deep.Fields
import Derived.ChangeSame
import Derived.Test.YtjjodfdmbiebnaaDoorRows
import Derived.Test.YtjjodfdmbiebnaaDoorChecked
/- The contracts of package ground: whether it may be; of the program and of the reference. -/
namespace Go.Proofs.YtjjodfdmbiebnaaDoor
open Go.RowKit
set_option linter.unusedVariables false
def I64' (x : Int) : Prop := -9223372036854775808 ≤ x ∧ x ≤ 9223372036854775807
theorem check_hd (W H : Int) (a : Option Addr) (n c B : Nat) (xs : List Int) (w : World) (h : By w B a n xs) (hB : B ≤ w.heap.size) (g : GHd W H n) (hn : n ≤ 16384) :
    Calls Tryd.prog 15 #[.agg #[.int .i64 W, .int .i64 H, .slice a n c]] w fun e w' => e = .returned (.int .i64 (gE W H n xs)) ∧ Below w.heap.size w w' := by
  obtain ⟨w1, w2, h1, h2, nn⟩ := g
  obtain ⟨m1, m2⟩ := mul_bd w1 w2 h1 h2
  have b1 : decide (W < 1) = false := by simp; omega
  have b2 : decide (128 < W) = false := by simp; omega
  have b3 : decide (H < 1) = false := by simp; omega
  have b4 : decide (128 < H) = false := by simp; omega
  have b5 : ((n : Int) != W * H) = false := by rw [bne_eq_false_iff_eq]; exact nn
  have NN := Hk.mk nn
  have HH := Hk.mk (h.alloc hB (.cells #[.int .i64 W, .int .i64 H, .slice a n c] 24))
  clear nn h
  go_enter Tryd.func15, Tryd.ntmps15
  go_wp2
  go_loop [37] (fun i => ∃ k : Nat, k ≤ n ∧ i = .int .i64 k ∧ Hk (∀ j, j < k → xs.getD j 0 ≤ 5)) (fun i => n - (intOf i).toNat)
  case atStart => exact ⟨0, Nat.zero_le _, rfl, ⟨fun j hj => absurd hj (by omega)⟩⟩
  case round =>
    obtain ⟨k, hk, rfl, HJ⟩ := hrel
    by_cases hlt : k < n
    · obtain ⟨b, off, rfl, hbl, hc⟩ := HH.out.at_ (by omega)
      have hcx := hc k hlt
      have hx := HH.out.bd hlt
      have hmem : xs.getD k 0 ∈ xs := getD_mem (by rw [HH.out.len]; exact hlt)
      have HM := Hk.mk hmem
      clear hc hmem
      generalize hX : xs.getD k 0 = x at *
      have HX := Hk.mk hX
      clear hX
      by_cases h5 : 5 < x
      · have d5 : decide (5 < x) = true := by simp; omega
        go_wp2
        go_ret
        exact ⟨ri (gE_no (fun g => by have := g.ts x HM.out; omega)).symm, (Below.refl _ _).alloc (Nat.le_refl _) _⟩
      · have d5 : decide (5 < x) = false := by simp; omega
        go_wp2
        go_round
        case rel => exact ⟨k + 1, by omega, by go_num, ⟨fun j hj => by
          by_cases e : j = k
          · subst e; rw [HX.out]; omega
          · exact HJ.out j (by omega)⟩⟩
        case measure => simp [intOf]; omega
    · have hkn : k = n := by omega
      subst hkn
      go_wp2
      go_ret
      exact ⟨ri (gE_yes ⟨w1, w2, h1, h2, NN.out, fun x hx => by
        obtain ⟨j, hj, rfl⟩ := List.mem_iff_getElem.1 hx
        have := HJ.out j (by rw [← HH.out.len]; exact hj)
        simpa [List.getD, List.getElem?_eq_getElem hj] using this⟩).symm, (Below.refl _ _).alloc (Nat.le_refl _) _⟩
theorem check_bad (W H : Int) (a : Option Addr) (n c : Nat) (xs : List Int) (w : World) (g : ¬ GHd W H n) (hn : n ≤ 140737488355328) :
    Calls Tryd.prog 15 #[.agg #[.int .i64 W, .int .i64 H, .slice a n c]] w fun e w' => e = .returned (.int .i64 (gE W H n xs)) ∧ Below w.heap.size w w' := by
  have NO := Hk.mk g
  have hno : ¬ GOk W H n xs := fun h => NO.out ⟨h.w1, h.w2, h.h1, h.h2, h.nn⟩
  have R := Hk.mk (gE_no hno)
  clear g hno
  by_cases c1 : W < 1
  · have b1 : decide (W < 1) = true := by simp; omega
    go_enter Tryd.func15, Tryd.ntmps15
    go_wp2
    go_ret
    exact ⟨ri R.out.symm, (Below.refl _ _).alloc (Nat.le_refl _) _⟩
  have b1 : decide (W < 1) = false := by simp; omega
  by_cases c2 : 128 < W
  · have b2 : decide (128 < W) = true := by simp; omega
    go_enter Tryd.func15, Tryd.ntmps15
    go_wp2
    go_ret
    exact ⟨ri R.out.symm, (Below.refl _ _).alloc (Nat.le_refl _) _⟩
  have b2 : decide (128 < W) = false := by simp; omega
  by_cases c3 : H < 1
  · have b3 : decide (H < 1) = true := by simp; omega
    go_enter Tryd.func15, Tryd.ntmps15
    go_wp2
    go_ret
    exact ⟨ri R.out.symm, (Below.refl _ _).alloc (Nat.le_refl _) _⟩
  have b3 : decide (H < 1) = false := by simp; omega
  by_cases c4 : 128 < H
  · have b4 : decide (128 < H) = true := by simp; omega
    go_enter Tryd.func15, Tryd.ntmps15
    go_wp2
    go_ret
    exact ⟨ri R.out.symm, (Below.refl _ _).alloc (Nat.le_refl _) _⟩
  have b4 : decide (128 < H) = false := by simp; omega
  obtain ⟨m1, m2⟩ := mul_bd (W := W) (H := H) (by omega) (by omega) (by omega) (by omega)
  have b5 : ((n : Int) != W * H) = true := by rw [bne_iff_ne]; exact fun e => NO.out ⟨by omega, by omega, by omega, by omega, e⟩
  go_enter Tryd.func15, Tryd.ntmps15
  go_wp2
  go_ret
  exact ⟨ri R.out.symm, (Below.refl _ _).alloc (Nat.le_refl _) _⟩
theorem check_any (W H : Int) (a : Option Addr) (n c B : Nat) (xs : List Int) (w : World) (h : By w B a n xs) (hB : B ≤ w.heap.size) (hn : n ≤ 140737488355328) :
    Calls Tryd.prog 15 #[.agg #[.int .i64 W, .int .i64 H, .slice a n c]] w fun e w' => e = .returned (.int .i64 (gE W H n xs)) ∧ Below w.heap.size w w' := by
  by_cases g : GHd W H n
  · exact check_hd W H a n c B xs w h hB g (by have := mul_bd g.w1 g.w2 g.h1 g.h2; have := g.nn; omega)
  · exact check_bad W H a n c xs w g hn
theorem rbo {a b : Bool} (h : a = b) : Ending.returned (.bool a) = .returned (.bool b) := by rw [h]
theorem rgr_hd (W H : Int) (a : Option Addr) (n c B : Nat) (xs : List Int) (w : World) (h : By w B a n xs) (hB : B ≤ w.heap.size) (g : GHd W H n) (hn : n ≤ 16384) :
    Calls Tryd.prog 61 #[.agg #[.int .i64 W, .int .i64 H, .slice a n c]] w fun e w' => e = .returned (.bool (gB W H n xs)) ∧ Below w.heap.size w w' := by
  obtain ⟨w1, w2, h1, h2, nn⟩ := g
  obtain ⟨m1, m2⟩ := mul_bd w1 w2 h1 h2
  have b1 : decide (W < 1) = false := by simp; omega
  have b2 : decide (128 < W) = false := by simp; omega
  have b3 : decide (H < 1) = false := by simp; omega
  have b4 : decide (128 < H) = false := by simp; omega
  have b5 : ((n : Int) != W * H) = false := by rw [bne_eq_false_iff_eq]; exact nn
  have NN := Hk.mk nn
  have HH := Hk.mk (h.alloc hB (.cells #[.int .i64 W, .int .i64 H, .slice a n c] 24))
  clear nn h
  go_enter Tryd.func61, Tryd.ntmps61
  go_wp2
  go_loop [3] (fun i => ∃ k : Nat, k ≤ n ∧ i = .int .i64 k ∧ Hk (∀ j, j < k → xs.getD j 0 ≤ 5)) (fun i => n - (intOf i).toNat)
  case atStart => exact ⟨0, Nat.zero_le _, rfl, ⟨fun j hj => absurd hj (by omega)⟩⟩
  case round =>
    obtain ⟨k, hk, rfl, HJ⟩ := hrel
    by_cases hlt : k < n
    · obtain ⟨b, off, rfl, hbl, hc⟩ := HH.out.at_ (by omega)
      have hcx := hc k hlt
      have hx := HH.out.bd hlt
      have hmem : xs.getD k 0 ∈ xs := getD_mem (by rw [HH.out.len]; exact hlt)
      have HM := Hk.mk hmem
      clear hc hmem
      generalize hX : xs.getD k 0 = x at *
      have HX := Hk.mk hX
      clear hX
      by_cases h5 : 5 < x
      · have d5 : decide (5 < x) = true := by simp; omega
        go_wp2
        go_ret
        exact ⟨rbo (gB_no (fun g => by have := g.ts x HM.out; omega)).symm, (Below.refl _ _).alloc (Nat.le_refl _) _⟩
      · have d5 : decide (5 < x) = false := by simp; omega
        go_wp2
        go_round
        case rel => exact ⟨k + 1, by omega, by go_num, ⟨fun j hj => by
          by_cases e : j = k
          · subst e; rw [HX.out]; omega
          · exact HJ.out j (by omega)⟩⟩
        case measure => simp [intOf]; omega
    · have hkn : k = n := by omega
      subst hkn
      go_wp2
      go_ret
      exact ⟨rbo (gB_yes ⟨w1, w2, h1, h2, NN.out, fun x hx => by
        obtain ⟨j, hj, rfl⟩ := List.mem_iff_getElem.1 hx
        have := HJ.out j (by rw [← HH.out.len]; exact hj)
        simpa [List.getD, List.getElem?_eq_getElem hj] using this⟩).symm, (Below.refl _ _).alloc (Nat.le_refl _) _⟩
theorem rgr_bad (W H : Int) (a : Option Addr) (n c : Nat) (xs : List Int) (w : World) (g : ¬ GHd W H n) (hn : n ≤ 140737488355328) :
    Calls Tryd.prog 61 #[.agg #[.int .i64 W, .int .i64 H, .slice a n c]] w fun e w' => e = .returned (.bool (gB W H n xs)) ∧ Below w.heap.size w w' := by
  have NO := Hk.mk g
  have hno : ¬ GOk W H n xs := fun h => NO.out ⟨h.w1, h.w2, h.h1, h.h2, h.nn⟩
  have R := Hk.mk (gB_no hno)
  clear g hno
  by_cases c1 : W < 1
  · have b1 : decide (W < 1) = true := by simp; omega
    go_enter Tryd.func61, Tryd.ntmps61
    go_wp2
    go_ret
    exact ⟨rbo R.out.symm, (Below.refl _ _).alloc (Nat.le_refl _) _⟩
  have b1 : decide (W < 1) = false := by simp; omega
  by_cases c2 : 128 < W
  · have b2 : decide (128 < W) = true := by simp; omega
    go_enter Tryd.func61, Tryd.ntmps61
    go_wp2
    go_ret
    exact ⟨rbo R.out.symm, (Below.refl _ _).alloc (Nat.le_refl _) _⟩
  have b2 : decide (128 < W) = false := by simp; omega
  by_cases c3 : H < 1
  · have b3 : decide (H < 1) = true := by simp; omega
    go_enter Tryd.func61, Tryd.ntmps61
    go_wp2
    go_ret
    exact ⟨rbo R.out.symm, (Below.refl _ _).alloc (Nat.le_refl _) _⟩
  have b3 : decide (H < 1) = false := by simp; omega
  by_cases c4 : 128 < H
  · have b4 : decide (128 < H) = true := by simp; omega
    go_enter Tryd.func61, Tryd.ntmps61
    go_wp2
    go_ret
    exact ⟨rbo R.out.symm, (Below.refl _ _).alloc (Nat.le_refl _) _⟩
  have b4 : decide (128 < H) = false := by simp; omega
  obtain ⟨m1, m2⟩ := mul_bd (W := W) (H := H) (by omega) (by omega) (by omega) (by omega)
  have b5 : ((n : Int) != W * H) = true := by rw [bne_iff_ne]; exact fun e => NO.out ⟨by omega, by omega, by omega, by omega, e⟩
  go_enter Tryd.func61, Tryd.ntmps61
  go_wp2
  go_ret
  exact ⟨rbo R.out.symm, (Below.refl _ _).alloc (Nat.le_refl _) _⟩
theorem rgr_any (W H : Int) (a : Option Addr) (n c B : Nat) (xs : List Int) (w : World) (h : By w B a n xs) (hB : B ≤ w.heap.size) (hn : n ≤ 140737488355328) :
    Calls Tryd.prog 61 #[.agg #[.int .i64 W, .int .i64 H, .slice a n c]] w fun e w' => e = .returned (.bool (gB W H n xs)) ∧ Below w.heap.size w w' := by
  by_cases g : GHd W H n
  · exact rgr_hd W H a n c B xs w h hB g (by have := mul_bd g.w1 g.w2 g.h1 g.h2; have := g.nn; omega)
  · exact rgr_bad W H a n c xs w g hn
theorem check_as (e : Int) (W H : Int) (a : Option Addr) (n c B : Nat) (xs : List Int) (w : World) (h : By w B a n xs) (hB : B ≤ w.heap.size) (hn : n ≤ 140737488355328) (E : Hk (gE W H n xs = e)) :
    Calls Tryd.prog 15 #[.agg #[.int .i64 W, .int .i64 H, .slice a n c]] w fun e' w' => e' = .returned (.int .i64 e) ∧ Below w.heap.size w w' := by
  obtain ⟨rfl⟩ := E; exact check_any W H a n c B xs w h hB hn
theorem rgr_as (e : Bool) (W H : Int) (a : Option Addr) (n c B : Nat) (xs : List Int) (w : World) (h : By w B a n xs) (hB : B ≤ w.heap.size) (hn : n ≤ 140737488355328) (E : Hk (gB W H n xs = e)) :
    Calls Tryd.prog 61 #[.agg #[.int .i64 W, .int .i64 H, .slice a n c]] w fun e' w' => e' = .returned (.bool e) ∧ Below w.heap.size w w' := by
  obtain ⟨rfl⟩ := E; exact rgr_any W H a n c B xs w h hB hn
end Go.Proofs.YtjjodfdmbiebnaaDoor
/- A call that makes memory leaves cells, wherever they lie, as they were. -/
namespace Go.Proofs.YtjjodfdmbiebnaaDoor
open Go.RowKit
set_option linter.unusedVariables false
theorem hold1 {P : Program} {F : FuncId} {args : Array Value} {w w0 : World} {r : Ending} {B b1 o1 : Nat} {x1 : Value} (h : Calls P F args w fun e w' => e = r ∧ Below w.heap.size w w')
    (hB : Below B w0 w) (hs : B ≤ w.heap.size) (d1 : w.cell? ⟨b1, o1, none⟩ = some x1) :
    Calls P F args w fun e w' => e = r ∧ w'.cell? ⟨b1, o1, none⟩ = some x1 ∧ Below B w0 w' :=
  h.mono fun e w' ⟨h1, h2⟩ => ⟨h1, (h2.cell (p := ⟨b1, o1, none⟩) (World.block_lt_of_cell? _ _ d1)).trans d1, hB.trans (h2.mono hs)⟩
theorem hold2 {P : Program} {F : FuncId} {args : Array Value} {w w0 : World} {r : Ending} {B b1 o1 b2 o2 : Nat} {x1 x2 : Value} (h : Calls P F args w fun e w' => e = r ∧ Below w.heap.size w w')
    (hB : Below B w0 w) (hs : B ≤ w.heap.size) (d1 : w.cell? ⟨b1, o1, none⟩ = some x1) (d2 : w.cell? ⟨b2, o2, none⟩ = some x2) :
    Calls P F args w fun e w' => e = r ∧ w'.cell? ⟨b1, o1, none⟩ = some x1 ∧ w'.cell? ⟨b2, o2, none⟩ = some x2 ∧ Below B w0 w' :=
  h.mono fun e w' ⟨h1, h2⟩ => ⟨h1, (h2.cell (p := ⟨b1, o1, none⟩) (World.block_lt_of_cell? _ _ d1)).trans d1, (h2.cell (p := ⟨b2, o2, none⟩) (World.block_lt_of_cell? _ _ d2)).trans d2, hB.trans (h2.mono hs)⟩
theorem hold3 {P : Program} {F : FuncId} {args : Array Value} {w w0 : World} {r : Ending} {B b1 o1 b2 o2 b3 o3 : Nat} {x1 x2 x3 : Value} (h : Calls P F args w fun e w' => e = r ∧ Below w.heap.size w w')
    (hB : Below B w0 w) (hs : B ≤ w.heap.size) (d1 : w.cell? ⟨b1, o1, none⟩ = some x1) (d2 : w.cell? ⟨b2, o2, none⟩ = some x2) (d3 : w.cell? ⟨b3, o3, none⟩ = some x3) :
    Calls P F args w fun e w' => e = r ∧ w'.cell? ⟨b1, o1, none⟩ = some x1 ∧ w'.cell? ⟨b2, o2, none⟩ = some x2 ∧ w'.cell? ⟨b3, o3, none⟩ = some x3 ∧ Below B w0 w' :=
  h.mono fun e w' ⟨h1, h2⟩ => ⟨h1, (h2.cell (p := ⟨b1, o1, none⟩) (World.block_lt_of_cell? _ _ d1)).trans d1, (h2.cell (p := ⟨b2, o2, none⟩) (World.block_lt_of_cell? _ _ d2)).trans d2, (h2.cell (p := ⟨b3, o3, none⟩) (World.block_lt_of_cell? _ _ d3)).trans d3, hB.trans (h2.mono hs)⟩
theorem hold4 {P : Program} {F : FuncId} {args : Array Value} {w w0 : World} {r : Ending} {B b1 o1 b2 o2 b3 o3 b4 o4 : Nat} {x1 x2 x3 x4 : Value} (h : Calls P F args w fun e w' => e = r ∧ Below w.heap.size w w')
    (hB : Below B w0 w) (hs : B ≤ w.heap.size) (d1 : w.cell? ⟨b1, o1, none⟩ = some x1) (d2 : w.cell? ⟨b2, o2, none⟩ = some x2) (d3 : w.cell? ⟨b3, o3, none⟩ = some x3) (d4 : w.cell? ⟨b4, o4, none⟩ = some x4) :
    Calls P F args w fun e w' => e = r ∧ w'.cell? ⟨b1, o1, none⟩ = some x1 ∧ w'.cell? ⟨b2, o2, none⟩ = some x2 ∧ w'.cell? ⟨b3, o3, none⟩ = some x3 ∧ w'.cell? ⟨b4, o4, none⟩ = some x4 ∧ Below B w0 w' :=
  h.mono fun e w' ⟨h1, h2⟩ => ⟨h1, (h2.cell (p := ⟨b1, o1, none⟩) (World.block_lt_of_cell? _ _ d1)).trans d1, (h2.cell (p := ⟨b2, o2, none⟩) (World.block_lt_of_cell? _ _ d2)).trans d2, (h2.cell (p := ⟨b3, o3, none⟩) (World.block_lt_of_cell? _ _ d3)).trans d3, (h2.cell (p := ⟨b4, o4, none⟩) (World.block_lt_of_cell? _ _ d4)).trans d4, hB.trans (h2.mono hs)⟩
theorem hold5 {P : Program} {F : FuncId} {args : Array Value} {w w0 : World} {r : Ending} {B b1 o1 b2 o2 b3 o3 b4 o4 b5 o5 : Nat} {x1 x2 x3 x4 x5 : Value} (h : Calls P F args w fun e w' => e = r ∧ Below w.heap.size w w')
    (hB : Below B w0 w) (hs : B ≤ w.heap.size) (d1 : w.cell? ⟨b1, o1, none⟩ = some x1) (d2 : w.cell? ⟨b2, o2, none⟩ = some x2) (d3 : w.cell? ⟨b3, o3, none⟩ = some x3) (d4 : w.cell? ⟨b4, o4, none⟩ = some x4) (d5 : w.cell? ⟨b5, o5, none⟩ = some x5) :
    Calls P F args w fun e w' => e = r ∧ w'.cell? ⟨b1, o1, none⟩ = some x1 ∧ w'.cell? ⟨b2, o2, none⟩ = some x2 ∧ w'.cell? ⟨b3, o3, none⟩ = some x3 ∧ w'.cell? ⟨b4, o4, none⟩ = some x4 ∧ w'.cell? ⟨b5, o5, none⟩ = some x5 ∧ Below B w0 w' :=
  h.mono fun e w' ⟨h1, h2⟩ => ⟨h1, (h2.cell (p := ⟨b1, o1, none⟩) (World.block_lt_of_cell? _ _ d1)).trans d1, (h2.cell (p := ⟨b2, o2, none⟩) (World.block_lt_of_cell? _ _ d2)).trans d2, (h2.cell (p := ⟨b3, o3, none⟩) (World.block_lt_of_cell? _ _ d3)).trans d3, (h2.cell (p := ⟨b4, o4, none⟩) (World.block_lt_of_cell? _ _ d4)).trans d4, (h2.cell (p := ⟨b5, o5, none⟩) (World.block_lt_of_cell? _ _ d5)).trans d5, hB.trans (h2.mono hs)⟩
theorem hold6 {P : Program} {F : FuncId} {args : Array Value} {w w0 : World} {r : Ending} {B b1 o1 b2 o2 b3 o3 b4 o4 b5 o5 b6 o6 : Nat} {x1 x2 x3 x4 x5 x6 : Value} (h : Calls P F args w fun e w' => e = r ∧ Below w.heap.size w w')
    (hB : Below B w0 w) (hs : B ≤ w.heap.size) (d1 : w.cell? ⟨b1, o1, none⟩ = some x1) (d2 : w.cell? ⟨b2, o2, none⟩ = some x2) (d3 : w.cell? ⟨b3, o3, none⟩ = some x3) (d4 : w.cell? ⟨b4, o4, none⟩ = some x4) (d5 : w.cell? ⟨b5, o5, none⟩ = some x5) (d6 : w.cell? ⟨b6, o6, none⟩ = some x6) :
    Calls P F args w fun e w' => e = r ∧ w'.cell? ⟨b1, o1, none⟩ = some x1 ∧ w'.cell? ⟨b2, o2, none⟩ = some x2 ∧ w'.cell? ⟨b3, o3, none⟩ = some x3 ∧ w'.cell? ⟨b4, o4, none⟩ = some x4 ∧ w'.cell? ⟨b5, o5, none⟩ = some x5 ∧ w'.cell? ⟨b6, o6, none⟩ = some x6 ∧ Below B w0 w' :=
  h.mono fun e w' ⟨h1, h2⟩ => ⟨h1, (h2.cell (p := ⟨b1, o1, none⟩) (World.block_lt_of_cell? _ _ d1)).trans d1, (h2.cell (p := ⟨b2, o2, none⟩) (World.block_lt_of_cell? _ _ d2)).trans d2, (h2.cell (p := ⟨b3, o3, none⟩) (World.block_lt_of_cell? _ _ d3)).trans d3, (h2.cell (p := ⟨b4, o4, none⟩) (World.block_lt_of_cell? _ _ d4)).trans d4, (h2.cell (p := ⟨b5, o5, none⟩) (World.block_lt_of_cell? _ _ d5)).trans d5, (h2.cell (p := ⟨b6, o6, none⟩) (World.block_lt_of_cell? _ _ d6)).trans d6, hB.trans (h2.mono hs)⟩
theorem hold7 {P : Program} {F : FuncId} {args : Array Value} {w w0 : World} {r : Ending} {B b1 o1 b2 o2 b3 o3 b4 o4 b5 o5 b6 o6 b7 o7 : Nat} {x1 x2 x3 x4 x5 x6 x7 : Value} (h : Calls P F args w fun e w' => e = r ∧ Below w.heap.size w w')
    (hB : Below B w0 w) (hs : B ≤ w.heap.size) (d1 : w.cell? ⟨b1, o1, none⟩ = some x1) (d2 : w.cell? ⟨b2, o2, none⟩ = some x2) (d3 : w.cell? ⟨b3, o3, none⟩ = some x3) (d4 : w.cell? ⟨b4, o4, none⟩ = some x4) (d5 : w.cell? ⟨b5, o5, none⟩ = some x5) (d6 : w.cell? ⟨b6, o6, none⟩ = some x6) (d7 : w.cell? ⟨b7, o7, none⟩ = some x7) :
    Calls P F args w fun e w' => e = r ∧ w'.cell? ⟨b1, o1, none⟩ = some x1 ∧ w'.cell? ⟨b2, o2, none⟩ = some x2 ∧ w'.cell? ⟨b3, o3, none⟩ = some x3 ∧ w'.cell? ⟨b4, o4, none⟩ = some x4 ∧ w'.cell? ⟨b5, o5, none⟩ = some x5 ∧ w'.cell? ⟨b6, o6, none⟩ = some x6 ∧ w'.cell? ⟨b7, o7, none⟩ = some x7 ∧ Below B w0 w' :=
  h.mono fun e w' ⟨h1, h2⟩ => ⟨h1, (h2.cell (p := ⟨b1, o1, none⟩) (World.block_lt_of_cell? _ _ d1)).trans d1, (h2.cell (p := ⟨b2, o2, none⟩) (World.block_lt_of_cell? _ _ d2)).trans d2, (h2.cell (p := ⟨b3, o3, none⟩) (World.block_lt_of_cell? _ _ d3)).trans d3, (h2.cell (p := ⟨b4, o4, none⟩) (World.block_lt_of_cell? _ _ d4)).trans d4, (h2.cell (p := ⟨b5, o5, none⟩) (World.block_lt_of_cell? _ _ d5)).trans d5, (h2.cell (p := ⟨b6, o6, none⟩) (World.block_lt_of_cell? _ _ d6)).trans d6, (h2.cell (p := ⟨b7, o7, none⟩) (World.block_lt_of_cell? _ _ d7)).trans d7, hB.trans (h2.mono hs)⟩
theorem hold8 {P : Program} {F : FuncId} {args : Array Value} {w w0 : World} {r : Ending} {B b1 o1 b2 o2 b3 o3 b4 o4 b5 o5 b6 o6 b7 o7 b8 o8 : Nat} {x1 x2 x3 x4 x5 x6 x7 x8 : Value} (h : Calls P F args w fun e w' => e = r ∧ Below w.heap.size w w')
    (hB : Below B w0 w) (hs : B ≤ w.heap.size) (d1 : w.cell? ⟨b1, o1, none⟩ = some x1) (d2 : w.cell? ⟨b2, o2, none⟩ = some x2) (d3 : w.cell? ⟨b3, o3, none⟩ = some x3) (d4 : w.cell? ⟨b4, o4, none⟩ = some x4) (d5 : w.cell? ⟨b5, o5, none⟩ = some x5) (d6 : w.cell? ⟨b6, o6, none⟩ = some x6) (d7 : w.cell? ⟨b7, o7, none⟩ = some x7) (d8 : w.cell? ⟨b8, o8, none⟩ = some x8) :
    Calls P F args w fun e w' => e = r ∧ w'.cell? ⟨b1, o1, none⟩ = some x1 ∧ w'.cell? ⟨b2, o2, none⟩ = some x2 ∧ w'.cell? ⟨b3, o3, none⟩ = some x3 ∧ w'.cell? ⟨b4, o4, none⟩ = some x4 ∧ w'.cell? ⟨b5, o5, none⟩ = some x5 ∧ w'.cell? ⟨b6, o6, none⟩ = some x6 ∧ w'.cell? ⟨b7, o7, none⟩ = some x7 ∧ w'.cell? ⟨b8, o8, none⟩ = some x8 ∧ Below B w0 w' :=
  h.mono fun e w' ⟨h1, h2⟩ => ⟨h1, (h2.cell (p := ⟨b1, o1, none⟩) (World.block_lt_of_cell? _ _ d1)).trans d1, (h2.cell (p := ⟨b2, o2, none⟩) (World.block_lt_of_cell? _ _ d2)).trans d2, (h2.cell (p := ⟨b3, o3, none⟩) (World.block_lt_of_cell? _ _ d3)).trans d3, (h2.cell (p := ⟨b4, o4, none⟩) (World.block_lt_of_cell? _ _ d4)).trans d4, (h2.cell (p := ⟨b5, o5, none⟩) (World.block_lt_of_cell? _ _ d5)).trans d5, (h2.cell (p := ⟨b6, o6, none⟩) (World.block_lt_of_cell? _ _ d6)).trans d6, (h2.cell (p := ⟨b7, o7, none⟩) (World.block_lt_of_cell? _ _ d7)).trans d7, (h2.cell (p := ⟨b8, o8, none⟩) (World.block_lt_of_cell? _ _ d8)).trans d8, hB.trans (h2.mono hs)⟩
theorem hold9 {P : Program} {F : FuncId} {args : Array Value} {w w0 : World} {r : Ending} {B b1 o1 b2 o2 b3 o3 b4 o4 b5 o5 b6 o6 b7 o7 b8 o8 b9 o9 : Nat} {x1 x2 x3 x4 x5 x6 x7 x8 x9 : Value} (h : Calls P F args w fun e w' => e = r ∧ Below w.heap.size w w')
    (hB : Below B w0 w) (hs : B ≤ w.heap.size) (d1 : w.cell? ⟨b1, o1, none⟩ = some x1) (d2 : w.cell? ⟨b2, o2, none⟩ = some x2) (d3 : w.cell? ⟨b3, o3, none⟩ = some x3) (d4 : w.cell? ⟨b4, o4, none⟩ = some x4) (d5 : w.cell? ⟨b5, o5, none⟩ = some x5) (d6 : w.cell? ⟨b6, o6, none⟩ = some x6) (d7 : w.cell? ⟨b7, o7, none⟩ = some x7) (d8 : w.cell? ⟨b8, o8, none⟩ = some x8) (d9 : w.cell? ⟨b9, o9, none⟩ = some x9) :
    Calls P F args w fun e w' => e = r ∧ w'.cell? ⟨b1, o1, none⟩ = some x1 ∧ w'.cell? ⟨b2, o2, none⟩ = some x2 ∧ w'.cell? ⟨b3, o3, none⟩ = some x3 ∧ w'.cell? ⟨b4, o4, none⟩ = some x4 ∧ w'.cell? ⟨b5, o5, none⟩ = some x5 ∧ w'.cell? ⟨b6, o6, none⟩ = some x6 ∧ w'.cell? ⟨b7, o7, none⟩ = some x7 ∧ w'.cell? ⟨b8, o8, none⟩ = some x8 ∧ w'.cell? ⟨b9, o9, none⟩ = some x9 ∧ Below B w0 w' :=
  h.mono fun e w' ⟨h1, h2⟩ => ⟨h1, (h2.cell (p := ⟨b1, o1, none⟩) (World.block_lt_of_cell? _ _ d1)).trans d1, (h2.cell (p := ⟨b2, o2, none⟩) (World.block_lt_of_cell? _ _ d2)).trans d2, (h2.cell (p := ⟨b3, o3, none⟩) (World.block_lt_of_cell? _ _ d3)).trans d3, (h2.cell (p := ⟨b4, o4, none⟩) (World.block_lt_of_cell? _ _ d4)).trans d4, (h2.cell (p := ⟨b5, o5, none⟩) (World.block_lt_of_cell? _ _ d5)).trans d5, (h2.cell (p := ⟨b6, o6, none⟩) (World.block_lt_of_cell? _ _ d6)).trans d6, (h2.cell (p := ⟨b7, o7, none⟩) (World.block_lt_of_cell? _ _ d7)).trans d7, (h2.cell (p := ⟨b8, o8, none⟩) (World.block_lt_of_cell? _ _ d8)).trans d8, (h2.cell (p := ⟨b9, o9, none⟩) (World.block_lt_of_cell? _ _ d9)).trans d9, hB.trans (h2.mono hs)⟩
theorem hold10 {P : Program} {F : FuncId} {args : Array Value} {w w0 : World} {r : Ending} {B b1 o1 b2 o2 b3 o3 b4 o4 b5 o5 b6 o6 b7 o7 b8 o8 b9 o9 b10 o10 : Nat} {x1 x2 x3 x4 x5 x6 x7 x8 x9 x10 : Value} (h : Calls P F args w fun e w' => e = r ∧ Below w.heap.size w w')
    (hB : Below B w0 w) (hs : B ≤ w.heap.size) (d1 : w.cell? ⟨b1, o1, none⟩ = some x1) (d2 : w.cell? ⟨b2, o2, none⟩ = some x2) (d3 : w.cell? ⟨b3, o3, none⟩ = some x3) (d4 : w.cell? ⟨b4, o4, none⟩ = some x4) (d5 : w.cell? ⟨b5, o5, none⟩ = some x5) (d6 : w.cell? ⟨b6, o6, none⟩ = some x6) (d7 : w.cell? ⟨b7, o7, none⟩ = some x7) (d8 : w.cell? ⟨b8, o8, none⟩ = some x8) (d9 : w.cell? ⟨b9, o9, none⟩ = some x9) (d10 : w.cell? ⟨b10, o10, none⟩ = some x10) :
    Calls P F args w fun e w' => e = r ∧ w'.cell? ⟨b1, o1, none⟩ = some x1 ∧ w'.cell? ⟨b2, o2, none⟩ = some x2 ∧ w'.cell? ⟨b3, o3, none⟩ = some x3 ∧ w'.cell? ⟨b4, o4, none⟩ = some x4 ∧ w'.cell? ⟨b5, o5, none⟩ = some x5 ∧ w'.cell? ⟨b6, o6, none⟩ = some x6 ∧ w'.cell? ⟨b7, o7, none⟩ = some x7 ∧ w'.cell? ⟨b8, o8, none⟩ = some x8 ∧ w'.cell? ⟨b9, o9, none⟩ = some x9 ∧ w'.cell? ⟨b10, o10, none⟩ = some x10 ∧ Below B w0 w' :=
  h.mono fun e w' ⟨h1, h2⟩ => ⟨h1, (h2.cell (p := ⟨b1, o1, none⟩) (World.block_lt_of_cell? _ _ d1)).trans d1, (h2.cell (p := ⟨b2, o2, none⟩) (World.block_lt_of_cell? _ _ d2)).trans d2, (h2.cell (p := ⟨b3, o3, none⟩) (World.block_lt_of_cell? _ _ d3)).trans d3, (h2.cell (p := ⟨b4, o4, none⟩) (World.block_lt_of_cell? _ _ d4)).trans d4, (h2.cell (p := ⟨b5, o5, none⟩) (World.block_lt_of_cell? _ _ d5)).trans d5, (h2.cell (p := ⟨b6, o6, none⟩) (World.block_lt_of_cell? _ _ d6)).trans d6, (h2.cell (p := ⟨b7, o7, none⟩) (World.block_lt_of_cell? _ _ d7)).trans d7, (h2.cell (p := ⟨b8, o8, none⟩) (World.block_lt_of_cell? _ _ d8)).trans d8, (h2.cell (p := ⟨b9, o9, none⟩) (World.block_lt_of_cell? _ _ d9)).trans d9, (h2.cell (p := ⟨b10, o10, none⟩) (World.block_lt_of_cell? _ _ d10)).trans d10, hB.trans (h2.mono hs)⟩
theorem hold11 {P : Program} {F : FuncId} {args : Array Value} {w w0 : World} {r : Ending} {B b1 o1 b2 o2 b3 o3 b4 o4 b5 o5 b6 o6 b7 o7 b8 o8 b9 o9 b10 o10 b11 o11 : Nat} {x1 x2 x3 x4 x5 x6 x7 x8 x9 x10 x11 : Value} (h : Calls P F args w fun e w' => e = r ∧ Below w.heap.size w w')
    (hB : Below B w0 w) (hs : B ≤ w.heap.size) (d1 : w.cell? ⟨b1, o1, none⟩ = some x1) (d2 : w.cell? ⟨b2, o2, none⟩ = some x2) (d3 : w.cell? ⟨b3, o3, none⟩ = some x3) (d4 : w.cell? ⟨b4, o4, none⟩ = some x4) (d5 : w.cell? ⟨b5, o5, none⟩ = some x5) (d6 : w.cell? ⟨b6, o6, none⟩ = some x6) (d7 : w.cell? ⟨b7, o7, none⟩ = some x7) (d8 : w.cell? ⟨b8, o8, none⟩ = some x8) (d9 : w.cell? ⟨b9, o9, none⟩ = some x9) (d10 : w.cell? ⟨b10, o10, none⟩ = some x10) (d11 : w.cell? ⟨b11, o11, none⟩ = some x11) :
    Calls P F args w fun e w' => e = r ∧ w'.cell? ⟨b1, o1, none⟩ = some x1 ∧ w'.cell? ⟨b2, o2, none⟩ = some x2 ∧ w'.cell? ⟨b3, o3, none⟩ = some x3 ∧ w'.cell? ⟨b4, o4, none⟩ = some x4 ∧ w'.cell? ⟨b5, o5, none⟩ = some x5 ∧ w'.cell? ⟨b6, o6, none⟩ = some x6 ∧ w'.cell? ⟨b7, o7, none⟩ = some x7 ∧ w'.cell? ⟨b8, o8, none⟩ = some x8 ∧ w'.cell? ⟨b9, o9, none⟩ = some x9 ∧ w'.cell? ⟨b10, o10, none⟩ = some x10 ∧ w'.cell? ⟨b11, o11, none⟩ = some x11 ∧ Below B w0 w' :=
  h.mono fun e w' ⟨h1, h2⟩ => ⟨h1, (h2.cell (p := ⟨b1, o1, none⟩) (World.block_lt_of_cell? _ _ d1)).trans d1, (h2.cell (p := ⟨b2, o2, none⟩) (World.block_lt_of_cell? _ _ d2)).trans d2, (h2.cell (p := ⟨b3, o3, none⟩) (World.block_lt_of_cell? _ _ d3)).trans d3, (h2.cell (p := ⟨b4, o4, none⟩) (World.block_lt_of_cell? _ _ d4)).trans d4, (h2.cell (p := ⟨b5, o5, none⟩) (World.block_lt_of_cell? _ _ d5)).trans d5, (h2.cell (p := ⟨b6, o6, none⟩) (World.block_lt_of_cell? _ _ d6)).trans d6, (h2.cell (p := ⟨b7, o7, none⟩) (World.block_lt_of_cell? _ _ d7)).trans d7, (h2.cell (p := ⟨b8, o8, none⟩) (World.block_lt_of_cell? _ _ d8)).trans d8, (h2.cell (p := ⟨b9, o9, none⟩) (World.block_lt_of_cell? _ _ d9)).trans d9, (h2.cell (p := ⟨b10, o10, none⟩) (World.block_lt_of_cell? _ _ d10)).trans d10, (h2.cell (p := ⟨b11, o11, none⟩) (World.block_lt_of_cell? _ _ d11)).trans d11, hB.trans (h2.mono hs)⟩
theorem hold12 {P : Program} {F : FuncId} {args : Array Value} {w w0 : World} {r : Ending} {B b1 o1 b2 o2 b3 o3 b4 o4 b5 o5 b6 o6 b7 o7 b8 o8 b9 o9 b10 o10 b11 o11 b12 o12 : Nat} {x1 x2 x3 x4 x5 x6 x7 x8 x9 x10 x11 x12 : Value} (h : Calls P F args w fun e w' => e = r ∧ Below w.heap.size w w')
    (hB : Below B w0 w) (hs : B ≤ w.heap.size) (d1 : w.cell? ⟨b1, o1, none⟩ = some x1) (d2 : w.cell? ⟨b2, o2, none⟩ = some x2) (d3 : w.cell? ⟨b3, o3, none⟩ = some x3) (d4 : w.cell? ⟨b4, o4, none⟩ = some x4) (d5 : w.cell? ⟨b5, o5, none⟩ = some x5) (d6 : w.cell? ⟨b6, o6, none⟩ = some x6) (d7 : w.cell? ⟨b7, o7, none⟩ = some x7) (d8 : w.cell? ⟨b8, o8, none⟩ = some x8) (d9 : w.cell? ⟨b9, o9, none⟩ = some x9) (d10 : w.cell? ⟨b10, o10, none⟩ = some x10) (d11 : w.cell? ⟨b11, o11, none⟩ = some x11) (d12 : w.cell? ⟨b12, o12, none⟩ = some x12) :
    Calls P F args w fun e w' => e = r ∧ w'.cell? ⟨b1, o1, none⟩ = some x1 ∧ w'.cell? ⟨b2, o2, none⟩ = some x2 ∧ w'.cell? ⟨b3, o3, none⟩ = some x3 ∧ w'.cell? ⟨b4, o4, none⟩ = some x4 ∧ w'.cell? ⟨b5, o5, none⟩ = some x5 ∧ w'.cell? ⟨b6, o6, none⟩ = some x6 ∧ w'.cell? ⟨b7, o7, none⟩ = some x7 ∧ w'.cell? ⟨b8, o8, none⟩ = some x8 ∧ w'.cell? ⟨b9, o9, none⟩ = some x9 ∧ w'.cell? ⟨b10, o10, none⟩ = some x10 ∧ w'.cell? ⟨b11, o11, none⟩ = some x11 ∧ w'.cell? ⟨b12, o12, none⟩ = some x12 ∧ Below B w0 w' :=
  h.mono fun e w' ⟨h1, h2⟩ => ⟨h1, (h2.cell (p := ⟨b1, o1, none⟩) (World.block_lt_of_cell? _ _ d1)).trans d1, (h2.cell (p := ⟨b2, o2, none⟩) (World.block_lt_of_cell? _ _ d2)).trans d2, (h2.cell (p := ⟨b3, o3, none⟩) (World.block_lt_of_cell? _ _ d3)).trans d3, (h2.cell (p := ⟨b4, o4, none⟩) (World.block_lt_of_cell? _ _ d4)).trans d4, (h2.cell (p := ⟨b5, o5, none⟩) (World.block_lt_of_cell? _ _ d5)).trans d5, (h2.cell (p := ⟨b6, o6, none⟩) (World.block_lt_of_cell? _ _ d6)).trans d6, (h2.cell (p := ⟨b7, o7, none⟩) (World.block_lt_of_cell? _ _ d7)).trans d7, (h2.cell (p := ⟨b8, o8, none⟩) (World.block_lt_of_cell? _ _ d8)).trans d8, (h2.cell (p := ⟨b9, o9, none⟩) (World.block_lt_of_cell? _ _ d9)).trans d9, (h2.cell (p := ⟨b10, o10, none⟩) (World.block_lt_of_cell? _ _ d10)).trans d10, (h2.cell (p := ⟨b11, o11, none⟩) (World.block_lt_of_cell? _ _ d11)).trans d11, (h2.cell (p := ⟨b12, o12, none⟩) (World.block_lt_of_cell? _ _ d12)).trans d12, hB.trans (h2.mono hs)⟩
end Go.Proofs.YtjjodfdmbiebnaaDoor
/- Contracts of layer 17: discs. -/
namespace Go.Proofs.YtjjodfdmbiebnaaDoor
open Go.RowKit
set_option linter.unusedVariables false
theorem rad_cases (r : Int) : (¬ 0 < r ∧ r < 262144 ∧ Fx.radS r = 0) ∨ (0 < r ∧ 262144 < r ∧ Fx.radS r = 262144) ∨ (0 < r ∧ r < 262144 ∧ Fx.radS r = r) ∨ (r = 262144 ∧ Fx.radS r = 262144) := by
  unfold Fx.radS; (repeat' split) <;> omega
end Go.Proofs.YtjjodfdmbiebnaaDoor
/- Arguments that hold slices of bytes: what is known of them. -/
namespace Go.Proofs.YtjjodfdmbiebnaaDoor
open Go.ChangeShapes Go.WideShapes Go.ChangeAt Go.RowKit Go.Deep
set_option linter.unusedVariables false
theorem add_plus {b off : Nat} (j : Nat) : (⟨b, off, none⟩ : Addr).add j = ⟨b, off + j, none⟩ := by
  unfold Addr.add; split <;> simp_all
theorem by_of {H : Type} {enc : TypeId × Value → H} {w : World} {base : Nat} {spare : Nat → Bool} {held : Bool} {fuel : Nat} {x : DataW H × List MemPlace} {v : Value}
    (hf : DataW.trod enc Tryd.prog w base spare held fuel 22 [v] = some x) : ∃ a n c xs, v = .slice a n c ∧ n ≤ c ∧ c ≤ 9223372036854775807 ∧ By w w.heap.size a n xs := by
  rcases open_ints Tryd.underlying22 Tryd.underlying5 (by kernel_rfl) hf with ⟨hcs, _⟩ | ⟨a, l, c, zs, hcs, _, hl, hm, hz, _, hc, hwf⟩
  · simp at hcs; subst hcs
    exact ⟨none, 0, 0, [], rfl, by omega, by omega, By.nil _ _ _⟩
  · simp at hcs; subst hcs
    have hzl : l ≤ zs.length := by rw [hz]; split <;> omega
    refine ⟨_, _, _, zs.take l, rfl, hl, hm, by simp; omega, fun b hb => ?_, fun hn => ?_⟩
    · have := bounds_u8 (hwf b (List.mem_of_mem_take hb)); exact this
    · obtain ⟨b, off, spot⟩ := a
      have hs : spot = none := by
        have h0 := World.cell?_spot (hc 0 (by omega))
        simpa [Addr.add] using h0
      subst hs
      refine ⟨b, off, rfl, ?_, fun k hk => ?_⟩
      · have := hc 0 (by omega); rw [add_plus] at this; exact World.block_lt_of_cell? _ _ this
      · have := hc k (by omega)
        rw [add_plus] at this
        rw [this]
        simp [List.getD, hk]
end Go.Proofs.YtjjodfdmbiebnaaDoor
/- Contracts of layer 17: what a disc meets. -/
namespace Go.Proofs.YtjjodfdmbiebnaaDoor
open Go.RowKit
set_option linter.unusedVariables false
theorem bsS_bd {x c : Int} (hx : -1099511627776 ≤ x ∧ x ≤ 1099511627776) (hc : 0 ≤ c ∧ c ≤ 16384) : 0 ≤ bsS x c ∧ bsS x c ≤ 1200000000000 := by
  unfold bsS; (repeat' split) <;> omega
theorem beside_any (x c : Int) (w : World) (x0 : -1099511627776 ≤ x) (x1 : x ≤ 1099511627776) (c0 : 0 ≤ c) (c1 : c ≤ 16384) : Calls Tryd.prog 81 #[.int .i64 x, .int .i64 c] w fun e w' => e = .returned (.int .i64 (bsS x c)) ∧ w = w' := by
  by_cases q0 : x < c * 65536
  · have R : Hk (bsS x c = c * 65536 - x) := ⟨by unfold bsS; rw [if_pos q0]⟩
    have b1 : ¬ c * 65536 - x < x - c * 65536 - 65536 := by omega
    have b2 : ¬ c * 65536 - x < 0 := by omega
    go_enter Tryd.func81, Tryd.ntmps81
    go_wp2
    go_ret
    exact ⟨ri R.out.symm, rfl⟩
  by_cases q1 : c * 65536 + 65536 < x
  · have R : Hk (bsS x c = x - c * 65536 - 65536) := ⟨by unfold bsS; rw [if_neg q0, if_pos q1]⟩
    have b1 : c * 65536 - x < x - c * 65536 - 65536 := by omega
    have b2 : ¬ x - c * 65536 - 65536 < 0 := by omega
    go_enter Tryd.func81, Tryd.ntmps81
    go_wp2
    go_ret
    exact ⟨ri R.out.symm, rfl⟩
  · have R : Hk (bsS x c = 0) := ⟨by unfold bsS; rw [if_neg q0, if_neg q1]⟩
    by_cases q2 : c * 65536 - x < x - c * 65536 - 65536
    · by_cases q3 : x - c * 65536 - 65536 < 0
      · go_enter Tryd.func81, Tryd.ntmps81
        go_wp2
        go_ret
        exact ⟨ri R.out.symm, rfl⟩
      · have e0 : x - c * 65536 - 65536 = 0 := by omega
        have E0 := Hk.mk e0
        clear e0
        go_enter Tryd.func81, Tryd.ntmps81
        go_wp2
        go_ret
        exact ⟨ri (by rw [R.out, E0.out]), rfl⟩
    · by_cases q3 : c * 65536 - x < 0
      · go_enter Tryd.func81, Tryd.ntmps81
        go_wp2
        go_ret
        exact ⟨ri R.out.symm, rfl⟩
      · have e0 : c * 65536 - x = 0 := by omega
        have E0 := Hk.mk e0
        clear e0
        go_enter Tryd.func81, Tryd.ntmps81
        go_wp2
        go_ret
        exact ⟨ri (by rw [R.out, E0.out]), rfl⟩
theorem beside_as (x c y : Int) (w : World) (x0 : -1099511627776 ≤ x) (x1 : x ≤ 1099511627776) (c0 : 0 ≤ c) (c1 : c ≤ 16384) (E : Hk (bsS x c = y)) : Calls Tryd.prog 81 #[.int .i64 x, .int .i64 c] w fun e w' => e = .returned (.int .i64 y) ∧ w = w' := by
  obtain ⟨rfl⟩ := E; exact beside_any x c w x0 x1 c0 c1
set_option maxHeartbeats 800000 in
theorem tmeets_any (W t px py r : Int) (w : World) (w1 : 1 ≤ W) (w2 : W ≤ 128) (t0 : 0 ≤ t) (t1 : t ≤ 16384) (hx : -1099511627776 ≤ px ∧ px ≤ 1099511627776) (hy : -1099511627776 ≤ py ∧ py ≤ 1099511627776) (hr : 0 ≤ r ∧ r ≤ 262144) :
    Calls Tryd.prog 71 #[.int .i64 W, .int .i64 t, .agg #[.int .i64 px, .int .i64 py], .int .i64 r] w fun e w' => e = .returned (.bool (meetsS W t px py r)) ∧ Below w.heap.size w w' := by
  have q1 : 0 ≤ t % W := Int.emod_nonneg _ (by omega)
  have q2 : t % W < W := Int.emod_lt_of_pos _ (by omega)
  have q3 : 0 ≤ t / W := Int.ediv_nonneg t0 (by omega)
  have q4 : t / W ≤ t := Int.ediv_le_self _ t0
  have c1 : t % W ≤ 16384 := by omega
  have c2 : t / W ≤ 16384 := by omega
  have w0 : ¬ W = 0 := by omega
  have r1 : t.tmod W = t % W := Int.tmod_eq_emod_of_nonneg t0
  have r2 : t.tdiv W = t / W := Int.tdiv_eq_ediv_of_nonneg t0
  have e3 : IntKind.i64.wrap (t / W) = t / W := IntWalk.i64_in _ (by omega)
  obtain ⟨X, hX⟩ : ∃ X, bsS px (t % W) = X := ⟨_, rfl⟩
  obtain ⟨Y, hY⟩ : ∃ Y, bsS py (t / W) = Y := ⟨_, rfl⟩
  have bX := bsS_bd hx ⟨q1, c1⟩
  have bY := bsS_bd hy ⟨q3, c2⟩
  rw [hX] at bX
  rw [hY] at bY
  have R : Hk (meetsS W t px py r = (decide (X < r) && (decide (Y < r) && decide (X * X + Y * Y < r * r)))) := ⟨by unfold meetsS; rw [hX, hY]⟩
  have EX := Hk.mk hX
  have EY := Hk.mk hY
  clear hX hY
  by_cases z1 : X < r
  · have d1 : decide (X < r) = true := by simp; omega
    by_cases z2 : Y < r
    · have d2 : decide (Y < r) = true := by simp; omega
      have m1 := Int.mul_le_mul (show X ≤ 262144 by omega) (show X ≤ 262144 by omega) bX.1 (by omega)
      have m2 := Int.mul_le_mul (show Y ≤ 262144 by omega) (show Y ≤ 262144 by omega) bY.1 (by omega)
      have m3 := Int.mul_le_mul hr.2 hr.2 hr.1 (by omega)
      have m4 : 0 ≤ X * X := Int.mul_nonneg bX.1 bX.1
      have m5 : 0 ≤ Y * Y := Int.mul_nonneg bY.1 bY.1
      have m6 : 0 ≤ r * r := Int.mul_nonneg hr.1 hr.1
      by_cases z3 : X * X + Y * Y < r * r
      · have d3 : decide (X * X + Y * Y < r * r) = true := by simp; omega
        have R2 : Hk (meetsS W t px py r = true) := ⟨by rw [R.out, d1, d2, d3]; rfl⟩
        go_enter Tryd.func71, Tryd.ntmps71
        go_wp2
        go_region_held3 (fun w' => w'.cell? ⟨w.heap.size, 0, none⟩ = some (.int .i64 px) ∧ w'.cell? ⟨w.heap.size, 1, none⟩ = some (.int .i64 py)) (go_keep) (first | (go_at_call 81; (first | (with_reducible refine (beside_as px (t % W) X _ hx.1 hx.2 q1 c1 EX).mono ?_) | (with_reducible refine (beside_as py (t / W) Y _ hy.1 hy.2 q3 c2 EY).mono ?_)); rintro e w' ⟨rfl, rfl⟩))
        go_wp2
        go_ret
        exact ⟨rbo R2.out.symm, ((Below.refl _ _).alloc (Nat.le_refl _) _).drew⟩
      · have d3 : decide (X * X + Y * Y < r * r) = false := by simp; omega
        have R2 : Hk (meetsS W t px py r = false) := ⟨by rw [R.out, d1, d2, d3]; rfl⟩
        go_enter Tryd.func71, Tryd.ntmps71
        go_wp2
        go_region_held3 (fun w' => w'.cell? ⟨w.heap.size, 0, none⟩ = some (.int .i64 px) ∧ w'.cell? ⟨w.heap.size, 1, none⟩ = some (.int .i64 py)) (go_keep) (first | (go_at_call 81; (first | (with_reducible refine (beside_as px (t % W) X _ hx.1 hx.2 q1 c1 EX).mono ?_) | (with_reducible refine (beside_as py (t / W) Y _ hy.1 hy.2 q3 c2 EY).mono ?_)); rintro e w' ⟨rfl, rfl⟩))
        go_wp2
        go_ret
        exact ⟨rbo R2.out.symm, ((Below.refl _ _).alloc (Nat.le_refl _) _).drew⟩
    · have d2 : decide (Y < r) = false := by simp; omega
      have R2 : Hk (meetsS W t px py r = false) := ⟨by rw [R.out, d1, d2]; rfl⟩
      go_enter Tryd.func71, Tryd.ntmps71
      go_wp2
      go_region_held3 (fun w' => w'.cell? ⟨w.heap.size, 0, none⟩ = some (.int .i64 px) ∧ w'.cell? ⟨w.heap.size, 1, none⟩ = some (.int .i64 py)) (go_keep) (first | (go_at_call 81; (first | (with_reducible refine (beside_as px (t % W) X _ hx.1 hx.2 q1 c1 EX).mono ?_) | (with_reducible refine (beside_as py (t / W) Y _ hy.1 hy.2 q3 c2 EY).mono ?_)); rintro e w' ⟨rfl, rfl⟩))
      go_wp2
      go_ret
      exact ⟨rbo R2.out.symm, ((Below.refl _ _).alloc (Nat.le_refl _) _).drew⟩
  · have d1 : decide (X < r) = false := by simp; omega
    have R2 : Hk (meetsS W t px py r = false) := ⟨by rw [R.out, d1]; rfl⟩
    go_enter Tryd.func71, Tryd.ntmps71
    go_wp2
    go_region_held3 (fun w' => w'.cell? ⟨w.heap.size, 0, none⟩ = some (.int .i64 px) ∧ w'.cell? ⟨w.heap.size, 1, none⟩ = some (.int .i64 py)) (go_keep) (first | (go_at_call 81; (first | (with_reducible refine (beside_as px (t % W) X _ hx.1 hx.2 q1 c1 EX).mono ?_) | (with_reducible refine (beside_as py (t / W) Y _ hy.1 hy.2 q3 c2 EY).mono ?_)); rintro e w' ⟨rfl, rfl⟩))
    go_wp2
    go_ret
    exact ⟨rbo R2.out.symm, ((Below.refl _ _).alloc (Nat.le_refl _) _).drew⟩
theorem num17_any (x : Int) (w : World) : Calls Tryd.prog 43 #[.int .i64 x] w fun e w' => e = .returned (.int .i64 x) ∧ w = w' := by
  go_enter Tryd.func43, Tryd.ntmps43
  go_wp2
  go_ret
  exact ⟨rfl, rfl⟩
theorem dformed_any (px py r : Int) (w : World) : Calls Tryd.prog 68 #[.agg #[.int .i64 px, .int .i64 py], .int .i64 r] w fun e w' => e = .returned (.bool (fmD px py r)) ∧ Below w.heap.size w w' := by
  by_cases q0 : ¬ (0 ≤ r)
  · have b0 : decide (0 ≤ r) = false := by simp; omega
    have R : Hk (fmD px py r = false) := ⟨by unfold fmD; simp; omega⟩
    go_enter Tryd.func68, Tryd.ntmps68
    go_wp2
    go_ret
    exact ⟨rbo R.out.symm, (Below.refl _ _).alloc (Nat.le_refl _) _⟩
  have b0 : decide (0 ≤ r) = true := by simp; omega
  by_cases q1 : ¬ (r ≤ 262144)
  · have b1 : decide (r ≤ 262144) = false := by simp; omega
    have R : Hk (fmD px py r = false) := ⟨by unfold fmD; simp; omega⟩
    go_enter Tryd.func68, Tryd.ntmps68
    go_wp2
    go_ret
    exact ⟨rbo R.out.symm, (Below.refl _ _).alloc (Nat.le_refl _) _⟩
  have b1 : decide (r ≤ 262144) = true := by simp; omega
  by_cases q2 : ¬ (-1099511627776 ≤ px)
  · have b2 : decide (-1099511627776 ≤ px) = false := by simp; omega
    have R : Hk (fmD px py r = false) := ⟨by unfold fmD; simp; omega⟩
    go_enter Tryd.func68, Tryd.ntmps68
    go_wp2
    go_ret
    exact ⟨rbo R.out.symm, (Below.refl _ _).alloc (Nat.le_refl _) _⟩
  have b2 : decide (-1099511627776 ≤ px) = true := by simp; omega
  by_cases q3 : ¬ (px ≤ 1099511627776)
  · have b3 : decide (px ≤ 1099511627776) = false := by simp; omega
    have R : Hk (fmD px py r = false) := ⟨by unfold fmD; simp; omega⟩
    go_enter Tryd.func68, Tryd.ntmps68
    go_wp2
    go_ret
    exact ⟨rbo R.out.symm, (Below.refl _ _).alloc (Nat.le_refl _) _⟩
  have b3 : decide (px ≤ 1099511627776) = true := by simp; omega
  by_cases q4 : ¬ (-1099511627776 ≤ py)
  · have b4 : decide (-1099511627776 ≤ py) = false := by simp; omega
    have R : Hk (fmD px py r = false) := ⟨by unfold fmD; simp; omega⟩
    go_enter Tryd.func68, Tryd.ntmps68
    go_wp2
    go_ret
    exact ⟨rbo R.out.symm, (Below.refl _ _).alloc (Nat.le_refl _) _⟩
  have b4 : decide (-1099511627776 ≤ py) = true := by simp; omega
  by_cases q5 : ¬ (py ≤ 1099511627776)
  · have b5 : decide (py ≤ 1099511627776) = false := by simp; omega
    have R : Hk (fmD px py r = false) := ⟨by unfold fmD; simp; omega⟩
    go_enter Tryd.func68, Tryd.ntmps68
    go_wp2
    go_ret
    exact ⟨rbo R.out.symm, (Below.refl _ _).alloc (Nat.le_refl _) _⟩
  have b5 : decide (py ≤ 1099511627776) = true := by simp; omega
  have R : Hk (fmD px py r = true) := ⟨by unfold fmD; simp; omega⟩
  go_enter Tryd.func68, Tryd.ntmps68
  go_wp2
  go_ret
  exact ⟨rbo R.out.symm, (Below.refl _ _).alloc (Nat.le_refl _) _⟩
theorem dformed_as (g : Bool) (px py r : Int) (w : World) (E : Hk (fmD px py r = g)) : Calls Tryd.prog 68 #[.agg #[.int .i64 px, .int .i64 py], .int .i64 r] w fun e w' => e = .returned (.bool g) ∧ Below w.heap.size w w' := by
  obtain ⟨rfl⟩ := E; exact dformed_any px py r w
theorem bcellg' {W w1 : World} (hb : Below W.heap.size W w1) : (∀ b o, b < W.heap.size → w1.cell? ⟨b, o, none⟩ = W.cell? ⟨b, o, none⟩) ∧ (∀ b o, b < W.heap.size → w1.frozen? ⟨b, o, none⟩ = W.frozen? ⟨b, o, none⟩) :=
  ⟨fun b o h => hb.cell (p := ⟨b, o, none⟩) h, fun b o h => hb.frozen (p := ⟨b, o, none⟩) h⟩
theorem dmeets_form (t px py r : Int) (W H : Int) (a : Option Addr) (n c B : Nat) (xs : List Int) (w : World) (h : By w B a n xs) (hB : B ≤ w.heap.size) (hn : n ≤ 140737488355328) (g : ¬ GOk W H n xs) :
    Calls Tryd.prog 49 #[.agg #[.int .i64 W, .int .i64 H, .slice a n c], .int .i64 t, .agg #[.int .i64 px, .int .i64 py], .int .i64 r] w fun e' w' => e' = .returned (.tuple #[.bool false, .int .i64 1]) ∧ Below w.heap.size w w' := by
  have EQ : Hk (gE W H n xs = 1) := ⟨gE_no g⟩
  clear g
  have HH := Hk.mk ((h.alloc hB (.cells #[.int .i64 W, .int .i64 H, .slice a n c] 24)).alloc (by simp; omega) (.cells #[.int .i64 px, .int .i64 py] 38))
  have hB' : B ≤ ((w.alloc (.cells #[.int .i64 W, .int .i64 H, .slice a n c] 24)).alloc (.cells #[.int .i64 px, .int .i64 py] 38)).heap.size := by simp; omega
  clear h
  go_enter Tryd.func49, Tryd.ntmps49
  go_wp2_with (go_at_call 15; (with_reducible refine (check_as 1 W H a n c B xs _ HH.out hB' hn EQ).mono ?_); rintro e w1 ⟨rfl, hb1⟩; obtain ⟨hc1, hf1⟩ := bcellg' hb1; have hz1 := hb1.size; simp at hz1; have q0 : w.heap.size < w1.heap.size := (by omega); have q1 : w.heap.size + 1 < w1.heap.size := (by omega); clear hz1; have HB1 := Hk.mk hb1; clear hb1)
  go_ret2
  exact ⟨rfl, ((((Below.refl _ _).alloc (Nat.le_refl _) _).alloc (by simp) _).trans (HB1.out.mono (by simp <;> omega)))⟩
theorem dmeets_may (t px py r : Int) (W H : Int) (a : Option Addr) (n c B : Nat) (xs : List Int) (w : World) (h : By w B a n xs) (hB : B ≤ w.heap.size) (hn : n ≤ 140737488355328) (g : GOk W H n xs) (EF : Hk (fmD px py r = false)) :
    Calls Tryd.prog 49 #[.agg #[.int .i64 W, .int .i64 H, .slice a n c], .int .i64 t, .agg #[.int .i64 px, .int .i64 py], .int .i64 r] w fun e' w' => e' = .returned (.tuple #[.bool false, .int .i64 1]) ∧ Below w.heap.size w w' := by
  have EQ : Hk (gE W H n xs = 0) := ⟨gE_yes g⟩
  clear g
  have HH := Hk.mk ((h.alloc hB (.cells #[.int .i64 W, .int .i64 H, .slice a n c] 24)).alloc (by simp; omega) (.cells #[.int .i64 px, .int .i64 py] 38))
  have hB' : B ≤ ((w.alloc (.cells #[.int .i64 W, .int .i64 H, .slice a n c] 24)).alloc (.cells #[.int .i64 px, .int .i64 py] 38)).heap.size := by simp; omega
  clear h
  go_enter Tryd.func49, Tryd.ntmps49
  go_wp2_with (first | (go_at_call 15; (with_reducible refine (check_as 0 W H a n c B xs _ HH.out hB' hn EQ).mono ?_); rintro e w1 ⟨rfl, hb1⟩; obtain ⟨hc1, hf1⟩ := bcellg' hb1; have hz1 := hb1.size; simp at hz1; have q0 : w.heap.size < w1.heap.size := (by omega); have q1 : w.heap.size + 1 < w1.heap.size := (by omega); clear hz1; have HB1 := Hk.mk hb1; clear hb1) | (go_at_call 68; (with_reducible refine (dformed_as false px py r _ EF).mono ?_); rintro e w2 ⟨rfl, hb2⟩; obtain ⟨hc2, hf2⟩ := bcellg' hb2; have hz2 := hb2.size; have q2 : w.heap.size < w2.heap.size := (by omega); have q3 : w.heap.size + 1 < w2.heap.size := (by omega); clear hz2; have HB2 := Hk.mk hb2; clear hb2))
  go_ret2
  exact ⟨rfl, (((((Below.refl _ _).alloc (Nat.le_refl _) _).alloc (by simp) _).trans (HB1.out.mono (by simp <;> omega))).trans (HB2.out.mono (by omega)))⟩
theorem dmeets_none (t px py r : Int) (W H : Int) (a : Option Addr) (n c B : Nat) (xs : List Int) (w : World) (h : By w B a n xs) (hB : B ≤ w.heap.size) (hn : n ≤ 140737488355328) (g : GOk W H n xs) (EF : Hk (fmD px py r = true)) (ht : ¬ (0 ≤ t ∧ t < W * H)) :
    Calls Tryd.prog 49 #[.agg #[.int .i64 W, .int .i64 H, .slice a n c], .int .i64 t, .agg #[.int .i64 px, .int .i64 py], .int .i64 r] w fun e' w' => e' = .returned (.tuple #[.bool false, .int .i64 3]) ∧ Below w.heap.size w w' := by
  have EQ : Hk (gE W H n xs = 0) := ⟨gE_yes g⟩
  have hnn : ¬ (0 ≤ t ∧ t < (n : Int)) := by rw [g.nn]; exact ht
  clear g ht
  by_cases t0 : t < 0
  · have b1 : decide (t < 0) = true := by simp; omega
    clear hnn
    have HH := Hk.mk ((h.alloc hB (.cells #[.int .i64 W, .int .i64 H, .slice a n c] 24)).alloc (by simp; omega) (.cells #[.int .i64 px, .int .i64 py] 38))
    have hB' : B ≤ ((w.alloc (.cells #[.int .i64 W, .int .i64 H, .slice a n c] 24)).alloc (.cells #[.int .i64 px, .int .i64 py] 38)).heap.size := by simp; omega
    clear h
    go_enter Tryd.func49, Tryd.ntmps49
    go_wp2_with (first | (go_at_call 15; (with_reducible refine (check_as 0 W H a n c B xs _ HH.out hB' hn EQ).mono ?_); rintro e w1 ⟨rfl, hb1⟩; obtain ⟨hc1, hf1⟩ := bcellg' hb1; have hz1 := hb1.size; simp at hz1; have q0 : w.heap.size < w1.heap.size := (by omega); have q1 : w.heap.size + 1 < w1.heap.size := (by omega); clear hz1; have HB1 := Hk.mk hb1; clear hb1) | (go_at_call 68; (with_reducible refine (dformed_as true px py r _ EF).mono ?_); rintro e w2 ⟨rfl, hb2⟩; obtain ⟨hc2, hf2⟩ := bcellg' hb2; have hz2 := hb2.size; have q2 : w.heap.size < w2.heap.size := (by omega); have q3 : w.heap.size + 1 < w2.heap.size := (by omega); clear hz2; have HB2 := Hk.mk hb2; clear hb2))
    go_ret2
    exact ⟨rfl, (((((Below.refl _ _).alloc (Nat.le_refl _) _).alloc (by simp) _).trans (HB1.out.mono (by simp <;> omega))).trans (HB2.out.mono (by omega)))⟩
  · have b1 : decide (t < 0) = false := by simp; omega
    have b2 : decide ((n : Int) ≤ t) = true := by simp; omega
    clear hnn
    have HH := Hk.mk ((h.alloc hB (.cells #[.int .i64 W, .int .i64 H, .slice a n c] 24)).alloc (by simp; omega) (.cells #[.int .i64 px, .int .i64 py] 38))
    have hB' : B ≤ ((w.alloc (.cells #[.int .i64 W, .int .i64 H, .slice a n c] 24)).alloc (.cells #[.int .i64 px, .int .i64 py] 38)).heap.size := by simp; omega
    clear h
    go_enter Tryd.func49, Tryd.ntmps49
    go_wp2_with (first | (go_at_call 15; (with_reducible refine (check_as 0 W H a n c B xs _ HH.out hB' hn EQ).mono ?_); rintro e w1 ⟨rfl, hb1⟩; obtain ⟨hc1, hf1⟩ := bcellg' hb1; have hz1 := hb1.size; simp at hz1; have q0 : w.heap.size < w1.heap.size := (by omega); have q1 : w.heap.size + 1 < w1.heap.size := (by omega); clear hz1; have HB1 := Hk.mk hb1; clear hb1) | (go_at_call 68; (with_reducible refine (dformed_as true px py r _ EF).mono ?_); rintro e w2 ⟨rfl, hb2⟩; obtain ⟨hc2, hf2⟩ := bcellg' hb2; have hz2 := hb2.size; have q2 : w.heap.size < w2.heap.size := (by omega); have q3 : w.heap.size + 1 < w2.heap.size := (by omega); clear hz2; have HB2 := Hk.mk hb2; clear hb2))
    go_ret2
    exact ⟨rfl, (((((Below.refl _ _).alloc (Nat.le_refl _) _).alloc (by simp) _).trans (HB1.out.mono (by simp <;> omega))).trans (HB2.out.mono (by omega)))⟩
theorem dmeets_yes (t px py r : Int) (W H : Int) (a : Option Addr) (n c B : Nat) (xs : List Int) (w : World) (h : By w B a n xs) (hB : B ≤ w.heap.size) (hn : n ≤ 140737488355328) (g : GOk W H n xs) (EF : Hk (fmD px py r = true)) (t0 : 0 ≤ t) (t1 : t < W * H) :
    Calls Tryd.prog 49 #[.agg #[.int .i64 W, .int .i64 H, .slice a n c], .int .i64 t, .agg #[.int .i64 px, .int .i64 py], .int .i64 r] w fun e' w' => e' = .returned (.tuple #[.bool (meetsS W t px py r), .int .i64 0]) ∧ Below w.heap.size w w' := by
  have EQ : Hk (gE W H n xs = 0) := ⟨gE_yes g⟩
  obtain ⟨m1, m2⟩ := mul_bd g.w1 g.w2 g.h1 g.h2
  have w1' := g.w1
  have w2' := g.w2
  have hnn : t < (n : Int) := by rw [g.nn]; exact t1
  obtain ⟨hr1, hr2, hx1, hx2, hy1, hy2⟩ : 0 ≤ r ∧ r ≤ 262144 ∧ -1099511627776 ≤ px ∧ px ≤ 1099511627776 ∧ -1099511627776 ≤ py ∧ py ≤ 1099511627776 := by have := EF.out; unfold fmD at this; simpa using this
  clear g
  have b1 : decide (t < 0) = false := by simp; omega
  have b2 : decide ((n : Int) ≤ t) = false := by simp; omega
  have HH := Hk.mk ((h.alloc hB (.cells #[.int .i64 W, .int .i64 H, .slice a n c] 24)).alloc (by simp; omega) (.cells #[.int .i64 px, .int .i64 py] 38))
  have hB' : B ≤ ((w.alloc (.cells #[.int .i64 W, .int .i64 H, .slice a n c] 24)).alloc (.cells #[.int .i64 px, .int .i64 py] 38)).heap.size := by simp; omega
  clear h
  go_enter Tryd.func49, Tryd.ntmps49
  go_wp2_with (first | (go_at_call 15; (with_reducible refine (check_as 0 W H a n c B xs _ HH.out hB' hn EQ).mono ?_); rintro e w1 ⟨rfl, hb1⟩; obtain ⟨hc1, hf1⟩ := bcellg' hb1; have hz1 := hb1.size; simp at hz1; have q0 : w.heap.size < w1.heap.size := (by omega); have q1 : w.heap.size + 1 < w1.heap.size := (by omega); clear hz1; have HB1 := Hk.mk hb1; clear hb1) | (go_at_call 68; (with_reducible refine (dformed_as true px py r _ EF).mono ?_); rintro e w2 ⟨rfl, hb2⟩; obtain ⟨hc2, hf2⟩ := bcellg' hb2; have hz2 := hb2.size; have q2 : w.heap.size < w2.heap.size := (by omega); have q3 : w.heap.size + 1 < w2.heap.size := (by omega); clear hz2; have HB2 := Hk.mk hb2; clear hb2) | (go_at_call 71; (with_reducible refine (tmeets_any W t px py r _ w1' w2' t0 (by omega) ⟨hx1, hx2⟩ ⟨hy1, hy2⟩ ⟨hr1, hr2⟩).mono ?_); rintro e w3 ⟨rfl, hb3⟩; have HB3 := Hk.mk hb3; clear hb3))
  go_ret2
  exact ⟨rfl, ((((((Below.refl _ _).alloc (Nat.le_refl _) _).alloc (by simp) _).trans (HB1.out.mono (by simp <;> omega))).trans (HB2.out.mono (by omega)))).trans (HB3.out.mono (by omega))⟩
theorem m_wakes : meetsS 1 0 32768 32768 1 = true := by decide
theorem wakes17_any (w : World) : Calls Tryd.prog 44 #[] w fun e w' => e = .returned (.bool true) ∧ Below w.heap.size w w' := by
  have HG : Hk (GOk 1 1 1 [0]) := ⟨by omega, by omega, by omega, by omega, by decide, by decide⟩
  have HBY := Hk.mk (By.lit w [0] 5 (0, 0) (w.heap.size + 1) 1 rfl (by intro b hb; simp at hb; subst hb; unfold Fn.Byt; omega) (by omega))
  have hmk : ∀ w, (Instr.makeSlice 22 (.int .i64 1) (.int .i64 1)).run Tryd.prog w = .ok (.slice (some ⟨w.heap.size, 0, none⟩) 1 1) (w.alloc (.cells #[.int .u8 0] 5)) := fun _ => by kernel_rfl
  have EF : Hk (fmD 32768 32768 1 = true) := ⟨by decide⟩
  have EM := Hk.mk m_wakes
  go_enter Tryd.func44, Tryd.ntmps44
  go_wp2_with (first | (go_at_call 49; go_must (refine (dmeets_yes 0 32768 32768 1 1 1 (some ⟨w.heap.size, 0, none⟩) 1 1 (w.heap.size + 1) [0] _ HBY.out (by simp) (by omega) HG.out EF (by omega) (by omega)).mono ?_); rw [EM.out]; rintro e w1 ⟨rfl, hb1⟩; have HB1 := Hk.mk hb1; clear hb1) | (go_at_call 43; (with_reducible refine (num17_any _ _).mono ?_); rintro e w' ⟨rfl, rfl⟩))
  go_ret
  exact ⟨rfl, ((Below.refl _ _).alloc (Nat.le_refl _) _).trans (HB1.out.mono (by simp <;> omega))⟩
end Go.Proofs.YtjjodfdmbiebnaaDoor
/- Layer 6: whether a number is a tile's. -/
namespace Go.Proofs.YtjjodfdmbiebnaaDoor
open Go.RowKit
set_option linter.unusedVariables false
theorem bcellg {W w1 : World} (hb : Below W.heap.size W w1) : (∀ b o, b < W.heap.size → w1.cell? ⟨b, o, none⟩ = W.cell? ⟨b, o, none⟩) ∧ (∀ b o, b < W.heap.size → w1.frozen? ⟨b, o, none⟩ = W.frozen? ⟨b, o, none⟩) :=
  ⟨fun b o h => hb.cell (p := ⟨b, o, none⟩) h, fun b o h => hb.frozen (p := ⟨b, o, none⟩) h⟩
def ctE (W H : Int) (n : Nat) (xs : List Int) (t : Int) : Int := if gB W H n xs = true then (if 0 ≤ t ∧ t < W * H then 0 else 3) else 1
theorem ctE_yes {W H t : Int} {n : Nat} {xs : List Int} (g : GOk W H n xs) (h0 : 0 ≤ t) (h1 : t < W * H) : ctE W H n xs t = 0 := by unfold ctE; rw [if_pos (gB_yes g), if_pos ⟨h0, h1⟩]
theorem ctE_none {W H t : Int} {n : Nat} {xs : List Int} (g : GOk W H n xs) (h : ¬ (0 ≤ t ∧ t < W * H)) : ctE W H n xs t = 3 := by unfold ctE; rw [if_pos (gB_yes g), if_neg h]
theorem ctE_form {W H t : Int} {n : Nat} {xs : List Int} (g : ¬ GOk W H n xs) : ctE W H n xs t = 1 := by unfold ctE; rw [if_neg (by rw [gB_no g]; decide)]
theorem ct_any (t : Int) (W H : Int) (a : Option Addr) (n c B : Nat) (xs : List Int) (w : World) (h : By w B a n xs) (hB : B ≤ w.heap.size) (hn : n ≤ 140737488355328) :
    Calls Tryd.prog 51 #[.agg #[.int .i64 W, .int .i64 H, .slice a n c], .int .i64 t] w fun e' w' => e' = .returned (.int .i64 (ctE W H n xs t)) ∧ Below w.heap.size w w' := by
  have HH := Hk.mk (h.alloc hB (.cells #[.int .i64 W, .int .i64 H, .slice a n c] 24))
  have hB' : B ≤ (w.alloc (.cells #[.int .i64 W, .int .i64 H, .slice a n c] 24)).heap.size := by simp; omega
  by_cases g : GOk W H n xs
  · obtain ⟨m1, m2⟩ := mul_bd g.w1 g.w2 g.h1 g.h2
    have EQ : Hk (gE W H n xs = 0) := ⟨gE_yes g⟩
    have GG := Hk.mk g
    clear h g
    by_cases t0 : t < 0
    · have R := Hk.mk (ctE_none (t := t) GG.out (by omega))
      have b1 : decide (t < 0) = true := by simp; omega
      go_enter Tryd.func51, Tryd.ntmps51
      go_wp2_with (go_at_call 15; (with_reducible refine (check_as 0 W H a n c B xs _ HH.out hB' hn EQ).mono ?_); rintro e w1 ⟨rfl, hb1⟩; obtain ⟨hc1, hf1⟩ := bcellg hb1; have hz1 := hb1.size; simp at hz1; have HB1 := Hk.mk hb1; clear hb1)
      go_ret
      exact ⟨ri R.out.symm, ((Below.refl _ _).alloc (Nat.le_refl _) _).trans (HB1.out.mono (by simp))⟩
    · have b1 : decide (t < 0) = false := by simp; omega
      by_cases t1 : W * H ≤ t
      · have R := Hk.mk (ctE_none (t := t) GG.out (by omega))
        have b2 : decide (W * H ≤ t) = true := by simp; omega
        go_enter Tryd.func51, Tryd.ntmps51
        go_wp2_with (go_at_call 15; (with_reducible refine (check_as 0 W H a n c B xs _ HH.out hB' hn EQ).mono ?_); rintro e w1 ⟨rfl, hb1⟩; obtain ⟨hc1, hf1⟩ := bcellg hb1; have hz1 := hb1.size; simp at hz1; have HB1 := Hk.mk hb1; clear hb1)
        go_ret
        exact ⟨ri R.out.symm, ((Below.refl _ _).alloc (Nat.le_refl _) _).trans (HB1.out.mono (by simp))⟩
      · have R := Hk.mk (ctE_yes (t := t) GG.out (by omega) (by omega))
        have b2 : decide (W * H ≤ t) = false := by simp; omega
        go_enter Tryd.func51, Tryd.ntmps51
        go_wp2_with (go_at_call 15; (with_reducible refine (check_as 0 W H a n c B xs _ HH.out hB' hn EQ).mono ?_); rintro e w1 ⟨rfl, hb1⟩; obtain ⟨hc1, hf1⟩ := bcellg hb1; have hz1 := hb1.size; simp at hz1; have HB1 := Hk.mk hb1; clear hb1)
        go_ret
        exact ⟨ri R.out.symm, ((Below.refl _ _).alloc (Nat.le_refl _) _).trans (HB1.out.mono (by simp))⟩
  · have EQ : Hk (gE W H n xs = 1) := ⟨gE_no g⟩
    have R := Hk.mk (ctE_form (t := t) g)
    clear h g
    go_enter Tryd.func51, Tryd.ntmps51
    go_wp2_with (go_at_call 15; (with_reducible refine (check_as 1 W H a n c B xs _ HH.out hB' hn EQ).mono ?_); rintro e w1 ⟨rfl, hb1⟩; obtain ⟨hc1, hf1⟩ := bcellg hb1; have hz1 := hb1.size; simp at hz1; have HB1 := Hk.mk hb1; clear hb1)
    go_ret
    exact ⟨ri R.out.symm, ((Below.refl _ _).alloc (Nat.le_refl _) _).trans (HB1.out.mono (by simp))⟩
theorem ct_as (e t : Int) (W H : Int) (a : Option Addr) (n c B : Nat) (xs : List Int) (w : World) (h : By w B a n xs) (hB : B ≤ w.heap.size) (hn : n ≤ 140737488355328) (E : Hk (ctE W H n xs t = e)) :
    Calls Tryd.prog 51 #[.agg #[.int .i64 W, .int .i64 H, .slice a n c], .int .i64 t] w fun e' w' => e' = .returned (.int .i64 e) ∧ Below w.heap.size w w' := by
  obtain ⟨rfl⟩ := E; exact ct_any t W H a n c B xs w h hB hn
end Go.Proofs.YtjjodfdmbiebnaaDoor
