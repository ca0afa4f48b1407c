/- Layer 5: what each call answers. -/
import Derived.Test.YtdammgpflfoppacDoorKna
namespace Go.Proofs.YtdammgpflfoppacDoor
open Go.RowKit
set_option linter.unusedVariables false
def kAgg (k : Nat) : Value := .agg #[.int .i64 (kL.getD (k * 5) 0), .int .i64 (kL.getD (k * 5 + 1) 0), .int .i64 (kL.getD (k * 5 + 2) 0), .int .i64 (kL.getD (k * 5 + 3) 0), .int .i64 (kL.getD (k * 5 + 4) 0)]
def noAgg : Value := .agg #[.int .i64 0, .int .i64 0, .int .i64 0, .int .i64 0, .int .i64 0]
def costS (c t : Nat) : Int := cL.getD (c * 6 + t) 0
theorem num5_any (n : Int) (w : World) : Calls Tryd.prog 8 #[.int .i64 n] w fun e w' => e = .returned (.int .i64 n) ∧ w = w' := by
  go_enter Tryd.func8, Tryd.ntmps8
  go_wp2
  go_ret
  exact ⟨rfl, rfl⟩
theorem of0 (w : World) (h : LK w) : Calls Tryd.prog 6 #[.int .i64 0] w fun e w' => e = .returned (.tuple #[.agg #[.int .i64 24576, .int .i64 16384, .int .i64 0, .int .i64 0, .int .i64 0], .int .i64 0]) ∧ Below w.heap.size w w' := by
  have c0 : w.cell? ⟨0, 0, none⟩ = some (.int .i64 24576) := h.kinds 0 0 (by omega) (by omega)
  have c1 : w.cell? ⟨0, 1, none⟩ = some (.int .i64 16384) := h.kinds 0 1 (by omega) (by omega)
  have c2 : w.cell? ⟨0, 2, none⟩ = some (.int .i64 0) := h.kinds 0 2 (by omega) (by omega)
  have c3 : w.cell? ⟨0, 3, none⟩ = some (.int .i64 0) := h.kinds 0 3 (by omega) (by omega)
  have c4 : w.cell? ⟨0, 4, none⟩ = some (.int .i64 0) := h.kinds 0 4 (by omega) (by omega)
  have hs := h.size
  have hs0 : 0 < w.heap.size := by omega
  have hne : ¬ w.heap.size = 0 := by omega
  have hne2 : ¬ 0 = w.heap.size := by omega
  clear h
  go_enter Tryd.func6, Tryd.ntmps6
  go_wp2
  refine bodyPost_ret (v := .tuple #[.agg #[.int .i64 24576, .int .i64 16384, .int .i64 0, .int .i64 0, .int .i64 0], .int .i64 0]) (by simp [results, Tryd.results6, go_sem]) rfl ⟨rfl, ?_⟩
  exact (Below.refl _ _).alloc (Nat.le_refl _) _
theorem rof0 (w : World) : Calls Tryd.prog 7 #[.int .i64 0] w fun e w' => e = .returned (.tuple #[.agg #[.int .i64 24576, .int .i64 16384, .int .i64 0, .int .i64 0, .int .i64 0], .bool true]) ∧ Below w.heap.size w w' := by
  go_enter Tryd.func7, Tryd.ntmps7
  go_wp2
  refine bodyPost_ret (v := .tuple #[.agg #[.int .i64 24576, .int .i64 16384, .int .i64 0, .int .i64 0, .int .i64 0], .bool true]) (by simp [results, Tryd.results7, go_sem]) rfl ⟨rfl, ?_⟩
  exact (Below.refl _ _).alloc (Nat.le_refl _) _
theorem of1 (w : World) (h : LK w) : Calls Tryd.prog 6 #[.int .i64 1] w fun e w' => e = .returned (.tuple #[.agg #[.int .i64 32768, .int .i64 24576, .int .i64 1, .int .i64 0, .int .i64 0], .int .i64 0]) ∧ Below w.heap.size w w' := by
  have c0 : w.cell? ⟨0, 5, none⟩ = some (.int .i64 32768) := h.kinds 1 0 (by omega) (by omega)
  have c1 : w.cell? ⟨0, 6, none⟩ = some (.int .i64 24576) := h.kinds 1 1 (by omega) (by omega)
  have c2 : w.cell? ⟨0, 7, none⟩ = some (.int .i64 1) := h.kinds 1 2 (by omega) (by omega)
  have c3 : w.cell? ⟨0, 8, none⟩ = some (.int .i64 0) := h.kinds 1 3 (by omega) (by omega)
  have c4 : w.cell? ⟨0, 9, none⟩ = some (.int .i64 0) := h.kinds 1 4 (by omega) (by omega)
  have hs := h.size
  have hs0 : 0 < w.heap.size := by omega
  have hne : ¬ w.heap.size = 0 := by omega
  have hne2 : ¬ 0 = w.heap.size := by omega
  clear h
  go_enter Tryd.func6, Tryd.ntmps6
  go_wp2
  refine bodyPost_ret (v := .tuple #[.agg #[.int .i64 32768, .int .i64 24576, .int .i64 1, .int .i64 0, .int .i64 0], .int .i64 0]) (by simp [results, Tryd.results6, go_sem]) rfl ⟨rfl, ?_⟩
  exact (Below.refl _ _).alloc (Nat.le_refl _) _
theorem rof1 (w : World) : Calls Tryd.prog 7 #[.int .i64 1] w fun e w' => e = .returned (.tuple #[.agg #[.int .i64 32768, .int .i64 24576, .int .i64 1, .int .i64 0, .int .i64 0], .bool true]) ∧ Below w.heap.size w w' := by
  go_enter Tryd.func7, Tryd.ntmps7
  go_wp2
  refine bodyPost_ret (v := .tuple #[.agg #[.int .i64 32768, .int .i64 24576, .int .i64 1, .int .i64 0, .int .i64 0], .bool true]) (by simp [results, Tryd.results7, go_sem]) rfl ⟨rfl, ?_⟩
  exact (Below.refl _ _).alloc (Nat.le_refl _) _
theorem of2 (w : World) (h : LK w) : Calls Tryd.prog 6 #[.int .i64 2] w fun e w' => e = .returned (.tuple #[.agg #[.int .i64 81920, .int .i64 8192, .int .i64 0, .int .i64 1, .int .i64 0], .int .i64 0]) ∧ Below w.heap.size w w' := by
  have c0 : w.cell? ⟨0, 10, none⟩ = some (.int .i64 81920) := h.kinds 2 0 (by omega) (by omega)
  have c1 : w.cell? ⟨0, 11, none⟩ = some (.int .i64 8192) := h.kinds 2 1 (by omega) (by omega)
  have c2 : w.cell? ⟨0, 12, none⟩ = some (.int .i64 0) := h.kinds 2 2 (by omega) (by omega)
  have c3 : w.cell? ⟨0, 13, none⟩ = some (.int .i64 1) := h.kinds 2 3 (by omega) (by omega)
  have c4 : w.cell? ⟨0, 14, none⟩ = some (.int .i64 0) := h.kinds 2 4 (by omega) (by omega)
  have hs := h.size
  have hs0 : 0 < w.heap.size := by omega
  have hne : ¬ w.heap.size = 0 := by omega
  have hne2 : ¬ 0 = w.heap.size := by omega
  clear h
  go_enter Tryd.func6, Tryd.ntmps6
  go_wp2
  refine bodyPost_ret (v := .tuple #[.agg #[.int .i64 81920, .int .i64 8192, .int .i64 0, .int .i64 1, .int .i64 0], .int .i64 0]) (by simp [results, Tryd.results6, go_sem]) rfl ⟨rfl, ?_⟩
  exact (Below.refl _ _).alloc (Nat.le_refl _) _
theorem rof2 (w : World) : Calls Tryd.prog 7 #[.int .i64 2] w fun e w' => e = .returned (.tuple #[.agg #[.int .i64 81920, .int .i64 8192, .int .i64 0, .int .i64 1, .int .i64 0], .bool true]) ∧ Below w.heap.size w w' := by
  go_enter Tryd.func7, Tryd.ntmps7
  go_wp2
  refine bodyPost_ret (v := .tuple #[.agg #[.int .i64 81920, .int .i64 8192, .int .i64 0, .int .i64 1, .int .i64 0], .bool true]) (by simp [results, Tryd.results7, go_sem]) rfl ⟨rfl, ?_⟩
  exact (Below.refl _ _).alloc (Nat.le_refl _) _
theorem of3 (w : World) (h : LK w) : Calls Tryd.prog 6 #[.int .i64 3] w fun e w' => e = .returned (.tuple #[.agg #[.int .i64 32768, .int .i64 16384, .int .i64 2, .int .i64 0, .int .i64 4], .int .i64 0]) ∧ Below w.heap.size w w' := by
  have c0 : w.cell? ⟨0, 15, none⟩ = some (.int .i64 32768) := h.kinds 3 0 (by omega) (by omega)
  have c1 : w.cell? ⟨0, 16, none⟩ = some (.int .i64 16384) := h.kinds 3 1 (by omega) (by omega)
  have c2 : w.cell? ⟨0, 17, none⟩ = some (.int .i64 2) := h.kinds 3 2 (by omega) (by omega)
  have c3 : w.cell? ⟨0, 18, none⟩ = some (.int .i64 0) := h.kinds 3 3 (by omega) (by omega)
  have c4 : w.cell? ⟨0, 19, none⟩ = some (.int .i64 4) := h.kinds 3 4 (by omega) (by omega)
  have hs := h.size
  have hs0 : 0 < w.heap.size := by omega
  have hne : ¬ w.heap.size = 0 := by omega
  have hne2 : ¬ 0 = w.heap.size := by omega
  clear h
  go_enter Tryd.func6, Tryd.ntmps6
  go_wp2
  refine bodyPost_ret (v := .tuple #[.agg #[.int .i64 32768, .int .i64 16384, .int .i64 2, .int .i64 0, .int .i64 4], .int .i64 0]) (by simp [results, Tryd.results6, go_sem]) rfl ⟨rfl, ?_⟩
  exact (Below.refl _ _).alloc (Nat.le_refl _) _
theorem rof3 (w : World) : Calls Tryd.prog 7 #[.int .i64 3] w fun e w' => e = .returned (.tuple #[.agg #[.int .i64 32768, .int .i64 16384, .int .i64 2, .int .i64 0, .int .i64 4], .bool true]) ∧ Below w.heap.size w w' := by
  go_enter Tryd.func7, Tryd.ntmps7
  go_wp2
  refine bodyPost_ret (v := .tuple #[.agg #[.int .i64 32768, .int .i64 16384, .int .i64 2, .int .i64 0, .int .i64 4], .bool true]) (by simp [results, Tryd.results7, go_sem]) rfl ⟨rfl, ?_⟩
  exact (Below.refl _ _).alloc (Nat.le_refl _) _
theorem cost_any (c t : Nat) (w : World) (h : LK w) (hc : c < 3) (ht : t < 6) : Calls Tryd.prog 9 #[.int .i64 c, .int .u8 t] w fun e w' => e = .returned (.tuple #[.int .i64 (costS c t), .int .i64 0]) ∧ w = w' := by
  have c0 : w.cell? ⟨1, c * 6 + t, none⟩ = some (.int .i64 (costS c t)) := h.costs c t hc ht
  clear h
  have g1 : decide ((c : Int) < 0) = false := by simp
  have g2 : decide ((2 : Int) < (c : Int)) = false := by simp; omega
  have g3 : decide ((5 : Int) < (t : Int)) = false := by simp; omega
  have i1 : (c : Int) < 3 := by omega
  have i2 : (t : Int) < 6 := by omega
  generalize costS c t = r at *
  go_enter Tryd.func9, Tryd.ntmps9
  go_wp2
  go_ret2
  exact ⟨rfl, rfl⟩
theorem cost_as (c t : Nat) (x y r : Int) (w : World) (h : LK w) (hc : c < 3) (ht : t < 6) (hx : Hk (x = c)) (hy : Hk (y = t)) (hr : Hk (costS c t = r)) : Calls Tryd.prog 9 #[.int .i64 x, .int .u8 y] w fun e w' => e = .returned (.tuple #[.int .i64 r, .int .i64 0]) ∧ w = w' := by
  rw [hx.out, hy.out, ← hr.out]; exact cost_any c t w h hc ht
theorem wakes5_any (w : World) (h : LK w) : Calls Tryd.prog 12 #[] w fun e w' => e = .returned (.bool true) ∧ w = w' := by
  have HLK := Hk.mk h
  clear h
  go_enter Tryd.func12, Tryd.ntmps12
  go_wp2_with (first | (go_at_call 9; (refine (cost_as 2 4 _ _ 2 _ HLK.out (by omega) (by omega) ⟨by omega⟩ ⟨by omega⟩ ⟨by decide⟩).mono ?_); rintro e w' ⟨rfl, rfl⟩) | (go_at_call 8; (with_reducible refine (num5_any _ _).mono ?_); rintro e w' ⟨rfl, rfl⟩))
  go_ret
  exact ⟨rfl, rfl⟩
end Go.Proofs.YtdammgpflfoppacDoor
