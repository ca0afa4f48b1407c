/- Layer 6: the neighbours of a tile. -/
import Derived.Test.YtjjodfdmbiebnaaDoorGrg
namespace Go.Proofs.YtjjodfdmbiebnaaDoor
open Go.RowKit
set_option linter.unusedVariables false
/-- The eight cells of the answer under way, and the result's behind. -/
structure N8 (w0 w : World) (F : Nat → Int) : Prop where
  c : ∀ j, j < 8 → w.cell? ⟨w0.heap.size + 1, j, none⟩ = some (.int .i64 (F j))
  f : ∀ j, w.frozen? ⟨w0.heap.size + 1, j, none⟩ = false
  d : ∀ j, j < 8 → w.cell? ⟨w0.heap.size, j, none⟩ = some (.int .i64 0)
  g : ∀ j, w.frozen? ⟨w0.heap.size, j, none⟩ = false
  hs : w0.heap.size + 1 < w.heap.size
  hB : Below w0.heap.size w0 w
theorem N8.start (w : World) : N8 w ((w.alloc (.cells #[.int .i64 0, .int .i64 0, .int .i64 0, .int .i64 0, .int .i64 0, .int .i64 0, .int .i64 0, .int .i64 0] 84)).alloc (.cells #[.int .i64 0, .int .i64 0, .int .i64 0, .int .i64 0, .int .i64 0, .int .i64 0, .int .i64 0, .int .i64 0] 84)) (fun _ => 0) := by
  refine ⟨fun j hj => ?_, fun j => ?_, fun j hj => ?_, fun j => ?_, by simp, ((Below.refl _ _).alloc (Nat.le_refl _) _).alloc (by simp) _⟩
  · match j, hj with
    | 0, _ | 1, _ | 2, _ | 3, _ | 4, _ | 5, _ | 6, _ | 7, _ => go_simp
  · go_simp
  · match j, hj with
    | 0, _ | 1, _ | 2, _ | 3, _ | 4, _ | 5, _ | 6, _ | 7, _ => go_simp
  · go_simp
theorem N8.next {w0 w w' : World} {F : Nat → Int} (h : N8 w0 w F) (hb : Below w.heap.size w w') : N8 w0 w' F := by
  have hs := h.hs
  have a0 : w0.heap.size < w.heap.size := by omega
  exact ⟨fun j hj => (hb.cell (p := ⟨w0.heap.size + 1, j, none⟩) hs).trans (h.c j hj), fun j => (hb.frozen (p := ⟨w0.heap.size + 1, j, none⟩) hs).trans (h.f j),
    fun j hj => (hb.cell (p := ⟨w0.heap.size, j, none⟩) a0).trans (h.d j hj), fun j => (hb.frozen (p := ⟨w0.heap.size, j, none⟩) a0).trans (h.g j), Nat.lt_of_lt_of_le hs hb.size, h.hB.trans (hb.mono h.hB.size)⟩
theorem N8.alloc {w0 w : World} {F : Nat → Int} (h : N8 w0 w F) (o : Obj) : N8 w0 (w.alloc o) F := h.next ((Below.refl _ _).alloc (Nat.le_refl _) _)
theorem N8.drewN {w0 w : World} {F : Nat → Int} (h : N8 w0 w F) (n : Nat) : N8 w0 (w.drewN n) F := ⟨h.c, h.f, h.d, h.g, h.hs, below_drewN h.hB n⟩
theorem N8.set {w0 w : World} {F G : Nat → Int} (h : N8 w0 w F) (k : Nat) (v : Int) (hk : k < 8) (e : G k = v) (e' : ∀ j, j < 8 → j ≠ k → G j = F j) : N8 w0 (w.setCell ⟨w0.heap.size + 1, k, none⟩ (.int .i64 v)) G := by
  refine ⟨fun j hj => ?_, fun j => ?_, fun j hj => ?_, fun j => ?_, ?_, ?_⟩
  · by_cases ej : j = k
    · subst ej; rw [e]; exact World.cell?_setCell_same _ _ _ (u := .int .i64 (F j)) (h.c j hj)
    · rw [World.cell?_setCell_other _ _ _ _ (by simp <;> omega), e' j hj ej]; exact h.c j hj
  · simpa using h.f j
  · rw [World.cell?_setCell_other _ _ _ _ (by simp)]; exact h.d j hj
  · simpa using h.g j
  · simpa using h.hs
  · exact h.hB.setCell (by simp) _
theorem nbS_yes {W H t dx dy : Int} (a : 0 ≤ t % W + dx) (b : t % W + dx < W) (c : 0 ≤ t / W + dy) (d : t / W + dy < H) : nbS W H t dx dy = t % W + dx + W * (t / W + dy) := by unfold nbS; rw [if_pos ⟨a, b, c, d⟩]
theorem nbS_no {W H t dx dy : Int} (h : ¬ (0 ≤ t % W + dx ∧ t % W + dx < W ∧ 0 ≤ t / W + dy ∧ t / W + dy < H)) : nbS W H t dx dy = -1 := by unfold nbS; rw [if_neg h]
theorem d_bd (k : Nat) : (-1 ≤ dxL.getD k 0 ∧ dxL.getD k 0 ≤ 1) ∧ (-1 ≤ dyL.getD k 0 ∧ dyL.getD k 0 ≤ 1) := by
  by_cases h : k < 8
  · match k, h with
    | 0, _ | 1, _ | 2, _ | 3, _ | 4, _ | 5, _ | 6, _ | 7, _ => decide
  · have e1 : dxL.getD k 0 = 0 := by unfold dxL; simp [List.getD]; rw [List.getElem?_eq_none (by simp; omega)]; rfl
    have e2 : dyL.getD k 0 = 0 := by unfold dyL; simp [List.getD]; rw [List.getElem?_eq_none (by simp; omega)]; rfl
    rw [e1, e2]; omega
set_option maxRecDepth 100000 in
theorem idx_any (k : Nat) (hk : k < 8) : ∀ w, (Instr.index 106 (.agg #[.int .i64 0, .int .i64 (-1), .int .i64 1, .int .i64 0, .int .i64 0, .int .i64 1, .int .i64 (-1), .int .i64 0, .int .i64 1, .int .i64 (-1), .int .i64 1, .int .i64 1, .int .i64 (-1), .int .i64 1, .int .i64 (-1), .int .i64 (-1)]) (.int .i64 k)).run Tryd.prog w = .ok (.agg #[.int .i64 (dxL.getD k 0), .int .i64 (dyL.getD k 0)]) w := by
  match k, hk with
  | 0, _ => exact fun w => by kernel_rfl
  | 1, _ => exact fun w => by kernel_rfl
  | 2, _ => exact fun w => by kernel_rfl
  | 3, _ => exact fun w => by kernel_rfl
  | 4, _ => exact fun w => by kernel_rfl
  | 5, _ => exact fun w => by kernel_rfl
  | 6, _ => exact fun w => by kernel_rfl
  | 7, _ => exact fun w => by kernel_rfl

set_option maxRecDepth 100000 in
set_option maxHeartbeats 1600000 in
theorem tnear_any (W H t : Int) (w : World) (hL : LT w) (w1 : 1 ≤ W) (w2 : W ≤ 128) (h1 : 1 ≤ H) (h2 : H ≤ 128) (t0 : 0 ≤ t) (t1 : t ≤ 16384) :
    Calls Tryd.prog 54 #[.int .i64 W, .int .i64 H, .int .i64 t] w fun e w' => e = .returned (.agg #[.int .i64 (nb W H t 0), .int .i64 (nb W H t 1), .int .i64 (nb W H t 2), .int .i64 (nb W H t 3), .int .i64 (nb W H t 4), .int .i64 (nb W H t 5), .int .i64 (nb W H t 6), .int .i64 (nb W H t 7)]) ∧ Below w.heap.size w w' := by
  have q1 : 0 ≤ t % W := Int.emod_nonneg _ (by omega)
  have q2 : t % W < W := Int.emod_lt_of_pos _ (by omega)
  have q3 : 0 ≤ t / W := Int.ediv_nonneg t0 (by omega)
  have q4 : t / W ≤ t := Int.ediv_le_self _ t0
  have w0 : ¬ W = 0 := by omega
  have hLL : LT ((w.alloc (.cells #[.int .i64 0, .int .i64 0, .int .i64 0, .int .i64 0, .int .i64 0, .int .i64 0, .int .i64 0, .int .i64 0] 84)).alloc (.cells #[.int .i64 0, .int .i64 0, .int .i64 0, .int .i64 0, .int .i64 0, .int .i64 0, .int .i64 0, .int .i64 0] 84)) := hL.below (((Below.refl _ _).alloc (Nat.le_refl _) _).alloc (by simp) _) (Nat.le_refl _)
  have o0 : ((w.alloc (.cells #[.int .i64 0, .int .i64 0, .int .i64 0, .int .i64 0, .int .i64 0, .int .i64 0, .int .i64 0, .int .i64 0] 84)).alloc (.cells #[.int .i64 0, .int .i64 0, .int .i64 0, .int .i64 0, .int .i64 0, .int .i64 0, .int .i64 0, .int .i64 0] 84)).cell? ⟨0, 0, none⟩ = some (.int .i64 0) := hLL.offs 0 0 (by omega) (by omega)
  have o1 : ((w.alloc (.cells #[.int .i64 0, .int .i64 0, .int .i64 0, .int .i64 0, .int .i64 0, .int .i64 0, .int .i64 0, .int .i64 0] 84)).alloc (.cells #[.int .i64 0, .int .i64 0, .int .i64 0, .int .i64 0, .int .i64 0, .int .i64 0, .int .i64 0, .int .i64 0] 84)).cell? ⟨0, 1, none⟩ = some (.int .i64 (-1)) := hLL.offs 0 1 (by omega) (by omega)
  have o2 : ((w.alloc (.cells #[.int .i64 0, .int .i64 0, .int .i64 0, .int .i64 0, .int .i64 0, .int .i64 0, .int .i64 0, .int .i64 0] 84)).alloc (.cells #[.int .i64 0, .int .i64 0, .int .i64 0, .int .i64 0, .int .i64 0, .int .i64 0, .int .i64 0, .int .i64 0] 84)).cell? ⟨0, 2, none⟩ = some (.int .i64 1) := hLL.offs 1 0 (by omega) (by omega)
  have o3 : ((w.alloc (.cells #[.int .i64 0, .int .i64 0, .int .i64 0, .int .i64 0, .int .i64 0, .int .i64 0, .int .i64 0, .int .i64 0] 84)).alloc (.cells #[.int .i64 0, .int .i64 0, .int .i64 0, .int .i64 0, .int .i64 0, .int .i64 0, .int .i64 0, .int .i64 0] 84)).cell? ⟨0, 3, none⟩ = some (.int .i64 0) := hLL.offs 1 1 (by omega) (by omega)
  have o4 : ((w.alloc (.cells #[.int .i64 0, .int .i64 0, .int .i64 0, .int .i64 0, .int .i64 0, .int .i64 0, .int .i64 0, .int .i64 0] 84)).alloc (.cells #[.int .i64 0, .int .i64 0, .int .i64 0, .int .i64 0, .int .i64 0, .int .i64 0, .int .i64 0, .int .i64 0] 84)).cell? ⟨0, 4, none⟩ = some (.int .i64 0) := hLL.offs 2 0 (by omega) (by omega)
  have o5 : ((w.alloc (.cells #[.int .i64 0, .int .i64 0, .int .i64 0, .int .i64 0, .int .i64 0, .int .i64 0, .int .i64 0, .int .i64 0] 84)).alloc (.cells #[.int .i64 0, .int .i64 0, .int .i64 0, .int .i64 0, .int .i64 0, .int .i64 0, .int .i64 0, .int .i64 0] 84)).cell? ⟨0, 5, none⟩ = some (.int .i64 1) := hLL.offs 2 1 (by omega) (by omega)
  have o6 : ((w.alloc (.cells #[.int .i64 0, .int .i64 0, .int .i64 0, .int .i64 0, .int .i64 0, .int .i64 0, .int .i64 0, .int .i64 0] 84)).alloc (.cells #[.int .i64 0, .int .i64 0, .int .i64 0, .int .i64 0, .int .i64 0, .int .i64 0, .int .i64 0, .int .i64 0] 84)).cell? ⟨0, 6, none⟩ = some (.int .i64 (-1)) := hLL.offs 3 0 (by omega) (by omega)
  have o7 : ((w.alloc (.cells #[.int .i64 0, .int .i64 0, .int .i64 0, .int .i64 0, .int .i64 0, .int .i64 0, .int .i64 0, .int .i64 0] 84)).alloc (.cells #[.int .i64 0, .int .i64 0, .int .i64 0, .int .i64 0, .int .i64 0, .int .i64 0, .int .i64 0, .int .i64 0] 84)).cell? ⟨0, 7, none⟩ = some (.int .i64 0) := hLL.offs 3 1 (by omega) (by omega)
  have o8 : ((w.alloc (.cells #[.int .i64 0, .int .i64 0, .int .i64 0, .int .i64 0, .int .i64 0, .int .i64 0, .int .i64 0, .int .i64 0] 84)).alloc (.cells #[.int .i64 0, .int .i64 0, .int .i64 0, .int .i64 0, .int .i64 0, .int .i64 0, .int .i64 0, .int .i64 0] 84)).cell? ⟨0, 8, none⟩ = some (.int .i64 1) := hLL.offs 4 0 (by omega) (by omega)
  have o9 : ((w.alloc (.cells #[.int .i64 0, .int .i64 0, .int .i64 0, .int .i64 0, .int .i64 0, .int .i64 0, .int .i64 0, .int .i64 0] 84)).alloc (.cells #[.int .i64 0, .int .i64 0, .int .i64 0, .int .i64 0, .int .i64 0, .int .i64 0, .int .i64 0, .int .i64 0] 84)).cell? ⟨0, 9, none⟩ = some (.int .i64 (-1)) := hLL.offs 4 1 (by omega) (by omega)
  have o10 : ((w.alloc (.cells #[.int .i64 0, .int .i64 0, .int .i64 0, .int .i64 0, .int .i64 0, .int .i64 0, .int .i64 0, .int .i64 0] 84)).alloc (.cells #[.int .i64 0, .int .i64 0, .int .i64 0, .int .i64 0, .int .i64 0, .int .i64 0, .int .i64 0, .int .i64 0] 84)).cell? ⟨0, 10, none⟩ = some (.int .i64 1) := hLL.offs 5 0 (by omega) (by omega)
  have o11 : ((w.alloc (.cells #[.int .i64 0, .int .i64 0, .int .i64 0, .int .i64 0, .int .i64 0, .int .i64 0, .int .i64 0, .int .i64 0] 84)).alloc (.cells #[.int .i64 0, .int .i64 0, .int .i64 0, .int .i64 0, .int .i64 0, .int .i64 0, .int .i64 0, .int .i64 0] 84)).cell? ⟨0, 11, none⟩ = some (.int .i64 1) := hLL.offs 5 1 (by omega) (by omega)
  have o12 : ((w.alloc (.cells #[.int .i64 0, .int .i64 0, .int .i64 0, .int .i64 0, .int .i64 0, .int .i64 0, .int .i64 0, .int .i64 0] 84)).alloc (.cells #[.int .i64 0, .int .i64 0, .int .i64 0, .int .i64 0, .int .i64 0, .int .i64 0, .int .i64 0, .int .i64 0] 84)).cell? ⟨0, 12, none⟩ = some (.int .i64 (-1)) := hLL.offs 6 0 (by omega) (by omega)
  have o13 : ((w.alloc (.cells #[.int .i64 0, .int .i64 0, .int .i64 0, .int .i64 0, .int .i64 0, .int .i64 0, .int .i64 0, .int .i64 0] 84)).alloc (.cells #[.int .i64 0, .int .i64 0, .int .i64 0, .int .i64 0, .int .i64 0, .int .i64 0, .int .i64 0, .int .i64 0] 84)).cell? ⟨0, 13, none⟩ = some (.int .i64 1) := hLL.offs 6 1 (by omega) (by omega)
  have o14 : ((w.alloc (.cells #[.int .i64 0, .int .i64 0, .int .i64 0, .int .i64 0, .int .i64 0, .int .i64 0, .int .i64 0, .int .i64 0] 84)).alloc (.cells #[.int .i64 0, .int .i64 0, .int .i64 0, .int .i64 0, .int .i64 0, .int .i64 0, .int .i64 0, .int .i64 0] 84)).cell? ⟨0, 14, none⟩ = some (.int .i64 (-1)) := hLL.offs 7 0 (by omega) (by omega)
  have o15 : ((w.alloc (.cells #[.int .i64 0, .int .i64 0, .int .i64 0, .int .i64 0, .int .i64 0, .int .i64 0, .int .i64 0, .int .i64 0] 84)).alloc (.cells #[.int .i64 0, .int .i64 0, .int .i64 0, .int .i64 0, .int .i64 0, .int .i64 0, .int .i64 0, .int .i64 0] 84)).cell? ⟨0, 15, none⟩ = some (.int .i64 (-1)) := hLL.offs 7 1 (by omega) (by omega)
  clear hLL hL
  go_enter Tryd.func54, Tryd.ntmps54
  have K0 := Hk.mk (N8.start w)
  go_wp2
  clear o0 o1 o2 o3 o4 o5 o6 o7 o8 o9 o10 o11 o12 o13 o14 o15
  go_loopw [13] (fun i wr => ∃ k : Nat, k ≤ 8 ∧ i = .int .i64 k ∧ Hk (N8 w wr (fun j => if j < k then nb W H t j else 0))) (fun i _ => 8 - (intOf i).toNat)
  case atStart => exact ⟨0, by omega, rfl, ⟨by simpa using K0.out⟩⟩
  case round =>
    clear K0
    obtain ⟨k, hk, rfl, HN⟩ := hrel
    by_cases hlt : k < 8
    · have hix := idx_any k hlt
      obtain ⟨⟨x1, x2⟩, y1, y2⟩ := d_bd k
      have HNB : Hk (nb W H t k = nbS W H t (dxL.getD k 0) (dyL.getD k 0)) := ⟨rfl⟩
      generalize dxL.getD k 0 = dx at *
      generalize dyL.getD k 0 = dy at *
      have j1 : (0 : Int) ≤ (k : Int) := by omega
      have j2 : (k : Int) < 8 := by omega
      have HA := Hk.mk (HN.out.alloc (.cells #[.int .i64 dx, .int .i64 dy] 105))
      have c0 := HA.out.c k hlt
      have f0 := HA.out.f k
      have r1 : t.tmod W = t % W := Int.tmod_eq_emod_of_nonneg t0
      have r2 : t.tdiv W = t / W := Int.tdiv_eq_ediv_of_nonneg t0
      have e1 : IntKind.i64.wrap (t % W + dx) = t % W + dx := wr_in (by omega)
      have e3 : IntKind.i64.wrap (t / W) = t / W := wr_in (by omega)
      have e2 : IntKind.i64.wrap (t / W + dy) = t / W + dy := wr_in (by omega)
      by_cases z0 : t % W + dx < 0
      · have b0 : decide (t % W + dx < 0) = true := by simp; omega
        have HV : Hk (nb W H t k = -1) := ⟨HNB.out.trans (nbS_no (by omega))⟩
        go_wp2
        go_quiet (fail)
        go_wp2
        go_roundw
        case rel => exact ⟨k + 1, by omega, by go_num, ⟨(HA.out.drewN _).set k _ hlt (by rw [if_pos (by omega)]; exact HV.out) (fun j hj hjk => by by_cases hjj : j < k; rw [if_pos hjj, if_pos (by omega)]; rw [if_neg hjj, if_neg (by omega)])⟩⟩
        case measure => simp [intOf]; omega
      by_cases z1 : W ≤ t % W + dx
      · have b0 : decide (t % W + dx < 0) = false := by simp; omega
        have b1 : decide (W ≤ t % W + dx) = true := by simp; omega
        have HV : Hk (nb W H t k = -1) := ⟨HNB.out.trans (nbS_no (by omega))⟩
        go_wp2
        go_quiet (fail)
        go_wp2
        go_roundw
        case rel => exact ⟨k + 1, by omega, by go_num, ⟨(HA.out.drewN _).set k _ hlt (by rw [if_pos (by omega)]; exact HV.out) (fun j hj hjk => by by_cases hjj : j < k; rw [if_pos hjj, if_pos (by omega)]; rw [if_neg hjj, if_neg (by omega)])⟩⟩
        case measure => simp [intOf]; omega
      by_cases z2 : t / W + dy < 0
      · have b0 : decide (t % W + dx < 0) = false := by simp; omega
        have b1 : decide (W ≤ t % W + dx) = false := by simp; omega
        have b2 : decide (t / W + dy < 0) = true := by simp; omega
        have HV : Hk (nb W H t k = -1) := ⟨HNB.out.trans (nbS_no (by omega))⟩
        go_wp2
        go_quiet (fail)
        go_wp2
        go_roundw
        case rel => exact ⟨k + 1, by omega, by go_num, ⟨(HA.out.drewN _).set k _ hlt (by rw [if_pos (by omega)]; exact HV.out) (fun j hj hjk => by by_cases hjj : j < k; rw [if_pos hjj, if_pos (by omega)]; rw [if_neg hjj, if_neg (by omega)])⟩⟩
        case measure => simp [intOf]; omega
      by_cases z3 : H ≤ t / W + dy
      · have b0 : decide (t % W + dx < 0) = false := by simp; omega
        have b1 : decide (W ≤ t % W + dx) = false := by simp; omega
        have b2 : decide (t / W + dy < 0) = false := by simp; omega
        have b3 : decide (H ≤ t / W + dy) = true := by simp; omega
        have HV : Hk (nb W H t k = -1) := ⟨HNB.out.trans (nbS_no (by omega))⟩
        go_wp2
        go_quiet (fail)
        go_wp2
        go_roundw
        case rel => exact ⟨k + 1, by omega, by go_num, ⟨(HA.out.drewN _).set k _ hlt (by rw [if_pos (by omega)]; exact HV.out) (fun j hj hjk => by by_cases hjj : j < k; rw [if_pos hjj, if_pos (by omega)]; rw [if_neg hjj, if_neg (by omega)])⟩⟩
        case measure => simp [intOf]; omega
      · have b0 : decide (t % W + dx < 0) = false := by simp; omega
        have b1 : decide (W ≤ t % W + dx) = false := by simp; omega
        have b2 : decide (t / W + dy < 0) = false := by simp; omega
        have b3 : decide (H ≤ t / W + dy) = false := by simp; omega
        have m3 := Int.mul_le_mul w2 (show t / W + dy ≤ 128 by omega) (by omega) (by omega)
        have m4 : 0 ≤ W * (t / W + dy) := Int.mul_nonneg (by omega) (by omega)
        have e4 : IntKind.i64.wrap (W * (t / W + dy)) = W * (t / W + dy) := wr_in (by omega)
        have e5 : IntKind.i64.wrap (t % W + dx + W * (t / W + dy)) = t % W + dx + W * (t / W + dy) := wr_in (by omega)
        have HV : Hk (nb W H t k = t % W + dx + W * (t / W + dy)) := ⟨HNB.out.trans (nbS_yes (by omega) (by omega) (by omega) (by omega))⟩
        go_wp2
        go_quiet (fail)
        go_wp2
        go_roundw
        case rel => exact ⟨k + 1, by omega, by go_num, ⟨(HA.out.drewN _).set k _ hlt (by rw [if_pos (by omega)]; exact HV.out) (fun j hj hjk => by by_cases hjj : j < k; rw [if_pos hjj, if_pos (by omega)]; rw [if_neg hjj, if_neg (by omega)])⟩⟩
        case measure => simp [intOf]; omega
    · have hk8 : k = 8 := by omega
      subst hk8
      have c0 : wr.cell? ⟨w.heap.size + 1, 0, none⟩ = some (.int .i64 (nb W H t 0)) := (HN.out.c 0 (by omega)).trans (by rw [if_pos (by omega)])
      have d0 := HN.out.d 0 (by omega)
      have g0 := HN.out.g 0
      have c1 : wr.cell? ⟨w.heap.size + 1, 1, none⟩ = some (.int .i64 (nb W H t 1)) := (HN.out.c 1 (by omega)).trans (by rw [if_pos (by omega)])
      have d1 := HN.out.d 1 (by omega)
      have g1 := HN.out.g 1
      have c2 : wr.cell? ⟨w.heap.size + 1, 2, none⟩ = some (.int .i64 (nb W H t 2)) := (HN.out.c 2 (by omega)).trans (by rw [if_pos (by omega)])
      have d2 := HN.out.d 2 (by omega)
      have g2 := HN.out.g 2
      have c3 : wr.cell? ⟨w.heap.size + 1, 3, none⟩ = some (.int .i64 (nb W H t 3)) := (HN.out.c 3 (by omega)).trans (by rw [if_pos (by omega)])
      have d3 := HN.out.d 3 (by omega)
      have g3 := HN.out.g 3
      have c4 : wr.cell? ⟨w.heap.size + 1, 4, none⟩ = some (.int .i64 (nb W H t 4)) := (HN.out.c 4 (by omega)).trans (by rw [if_pos (by omega)])
      have d4 := HN.out.d 4 (by omega)
      have g4 := HN.out.g 4
      have c5 : wr.cell? ⟨w.heap.size + 1, 5, none⟩ = some (.int .i64 (nb W H t 5)) := (HN.out.c 5 (by omega)).trans (by rw [if_pos (by omega)])
      have d5 := HN.out.d 5 (by omega)
      have g5 := HN.out.g 5
      have c6 : wr.cell? ⟨w.heap.size + 1, 6, none⟩ = some (.int .i64 (nb W H t 6)) := (HN.out.c 6 (by omega)).trans (by rw [if_pos (by omega)])
      have d6 := HN.out.d 6 (by omega)
      have g6 := HN.out.g 6
      have c7 : wr.cell? ⟨w.heap.size + 1, 7, none⟩ = some (.int .i64 (nb W H t 7)) := (HN.out.c 7 (by omega)).trans (by rw [if_pos (by omega)])
      have d7 := HN.out.d 7 (by omega)
      have g7 := HN.out.g 7
      have HBB := Hk.mk HN.out.hB
      clear HN
      go_wp2
      refine bodyPost_ret (v := .agg #[.int .i64 (nb W H t 0), .int .i64 (nb W H t 1), .int .i64 (nb W H t 2), .int .i64 (nb W H t 3), .int .i64 (nb W H t 4), .int .i64 (nb W H t 5), .int .i64 (nb W H t 6), .int .i64 (nb W H t 7)]) (by simp [results, Tryd.results54, go_sem, d0, d1, d2, d3, d4, d5, d6, d7]) rfl ⟨rfl, ?_⟩
      exact ((((((((HBB.out).setCell (by simp) _).setCell (by simp) _).setCell (by simp) _).setCell (by simp) _).setCell (by simp) _).setCell (by simp) _).setCell (by simp) _).setCell (by simp) _
end Go.Proofs.YtjjodfdmbiebnaaDoor
