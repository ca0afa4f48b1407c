/- Layer 6, plain: neighbours are neighbours both ways, each once (for GroundBack). -/
import Derived.Test.YtjjodfdmbiebnaaDoorGtb
namespace Go.Proofs.YtjjodfdmbiebnaaDoor
open Go.RowKit
set_option linter.unusedVariables false
theorem nbS_inv {W H t dx dy u : Int} (hW : 1 ≤ W) (e : nbS W H t dx dy = u) (h : 0 ≤ u) :
    (0 ≤ t % W + dx ∧ t % W + dx < W ∧ 0 ≤ t / W + dy ∧ t / W + dy < H) ∧ u % W = t % W + dx ∧ u / W = t / W + dy ∧ u < W * H := by
  by_cases c : 0 ≤ t % W + dx ∧ t % W + dx < W ∧ 0 ≤ t / W + dy ∧ t / W + dy < H
  · obtain ⟨c1, c2, c3, c4⟩ := c
    rw [nbS_yes c1 c2 c3 c4] at e
    refine ⟨⟨c1, c2, c3, c4⟩, ?_, ?_, ?_⟩
    · rw [← e, Int.add_mul_emod_self_left, Int.emod_eq_of_lt c1 c2]
    · rw [← e, Int.add_mul_ediv_left _ _ (by omega), Int.ediv_eq_zero_of_lt c1 c2, Int.zero_add]
    · have h1 : W * (t / W + dy) ≤ W * (H - 1) := Int.mul_le_mul_of_nonneg_left (by omega) (by omega)
      have h2 : W * (H - 1) = W * H - W := by rw [Int.mul_sub, Int.mul_one]
      omega
  · rw [nbS_no c] at e; omega
theorem nbS_back {W H t dx dy u : Int} (hW : 1 ≤ W) (t0 : 0 ≤ t) (t1 : t < W * H) (e : nbS W H t dx dy = u) (h : 0 ≤ u) : nbS W H u (-dx) (-dy) = t := by
  obtain ⟨_, hm, hd, _⟩ := nbS_inv hW e h
  have m0 := Int.emod_nonneg t (show W ≠ 0 by omega)
  have m1 := Int.emod_lt_of_pos t (show 0 < W by omega)
  have d0 : 0 ≤ t / W := Int.ediv_nonneg t0 (by omega)
  have d1 : t / W < H := Int.ediv_lt_of_lt_mul (by omega) (by rw [Int.mul_comm]; exact t1)
  have em := Int.emod_add_mul_ediv t W
  rw [nbS_yes (by omega) (by omega) (by omega) (by omega), hm, hd, show t % W + dx + -dx = t % W by omega, show t / W + dy + -dy = t / W by omega]
  omega
theorem ways (k : Nat) (hk : k < 8) : ∃ j, j < 8 ∧ dxL.getD j 0 = -(dxL.getD k 0) ∧ dyL.getD j 0 = -(dyL.getD k 0) := by
  have h : ∀ k : Fin 8, ∃ j : Fin 8, dxL.getD j 0 = -(dxL.getD k 0) ∧ dyL.getD j 0 = -(dyL.getD k 0) := by decide
  obtain ⟨j, h1, h2⟩ := h ⟨k, hk⟩
  exact ⟨j, j.2, h1, h2⟩
theorem ways_once (i k : Nat) (hi : i < 8) (hk : k < 8) (h1 : dxL.getD i 0 = dxL.getD k 0) (h2 : dyL.getD i 0 = dyL.getD k 0) : i = k := by
  have h : ∀ i k : Fin 8, dxL.getD i 0 = dxL.getD k 0 → dyL.getD i 0 = dyL.getD k 0 → i = k := by decide
  have := h ⟨i, hi⟩ ⟨k, hk⟩ h1 h2
  simpa using this
theorem ways_not (k : Nat) (hk : k < 8) : ¬ (dxL.getD k 0 = 0 ∧ dyL.getD k 0 = 0) := by
  have h : ∀ k : Fin 8, ¬ (dxL.getD k 0 = 0 ∧ dyL.getD k 0 = 0) := by decide
  exact h ⟨k, hk⟩
theorem nb_getD (W H t : Int) (k : Nat) (hk : k < 8) : (nbL W H t).getD k 0 = nb W H t k := by
  unfold nbL; simp [List.getD, hk]
theorem nb_lt {W H t u : Int} {k : Nat} (hW : 1 ≤ W) (e : nb W H t k = u) (h : 0 ≤ u) : u < W * H := (nbS_inv hW e h).2.2.2
theorem nb_not {W H t u : Int} {k : Nat} (hW : 1 ≤ W) (hk : k < 8) (e : nb W H t k = u) (h : 0 ≤ u) : u ≠ t := by
  rintro rfl
  obtain ⟨_, hm, hd, _⟩ := nbS_inv hW e h
  exact ways_not k hk ⟨by omega, by omega⟩
theorem nb_back {W H t u : Int} {k : Nat} (hW : 1 ≤ W) (t0 : 0 ≤ t) (t1 : t < W * H) (hk : k < 8) (e : nb W H t k = u) (h : 0 ≤ u) : t ∈ nbL W H u := by
  obtain ⟨j, hj, h1, h2⟩ := ways k hk
  refine List.mem_map.2 ⟨j, List.mem_range.2 hj, ?_⟩
  unfold nb at e ⊢
  rw [h1, h2]
  exact nbS_back hW t0 t1 e h
theorem nb_once {W H t u : Int} {k : Nat} (hW : 1 ≤ W) (hk : k < 8) (e : nb W H t k = u) (h : 0 ≤ u) : u ∉ (nbL W H t).take k := by
  intro hm
  obtain ⟨i, hi, he⟩ := List.mem_iff_getElem.1 hm
  have hl : (nbL W H t).length = 8 := by unfold nbL; simp
  have hik : i < k := by rw [List.length_take] at hi; omega
  have he' : nb W H t i = u := by
    rw [← nb_getD W H t i (by omega), ← he, List.getElem_take]
    simp [List.getD, List.getElem?_eq_getElem (show i < (nbL W H t).length by omega)]
  obtain ⟨_, hm1, hd1, _⟩ := nbS_inv hW e h
  obtain ⟨_, hm2, hd2, _⟩ := nbS_inv hW he' h
  have := ways_once i k (by omega) hk (by omega) (by omega)
  omega
end Go.Proofs.YtjjodfdmbiebnaaDoor
