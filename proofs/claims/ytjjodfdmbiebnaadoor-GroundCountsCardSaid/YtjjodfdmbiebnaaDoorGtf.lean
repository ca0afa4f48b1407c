/- Layer 6, plain: how many neighbours all tiles have (for GroundCounts). -/
import Derived.Test.YtjjodfdmbiebnaaDoorGtd
import Derived.Test.YtjjodfdmbiebnaaDoorArr
namespace Go.Proofs.YtjjodfdmbiebnaaDoor
open Go.RowKit
set_option linter.unusedVariables false
/-- Of the first j neighbours of a tile: how many there are. -/
def nbN (W H t : Int) : Nat → Nat
  | 0 => 0
  | j + 1 => nbN W H t j + if 0 ≤ nb W H t j then 1 else 0
/-- All neighbours of the first k tiles. -/
def nbT (W H : Int) : Nat → Nat
  | 0 => 0
  | k + 1 => nbT W H k + nbN W H k 8
theorem nbN_le (W H t : Int) : ∀ j, nbN W H t j ≤ j
  | 0 => Nat.le_refl _
  | j + 1 => by have := nbN_le W H t j; unfold nbN; split <;> omega
theorem nbT_le (W H : Int) : ∀ k, nbT W H k ≤ 8 * k
  | 0 => Nat.le_refl _
  | k + 1 => by have := nbT_le W H k; have := nbN_le W H k 8; unfold nbT; omega
theorem nbT_all : ∀ w h : Fin 4, (nbT (w.val + 1 : Nat) (h.val + 1 : Nat) ((w.val + 1) * (h.val + 1)) : Int) = 2 * ((w.val : Int) * (h.val + 1) + (w.val + 1) * (h.val : Int) + 2 * w.val * h.val) := by
  decide +kernel
theorem nbT_full {W H : Int} {n : Nat} (w1 : 1 ≤ W) (w2 : W ≤ 4) (h1 : 1 ≤ H) (h2 : H ≤ 4) (hn : W * H = n) : (nbT W H n : Int) = 2 * ((W - 1) * H + W * (H - 1) + 2 * (W - 1) * (H - 1)) := by
  obtain ⟨w, rfl⟩ : ∃ w : Nat, W = ((w + 1 : Nat) : Int) := ⟨(W - 1).toNat, by omega⟩
  obtain ⟨h, rfl⟩ : ∃ h : Nat, H = ((h + 1 : Nat) : Int) := ⟨(H - 1).toNat, by omega⟩
  have hn' : n = (w + 1) * (h + 1) := by
    have : ((n : Nat) : Int) = (((w + 1) * (h + 1) : Nat) : Int) := by rw [← hn]; simp
    omega
  subst hn'
  have := nbT_all ⟨w, by omega⟩ ⟨h, by omega⟩
  simp only at this
  rw [this]
  push_cast
  rw [show (w : Int) + 1 - 1 = w by omega, show (h : Int) + 1 - 1 = h by omega]
theorem ways_tab (j : Nat) (hj : j < 8) : (j < 4 ∧ ((dxL.getD j 0 = 0 ∧ dyL.getD j 0 = -1) ∨ (dxL.getD j 0 = 1 ∧ dyL.getD j 0 = 0) ∨ (dxL.getD j 0 = 0 ∧ dyL.getD j 0 = 1) ∨ (dxL.getD j 0 = -1 ∧ dyL.getD j 0 = 0))) ∨
    (4 ≤ j ∧ ((dxL.getD j 0 = 1 ∧ dyL.getD j 0 = -1) ∨ (dxL.getD j 0 = 1 ∧ dyL.getD j 0 = 1) ∨ (dxL.getD j 0 = -1 ∧ dyL.getD j 0 = 1) ∨ (dxL.getD j 0 = -1 ∧ dyL.getD j 0 = -1))) := by
  match j, hj with
  | 0, _ | 1, _ | 2, _ | 3, _ | 4, _ | 5, _ | 6, _ | 7, _ => decide
theorem zeros_ok (W H : Int) (n : Nat) (w1 : 1 ≤ W) (w2 : W ≤ 128) (h1 : 1 ≤ H) (h2 : H ≤ 128) (hn : W * H = n) : GOk W H n (List.replicate n 0) :=
  ⟨w1, w2, h1, h2, hn.symm, fun x hx => by rw [List.eq_of_mem_replicate hx]; omega⟩
theorem zeros_by {X : World} {g n B : Nat} {T : TypeId} (h : Arr X g n T (fun _ => .int .u8 0)) (hg : g < B) : By X B (some ⟨g, 0, none⟩) n (List.replicate n 0) :=
  ⟨by simp, fun b hb => by rw [List.eq_of_mem_replicate hb]; unfold Fn.Byt; omega, fun hn => ⟨g, 0, rfl, hg, fun k hk => by
    rw [Nat.zero_add, h.cell hk]
    show some (Value.int .u8 0) = some (Value.int .u8 ((List.replicate n (0 : Int)).getD k 0))
    rw [List.getD, List.getElem?_replicate, if_pos hk]; rfl⟩⟩
end Go.Proofs.YtjjodfdmbiebnaaDoor
