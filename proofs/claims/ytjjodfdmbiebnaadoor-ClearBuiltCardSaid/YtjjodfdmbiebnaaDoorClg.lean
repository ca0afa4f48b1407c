/- Layer 9, plain: the reference's way: what stands beside what is away is taken away. -/
import Derived.Test.YtjjodfdmbiebnaaDoorClf
import Derived.Test.YtjjodfdmbiebnaaDoorGrl
import Derived.Test.YtjjodfdmbiebnaaDoorGtc
namespace Go.Proofs.YtjjodfdmbiebnaaDoor
open Go.RowKit
set_option linter.unusedVariables false
/-- Is all within m steps of the tile open? -/
def sqT (W H : Int) (f : Nat → Bool) (m k : Nat) : Bool := sqB (opXY W H f) m ((k : Int) % W) ((k : Int) / W)
theorem sqT_sC {W H : Int} {f : Nat → Bool} (hW : W ≤ 128) (m k : Nat) : sqT W H f m k = true ↔ m ≤ sC W H f k := by
  unfold sqT sC; rw [sV_iff hW]
theorem sqT_one {W H : Int} {f : Nat → Bool} {n k : Nat} (w1 : 1 ≤ W) (hn : (n : Int) = W * H) (hk : k < n) : sqT W H f 1 k = f k := by
  have h := at_of (H := H) w1 hn hk
  unfold sqT
  rw [sqB]
  simp only [sqB, Bool.and_true]
  exact op_at h
theorem sqB_out {W H : Int} {f : Nat → Bool} {x y : Int} (m : Nat) (h : ¬ (0 ≤ x ∧ x < W ∧ 0 ≤ y ∧ y < H)) : sqB (opXY W H f) (m + 1) x y = false := by
  rw [sqB, op_out h]; rfl
/-- Is the i-th neighbour there, and in? -/
def nbO (W H : Int) (f : Nat → Bool) (m t i : Nat) : Bool := decide (0 ≤ nb W H t i) && sqT W H f (m + 1) (nb W H t i).toNat
def alO (W H : Int) (f : Nat → Bool) (m t : Nat) : Nat → Bool
  | 0 => true
  | i + 1 => alO W H f m t i && nbO W H f m t i
theorem nbO_eq {W H : Int} {f : Nat → Bool} {m n t i : Nat} (w1 : 1 ≤ W) (hn : (n : Int) = W * H) (ht : t < n) : nbO W H f m t i = sqB (opXY W H f) (m + 1) ((t : Int) % W + dxL.getD i 0) ((t : Int) / W + dyL.getD i 0) := by
  unfold nbO nb
  generalize dxL.getD i 0 = dx
  generalize dyL.getD i 0 = dy
  by_cases c : 0 ≤ (t : Int) % W + dx ∧ (t : Int) % W + dx < W ∧ 0 ≤ (t : Int) / W + dy ∧ (t : Int) / W + dy < H
  · obtain ⟨c1, c2, c3, c4⟩ := c
    rw [nbS_yes c1 c2 c3 c4]
    have h0 : 0 ≤ (t : Int) % W + dx + W * ((t : Int) / W + dy) := by have := Int.mul_nonneg (show 0 ≤ W by omega) c3; omega
    rw [decide_eq_true h0, Bool.true_and]
    unfold sqT
    have := xy_at' (W := W) (x := (t : Int) % W + dx) (y := (t : Int) / W + dy) (j := ((t : Int) % W + dx + W * ((t : Int) / W + dy)).toNat) (by rw [Int.toNat_of_nonneg h0]) c1 c2
    rw [this.1, this.2]
  · rw [nbS_no c, sqB_out m c]; rfl
theorem sqB_succ (op : Int → Int → Bool) (r : Nat) (x y : Int) : sqB op (r + 1) x y = (op x y && sqB op r (x - 1) (y - 1) && sqB op r x (y - 1) && sqB op r (x + 1) (y - 1) && sqB op r (x - 1) y && sqB op r x y && sqB op r (x + 1) y && sqB op r (x - 1) (y + 1) && sqB op r x (y + 1) && sqB op r (x + 1) (y + 1)) := rfl
theorem alO_full {W H : Int} {f : Nat → Bool} {m n t : Nat} (w1 : 1 ≤ W) (hn : (n : Int) = W * H) (ht : t < n) (hi : sqT W H f (m + 1) t = true) : alO W H f m t 8 = sqT W H f (m + 2) t := by
  have e : ∀ i, nbO W H f m t i = sqB (opXY W H f) (m + 1) ((t : Int) % W + dxL.getD i 0) ((t : Int) / W + dyL.getD i 0) := fun i => nbO_eq w1 hn ht
  have hop : opXY W H f ((t : Int) % W) ((t : Int) / W) = true := by
    unfold sqT at hi
    rw [sqB] at hi
    simp only [Bool.and_eq_true] at hi
    exact hi.1.1.1.1.1.1.1.1.1
  show ((((((((true && nbO W H f m t 0) && nbO W H f m t 1) && nbO W H f m t 2) && nbO W H f m t 3) && nbO W H f m t 4) && nbO W H f m t 5) && nbO W H f m t 6) && nbO W H f m t 7) = _
  rw [e 0, e 1, e 2, e 3, e 4, e 5, e 6, e 7]
  unfold sqT at hi ⊢
  rw [show m + 2 = m + 1 + 1 from rfl, sqB_succ (opXY W H f) (m + 1) ((t : Int) % W) ((t : Int) / W), hop, hi]
  have z : ∀ a : Int, a + 0 = a := fun a => by omega
  have s : ∀ a : Int, a + -1 = a - 1 := fun a => by omega
  show ((((((((true && sqB _ (m + 1) (_ + 0) (_ + -1)) && sqB _ (m + 1) (_ + 1) (_ + 0)) && sqB _ (m + 1) (_ + 0) (_ + 1)) && sqB _ (m + 1) (_ + -1) (_ + 0)) && sqB _ (m + 1) (_ + 1) (_ + -1)) && sqB _ (m + 1) (_ + 1) (_ + 1)) && sqB _ (m + 1) (_ + -1) (_ + 1)) && sqB _ (m + 1) (_ + -1) (_ + -1)) = _
  simp only [z, s]
  rw [Bool.eq_iff_iff]
  simp only [Bool.and_eq_true, Bool.true_and, Bool.and_true]
  constructor
  · rintro ⟨⟨⟨⟨⟨⟨⟨h1, h2⟩, h3⟩, h4⟩, h5⟩, h6⟩, h7⟩, h8⟩
    exact ⟨⟨⟨⟨⟨⟨⟨h8, h1⟩, h5⟩, h4⟩, h2⟩, h7⟩, h3⟩, h6⟩
  · rintro ⟨⟨⟨⟨⟨⟨⟨h8, h1⟩, h5⟩, h4⟩, h2⟩, h7⟩, h3⟩, h6⟩
    exact ⟨⟨⟨⟨⟨⟨⟨h1, h2⟩, h3⟩, h4⟩, h5⟩, h6⟩, h7⟩, h8⟩
theorem sqT_no {W H : Int} {f : Nat → Bool} (hW : W ≤ 128) {m k : Nat} (h : sqT W H f (m + 1) k = false) : sqT W H f (m + 2) k = false := by
  cases q : sqT W H f (m + 2) k
  · rfl
  · have := (sqT_sC (H := H) (f := f) hW (m + 2) k).1 q
    have := (sqT_sC (H := H) (f := f) hW (m + 1) k).2 (by omega)
    rw [h] at this; cases this
theorem sqT_bd {W H : Int} {f : Nat → Bool} (hW : W ≤ 128) {m k : Nat} (h : sqT W H f m k = true) : m ≤ 128 := by
  have := (sqT_sC hW m k).1 h
  have := sV_le (W := W) (H := H) (f := f) ((k : Int) % W) ((k : Int) / W)
  unfold sC at *
  omega
end Go.Proofs.YtjjodfdmbiebnaaDoor
