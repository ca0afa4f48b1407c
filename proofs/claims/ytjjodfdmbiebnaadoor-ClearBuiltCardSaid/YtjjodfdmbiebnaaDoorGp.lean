/- Plain words of layer 6: grounds. -/
import Derived.Test.YtjjodfdmbiebnaaDoorBya
namespace Go.Proofs.YtjjodfdmbiebnaaDoor
/-- May this be a ground? -/
def gB (W H : Int) (n : Nat) (xs : List Int) : Bool := decide (1 ≤ W ∧ W ≤ 128 ∧ 1 ≤ H ∧ H ≤ 128 ∧ (n : Int) = W * H ∧ ∀ x ∈ xs, x ≤ 5)
def gE (W H : Int) (n : Nat) (xs : List Int) : Int := if gB W H n xs = true then 0 else 1
structure GOk (W H : Int) (n : Nat) (xs : List Int) : Prop where
  w1 : 1 ≤ W
  w2 : W ≤ 128
  h1 : 1 ≤ H
  h2 : H ≤ 128
  nn : (n : Int) = W * H
  ts : ∀ x ∈ xs, x ≤ 5
theorem gB_iff {W H : Int} {n : Nat} {xs : List Int} : gB W H n xs = true ↔ GOk W H n xs := by
  unfold gB
  rw [decide_eq_true_iff]
  exact ⟨fun ⟨a, b, c, d, e, f⟩ => ⟨a, b, c, d, e, f⟩, fun ⟨a, b, c, d, e, f⟩ => ⟨a, b, c, d, e, f⟩⟩
theorem gE_yes {W H : Int} {n : Nat} {xs : List Int} (h : GOk W H n xs) : gE W H n xs = 0 := by unfold gE; rw [if_pos (gB_iff.2 h)]
theorem gE_no {W H : Int} {n : Nat} {xs : List Int} (h : ¬ GOk W H n xs) : gE W H n xs = 1 := by unfold gE; rw [if_neg (fun g => h (gB_iff.1 g))]
theorem gB_yes {W H : Int} {n : Nat} {xs : List Int} (h : GOk W H n xs) : gB W H n xs = true := gB_iff.2 h
theorem gB_no {W H : Int} {n : Nat} {xs : List Int} (h : ¬ GOk W H n xs) : gB W H n xs = false := by
  cases e : gB W H n xs
  · rfl
  · exact absurd (gB_iff.1 e) h
theorem mul_bd {W H : Int} (w1 : 1 ≤ W) (w2 : W ≤ 128) (h1 : 1 ≤ H) (h2 : H ≤ 128) : 1 ≤ W * H ∧ W * H ≤ 16384 := by
  have a := Int.mul_le_mul w2 h2 (by omega) (by omega)
  have b := Int.mul_le_mul w1 h1 (by omega) (by omega)
  omega
/-- What stands of a ground before its tiles are looked at. -/
structure GHd (W H : Int) (n : Nat) : Prop where
  w1 : 1 ≤ W
  w2 : W ≤ 128
  h1 : 1 ≤ H
  h2 : H ≤ 128
  nn : (n : Int) = W * H
end Go.Proofs.YtjjodfdmbiebnaaDoor
