/- Layer 9, plain: how much room there is, as a number. -/
import Derived.Test.YtjjodfdmbiebnaaDoorClp
namespace Go.Proofs.YtjjodfdmbiebnaaDoor
set_option linter.unusedVariables false
/-- The greatest r up to k with q r. -/
def grt (q : Nat → Bool) : Nat → Nat
  | 0 => 0
  | k + 1 => if q (k + 1) then k + 1 else grt q k
theorem grt_iff {q : Nat → Bool} (h0 : q 0 = true) (ha : ∀ r, q (r + 1) = true → q r = true) : ∀ (k r : Nat), r ≤ grt q k ↔ r ≤ k ∧ q r = true
  | 0, r => by
    unfold grt
    constructor
    · intro h; obtain rfl : r = 0 := by omega
      exact ⟨by omega, h0⟩
    · exact fun h => h.1
  | k + 1, r => by
    have hd : ∀ d r : Nat, q (r + d) = true → q r = true := by
      intro d
      induction d with
      | zero => intro r h; exact h
      | succ d ih => intro r h; exact ih r (ha (r + d) h)
    unfold grt
    split
    · rename_i hq
      constructor
      · intro h
        refine ⟨h, ?_⟩
        obtain ⟨d, e⟩ : ∃ d, k + 1 = r + d := ⟨k + 1 - r, by omega⟩
        rw [e] at hq
        exact hd d r hq
      · exact fun h => h.1
    · rename_i hq
      rw [grt_iff h0 ha k r]
      constructor
      · exact fun h => ⟨by omega, h.2⟩
      · rintro ⟨h1, h2⟩
        refine ⟨?_, h2⟩
        rcases Nat.lt_or_ge r (k + 1) with h | h
        · omega
        · obtain rfl : r = k + 1 := by omega
          exact absurd h2 hq
theorem fq_anti {op : Int → Int → Bool} : ∀ (r : Nat) (x y : Int), fqB op (r + 1) x y = true → fqB op r x y = true
  | 0, _, _, _ => rfl
  | r + 1, x, y, h => by
    rw [fqB] at h ⊢
    simp only [Bool.and_eq_true] at h ⊢
    obtain ⟨⟨⟨⟨h0, h1⟩, h2⟩, h3⟩, h4⟩ := h
    exact ⟨⟨⟨⟨h0, fq_anti r _ _ h1⟩, fq_anti r _ _ h2⟩, fq_anti r _ _ h3⟩, fq_anti r _ _ h4⟩
theorem sq_anti {op : Int → Int → Bool} (r : Nat) (x y : Int) (h : sqB op (r + 1) x y = true) : sqB op r x y = true := by
  match r, h with
  | 0, _ => rfl
  | r + 1, h =>
    rw [sq_iff] at h ⊢
    exact fun i j a b c d => h i j (by push_cast; omega) (by push_cast; omega) (by push_cast; omega) (by push_cast; omega)
/-- The tiles of a ground as a plane: nothing beside it. -/
def opXY (W H : Int) (f : Nat → Bool) (x y : Int) : Bool := decide (0 ≤ x ∧ x < W ∧ 0 ≤ y ∧ y < H) && f (x + W * y).toNat
theorem opXY_in {W H : Int} {f : Nat → Bool} {x y : Int} (h : opXY W H f x y = true) : 0 ≤ x ∧ x < W ∧ 0 ≤ y ∧ y < H := by
  unfold opXY at h; simp at h; exact ⟨h.1.1, h.1.2.1, h.1.2.2.1, h.1.2.2.2⟩
theorem fq_bd {W H : Int} {f : Nat → Bool} (hW : W ≤ 128) {r : Nat} {x y : Int} (h : fqB (opXY W H f) r x y = true) : r ≤ 128 := by
  match r, h with
  | 0, _ => omega
  | r + 1, h =>
    have a := opXY_in (fq_op r x y h 0 0 (by omega) (by omega) (by omega) (by omega))
    have b := opXY_in (fq_op r x y h (-(r : Int)) 0 (by omega) (by omega) (by omega) (by omega))
    omega
/-- Room above and left; room at all sides. -/
def fV (W H : Int) (f : Nat → Bool) (x y : Int) : Nat := grt (fun r => fqB (opXY W H f) r x y) 128
def sV (W H : Int) (f : Nat → Bool) (x y : Int) : Nat := grt (fun r => sqB (opXY W H f) r x y) 128
theorem fV_iff {W H : Int} {f : Nat → Bool} (hW : W ≤ 128) (x y : Int) (r : Nat) : r ≤ fV W H f x y ↔ fqB (opXY W H f) r x y = true := by
  unfold fV
  rw [grt_iff rfl (fun r h => fq_anti r x y h)]
  exact ⟨fun h => h.2, fun h => ⟨fq_bd hW h, h⟩⟩
theorem sV_iff {W H : Int} {f : Nat → Bool} (hW : W ≤ 128) (x y : Int) (r : Nat) : r ≤ sV W H f x y ↔ sqB (opXY W H f) r x y = true := by
  unfold sV
  rw [grt_iff rfl (fun r h => sq_anti r x y h)]
  exact ⟨fun h => h.2, fun h => ⟨fq_bd hW (sq_fq r x y h), h⟩⟩
theorem nat_eq {a b : Nat} (h : ∀ r, r ≤ a ↔ r ≤ b) : a = b := Nat.le_antisymm ((h a).1 (Nat.le_refl _)) ((h b).2 (Nat.le_refl _))
theorem fV_no {W H : Int} {f : Nat → Bool} (hW : W ≤ 128) {x y : Int} (h : opXY W H f x y = false) : fV W H f x y = 0 := by
  have := (fV_iff (f := f) hW (H := H) x y 1)
  rw [fqB, h] at this
  simp at this
  omega
theorem sV_no {W H : Int} {f : Nat → Bool} (hW : W ≤ 128) {x y : Int} (h : opXY W H f x y = false) : sV W H f x y = 0 := by
  have := (sV_iff (f := f) hW (H := H) x y 1)
  rw [sqB, h] at this
  simp at this
  omega
theorem fV_rec {W H : Int} {f : Nat → Bool} (hW : W ≤ 128) {x y : Int} (h : opXY W H f x y = true) :
    fV W H f x y = 1 + min (min (min (fV W H f (x - 1) y) (fV W H f (x - 1) (y - 1))) (fV W H f x (y - 1))) (fV W H f (x + 1) (y - 1)) := by
  refine nat_eq fun r => ?_
  rw [fV_iff hW]
  match r with
  | 0 => simp [fqB]
  | r + 1 =>
    rw [fqB, h]
    simp only [Bool.true_and, Bool.and_eq_true, ← fV_iff hW]
    omega
theorem sV_rec {W H : Int} {f : Nat → Bool} (hW : W ≤ 128) {x y : Int} (h : opXY W H f x y = true) :
    sV W H f x y = min (fV W H f x y) (1 + min (min (min (sV W H f (x + 1) y) (sV W H f (x - 1) (y + 1))) (sV W H f x (y + 1))) (sV W H f (x + 1) (y + 1))) := by
  refine nat_eq fun r => ?_
  rw [sV_iff hW, ← bq_sq]
  match r with
  | 0 => simp [bqB]
  | r + 1 =>
    rw [bqB]
    simp only [bq_sq, Bool.and_eq_true, ← fV_iff hW, ← sV_iff hW]
    omega
theorem fV_le {W H : Int} {f : Nat → Bool} (x y : Int) : fV W H f x y ≤ 128 := by
  unfold fV
  have : ∀ (q : Nat → Bool) k, grt q k ≤ k := by
    intro q k
    induction k with
    | zero => exact Nat.le_refl _
    | succ k ih => unfold grt; split <;> omega
  exact this _ _
theorem sV_le {W H : Int} {f : Nat → Bool} (x y : Int) : sV W H f x y ≤ 128 := by
  unfold sV
  have : ∀ (q : Nat → Bool) k, grt q k ≤ k := by
    intro q k
    induction k with
    | zero => exact Nat.le_refl _
    | succ k ih => unfold grt; split <;> omega
  exact this _ _
end Go.Proofs.YtjjodfdmbiebnaaDoor
