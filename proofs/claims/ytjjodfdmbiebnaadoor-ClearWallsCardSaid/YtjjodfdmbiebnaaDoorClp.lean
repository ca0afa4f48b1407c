/- Layer 9, plain: how much room there is; by two walks over the tiles, by taking away again and again. -/
import Derived.Test.YtjjodfdmbiebnaaDoorBup
namespace Go.Proofs.YtjjodfdmbiebnaaDoor
set_option linter.unusedVariables false
/-- All within r - 1 steps. -/
def sqB (op : Int → Int → Bool) : Nat → Int → Int → Bool
  | 0, _, _ => true
  | r + 1, x, y => op x y && sqB op r (x - 1) (y - 1) && sqB op r x (y - 1) && sqB op r (x + 1) (y - 1) && sqB op r (x - 1) y && sqB op r x y && sqB op r (x + 1) y && sqB op r (x - 1) (y + 1) && sqB op r x (y + 1) && sqB op r (x + 1) (y + 1)
/-- What lies above and left. -/
def fqB (op : Int → Int → Bool) : Nat → Int → Int → Bool
  | 0, _, _ => true
  | r + 1, x, y => op x y && fqB op r (x - 1) y && fqB op r (x - 1) (y - 1) && fqB op r x (y - 1) && fqB op r (x + 1) (y - 1)
/-- And what lies below and right. -/
def bqB (op : Int → Int → Bool) : Nat → Int → Int → Bool
  | 0, _, _ => true
  | r + 1, x, y => fqB op (r + 1) x y && bqB op r (x + 1) y && bqB op r (x + 1) (y + 1) && bqB op r x (y + 1) && bqB op r (x - 1) (y + 1)
theorem sq_iff (op : Int → Int → Bool) : ∀ (r : Nat) (x y : Int), sqB op (r + 1) x y = true ↔ ∀ i j : Int, -(r : Int) ≤ i → i ≤ r → -(r : Int) ≤ j → j ≤ r → op (x + i) (y + j) = true
  | 0, x, y => by
    simp only [sqB, Bool.and_true]
    constructor
    · intro h i j h1 h2 h3 h4
      obtain rfl : i = 0 := by simp at h1 h2; omega
      obtain rfl : j = 0 := by simp at h3 h4; omega
      simpa using h
    · intro h
      have := h 0 0 (by simp) (by simp) (by simp) (by simp)
      simpa using this
  | r + 1, x, y => by
    rw [sqB]
    simp only [Bool.and_eq_true, sq_iff op r]
    constructor
    · rintro ⟨⟨⟨⟨⟨⟨⟨⟨⟨h0, h1⟩, h2⟩, h3⟩, h4⟩, h5⟩, h6⟩, h7⟩, h8⟩, h9⟩ i j i1 i2 j1 j2
      have cut : ∀ a b : Int, (a = -1 ∨ a = 0 ∨ a = 1) → (b = -1 ∨ b = 0 ∨ b = 1) → -(r : Int) ≤ i - a → i - a ≤ r → -(r : Int) ≤ j - b → j - b ≤ r → op (x + i) (y + j) = true := by
        intro a b ha hb q1 q2 q3 q4
        rcases ha with rfl | rfl | rfl <;> rcases hb with rfl | rfl | rfl
        · have := h1 (i - -1) (j - -1) q1 q2 q3 q4
          rw [show x - 1 + (i - -1) = x + i by omega, show y - 1 + (j - -1) = y + j by omega] at this
          exact this
        · have := h4 (i - -1) (j - 0) q1 q2 q3 q4
          rw [show x - 1 + (i - -1) = x + i by omega, show y + (j - 0) = y + j by omega] at this
          exact this
        · have := h7 (i - -1) (j - 1) q1 q2 q3 q4
          rw [show x - 1 + (i - -1) = x + i by omega, show y + 1 + (j - 1) = y + j by omega] at this
          exact this
        · have := h2 (i - 0) (j - -1) q1 q2 q3 q4
          rw [show x + (i - 0) = x + i by omega, show y - 1 + (j - -1) = y + j by omega] at this
          exact this
        · have := h5 (i - 0) (j - 0) q1 q2 q3 q4
          rw [show x + (i - 0) = x + i by omega, show y + (j - 0) = y + j by omega] at this
          exact this
        · have := h8 (i - 0) (j - 1) q1 q2 q3 q4
          rw [show x + (i - 0) = x + i by omega, show y + 1 + (j - 1) = y + j by omega] at this
          exact this
        · have := h3 (i - 1) (j - -1) q1 q2 q3 q4
          rw [show x + 1 + (i - 1) = x + i by omega, show y - 1 + (j - -1) = y + j by omega] at this
          exact this
        · have := h6 (i - 1) (j - 0) q1 q2 q3 q4
          rw [show x + 1 + (i - 1) = x + i by omega, show y + (j - 0) = y + j by omega] at this
          exact this
        · have := h9 (i - 1) (j - 1) q1 q2 q3 q4
          rw [show x + 1 + (i - 1) = x + i by omega, show y + 1 + (j - 1) = y + j by omega] at this
          exact this
      push_cast at i1 i2 j1 j2
      have ha : ∃ a : Int, (a = -1 ∨ a = 0 ∨ a = 1) ∧ -(r : Int) ≤ i - a ∧ i - a ≤ r := by
        rcases Int.lt_trichotomy i 0 with h | h | h
        · exact ⟨-1, Or.inl rfl, by omega, by omega⟩
        · exact ⟨0, Or.inr (Or.inl rfl), by omega, by omega⟩
        · exact ⟨1, Or.inr (Or.inr rfl), by omega, by omega⟩
      have hb : ∃ a : Int, (a = -1 ∨ a = 0 ∨ a = 1) ∧ -(r : Int) ≤ j - a ∧ j - a ≤ r := by
        rcases Int.lt_trichotomy j 0 with h | h | h
        · exact ⟨-1, Or.inl rfl, by omega, by omega⟩
        · exact ⟨0, Or.inr (Or.inl rfl), by omega, by omega⟩
        · exact ⟨1, Or.inr (Or.inr rfl), by omega, by omega⟩
      obtain ⟨a, ha, a1, a2⟩ := ha
      obtain ⟨b, hb, b1, b2⟩ := hb
      exact cut a b ha hb a1 a2 b1 b2
    · intro h
      have go : ∀ a b : Int, -1 ≤ a → a ≤ 1 → -1 ≤ b → b ≤ 1 → ∀ i j : Int, -(r : Int) ≤ i → i ≤ r → -(r : Int) ≤ j → j ≤ r → op (x + a + i) (y + b + j) = true := by
        intro a b a1 a2 b1 b2 i j q1 q2 q3 q4
        have := h (a + i) (b + j) (by push_cast; omega) (by push_cast; omega) (by push_cast; omega) (by push_cast; omega)
        rw [← Int.add_assoc, ← Int.add_assoc] at this
        exact this
      have s : ∀ z : Int, z - 1 = z + -1 := fun z => by omega
      have z0 : ∀ z : Int, z + 0 = z := fun z => by omega
      have k := fun a b a1 a2 b1 b2 => go a b a1 a2 b1 b2
      refine ⟨⟨⟨⟨⟨⟨⟨⟨⟨?_, ?_⟩, ?_⟩, ?_⟩, ?_⟩, ?_⟩, ?_⟩, ?_⟩, ?_⟩, ?_⟩
      · have := h 0 0 (by push_cast; omega) (by push_cast; omega) (by push_cast; omega) (by push_cast; omega)
        simpa using this
      · rw [s x, s y]; exact k (-1) (-1) (by omega) (by omega) (by omega) (by omega)
      · rw [s y]; have := k 0 (-1) (by omega) (by omega) (by omega) (by omega); rw [z0] at this; exact this
      · rw [s y]; exact k 1 (-1) (by omega) (by omega) (by omega) (by omega)
      · rw [s x]; have := k (-1) 0 (by omega) (by omega) (by omega) (by omega); rw [z0] at this; exact this
      · have := k 0 0 (by omega) (by omega) (by omega) (by omega); rw [z0, z0] at this; exact this
      · have := k 1 0 (by omega) (by omega) (by omega) (by omega); rw [z0] at this; exact this
      · rw [s x]; exact k (-1) 1 (by omega) (by omega) (by omega) (by omega)
      · have := k 0 1 (by omega) (by omega) (by omega) (by omega); rw [z0] at this; exact this
      · exact k 1 1 (by omega) (by omega) (by omega) (by omega)
theorem fq_op {op : Int → Int → Bool} : ∀ (r : Nat) (x y : Int), fqB op (r + 1) x y = true → ∀ i j : Int, 0 ≤ j → j ≤ r → -(r : Int) ≤ i → i ≤ j → op (x + i) (y - j) = true
  | 0, x, y, h, i, j, j0, j1, i1, i2 => by
    simp only [fqB, Bool.and_true] at h
    obtain rfl : j = 0 := by simp at j1; omega
    obtain rfl : i = 0 := by simp at i1; omega
    simpa using h
  | r + 1, x, y, h, i, j, j0, j1, i1, i2 => by
    rw [fqB] at h
    simp only [Bool.and_eq_true] at h
    obtain ⟨⟨⟨⟨h0, h1⟩, h2⟩, h3⟩, h4⟩ := h
    push_cast at j1 i1
    rcases Int.lt_trichotomy j 0 with hj | hj | hj
    · omega
    · subst hj
      by_cases hi : i = 0
      · subst hi; simpa using h0
      · have := fq_op r (x - 1) y h1 (i + 1) 0 (by omega) (by omega) (by omega) (by omega)
        rw [show x - 1 + (i + 1) = x + i by omega] at this
        exact this
    · rcases Int.lt_trichotomy i 0 with hi | hi | hi
      · have := fq_op r (x - 1) (y - 1) h2 (i + 1) (j - 1) (by omega) (by omega) (by omega) (by omega)
        rw [show x - 1 + (i + 1) = x + i by omega, show y - 1 - (j - 1) = y - j by omega] at this
        exact this
      · have := fq_op r x (y - 1) h3 i (j - 1) (by omega) (by omega) (by omega) (by omega)
        rw [show y - 1 - (j - 1) = y - j by omega] at this
        exact this
      · have := fq_op r (x + 1) (y - 1) h4 (i - 1) (j - 1) (by omega) (by omega) (by omega) (by omega)
        rw [show x + 1 + (i - 1) = x + i by omega, show y - 1 - (j - 1) = y - j by omega] at this
        exact this
theorem bq_op {op : Int → Int → Bool} : ∀ (r : Nat) (x y : Int), bqB op (r + 1) x y = true → ∀ i j : Int, -(r : Int) ≤ i → i ≤ r → -(r : Int) ≤ j → j ≤ r → op (x + i) (y + j) = true
  | 0, x, y, h, i, j, i1, i2, j1, j2 => by
    simp only [bqB, fqB, Bool.and_true] at h
    obtain rfl : j = 0 := by simp at j1 j2; omega
    obtain rfl : i = 0 := by simp at i1 i2; omega
    simpa using h
  | r + 1, x, y, h, i, j, i1, i2, j1, j2 => by
    rw [bqB] at h
    simp only [Bool.and_eq_true] at h
    obtain ⟨⟨⟨⟨h0, h1⟩, h2⟩, h3⟩, h4⟩ := h
    push_cast at i1 i2 j1 j2
    by_cases hj : 0 < j
    · rcases Int.lt_trichotomy i 0 with hi | hi | hi
      · have := bq_op r (x - 1) (y + 1) h4 (i + 1) (j - 1) (by omega) (by omega) (by omega) (by omega)
        rw [show x - 1 + (i + 1) = x + i by omega, show y + 1 + (j - 1) = y + j by omega] at this
        exact this
      · have := bq_op r x (y + 1) h3 i (j - 1) (by omega) (by omega) (by omega) (by omega)
        rw [show y + 1 + (j - 1) = y + j by omega] at this
        exact this
      · have := bq_op r (x + 1) (y + 1) h2 (i - 1) (j - 1) (by omega) (by omega) (by omega) (by omega)
        rw [show x + 1 + (i - 1) = x + i by omega, show y + 1 + (j - 1) = y + j by omega] at this
        exact this
    · by_cases hi : i ≤ -j
      · have := fq_op (r + 1) x y h0 i (-j) (by omega) (by push_cast; omega) (by push_cast; omega) (by omega)
        rw [show y - -j = y + j by omega] at this
        exact this
      · have := bq_op r (x + 1) y h1 (i - 1) j (by omega) (by omega) (by omega) (by omega)
        rw [show x + 1 + (i - 1) = x + i by omega] at this
        exact this
theorem sq_fq {op : Int → Int → Bool} : ∀ (r : Nat) (x y : Int), sqB op r x y = true → fqB op r x y = true
  | 0, _, _, _ => rfl
  | r + 1, x, y, h => by
    rw [sqB] at h
    simp only [Bool.and_eq_true] at h
    obtain ⟨⟨⟨⟨⟨⟨⟨⟨⟨h0, h1⟩, h2⟩, h3⟩, h4⟩, h5⟩, h6⟩, h7⟩, h8⟩, h9⟩ := h
    rw [fqB]
    simp only [Bool.and_eq_true]
    exact ⟨⟨⟨⟨h0, sq_fq r _ _ h4⟩, sq_fq r _ _ h1⟩, sq_fq r _ _ h2⟩, sq_fq r _ _ h3⟩
theorem sq_bq {op : Int → Int → Bool} : ∀ (r : Nat) (x y : Int), sqB op r x y = true → bqB op r x y = true
  | 0, _, _, _ => rfl
  | r + 1, x, y, h => by
    have hf := sq_fq (r + 1) x y h
    rw [sqB] at h
    simp only [Bool.and_eq_true] at h
    obtain ⟨⟨⟨⟨⟨⟨⟨⟨⟨h0, h1⟩, h2⟩, h3⟩, h4⟩, h5⟩, h6⟩, h7⟩, h8⟩, h9⟩ := h
    rw [bqB]
    simp only [Bool.and_eq_true]
    exact ⟨⟨⟨⟨hf, sq_bq r _ _ h6⟩, sq_bq r _ _ h9⟩, sq_bq r _ _ h8⟩, sq_bq r _ _ h7⟩
theorem bq_sq (op : Int → Int → Bool) (r : Nat) (x y : Int) : bqB op r x y = sqB op r x y := by
  rw [Bool.eq_iff_iff]
  refine ⟨fun h => ?_, sq_bq r x y⟩
  match r, h with
  | 0, _ => rfl
  | r + 1, h => exact (sq_iff op r x y).2 fun i j a b c d => bq_op r x y h i j a b c d
end Go.Proofs.YtjjodfdmbiebnaaDoor
