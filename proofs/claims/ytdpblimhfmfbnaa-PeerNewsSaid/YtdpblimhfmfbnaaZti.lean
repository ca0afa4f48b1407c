import Derived.Test.YtdpblimhfmfbnaaZth
import Derived.Test.YtdpblimhfmfbnaaZte
import Derived.ProofKit
import Derived.LaidMore
import Derived.OpenShut
import Derived.Stop.Joined
import Derived.WalkKit
import Derived.WalkLawsBesides
import Derived.WalkSpells
import Derived.Test.YtdpblimhfmfbnaaRows
import Derived.Test.YtdpblimhfmfbnaaChecked
import Derived.Test.YtdpblimhfmfbnaaZta
import Derived.Test.YtdpblimhfmfbnaaZtc
import Derived.Deep.QuietTactic
import Derived.BigQuiet
import Derived.Deep.RegionWith
import Derived.Deep.RegionHeld3
import Derived.Deep.DeepCutAuto
import Derived.Deep.DeepFit
import Derived.Outline
import Derived.Test.YtdpblimhfmfbnaaZtd
import Derived.Test.YtdpblimhfmfbnaaZtf
/- Openers: a number, a ground, buildings that came in. -/
namespace Go.Proofs.Ytdpblimhfmfbnaa
open Go.ChangeShapes Go.WideShapes Go.ChangeAt Go.RowKit Go.Deep
set_option linter.unusedVariables false
theorem opi_wf {n : Int} (h : (Lit.int .i64 n).wf = true) : I64' n := by
  have := bounds_i64 h
  unfold I64'; omega
theorem op_int {H : Type} {enc : TypeId × Value → H} {w : World} {base : Nat} {spare : Nat → Bool} {held : Bool} {fuel : Nat} {x : DataW H × List MemPlace} {v : Value} (hf : DataW.trod enc Try.prog w base spare held fuel 3 [v] = some x) : ∃ z : Int, v = .int .i64 z ∧ I64' z := by
  obtain ⟨x0, e0, _, w0⟩ := DataW.trod_int Try.underlying3 hf
  simp at e0
  exact ⟨x0, e0, opi_wf w0⟩
end Go.Proofs.Ytdpblimhfmfbnaa
/- The table of costs, cell by cell (where it is the only one of package kind). -/
namespace Go.Proofs.Ytdpblimhfmfbnaa
open Go.ChangeShapes Go.WideShapes Go.ChangeAt Go.RowKit
set_option linter.unusedVariables false
def ctL : List Int := [2, 1, 3, 5, 0, 0, 2, 1, 6, 0, 0, 0, 2, 1, 0, 3, 2, 0]
/-- What a class pays on a terrain. -/
def ctS (c t : Nat) : Int := ctL.getD (c * 6 + t) 0
theorem cst_one_at {cs : List Value} {a n j : Nat} {v : Value} (hj : j < n) (h : (((cs.drop a).take n).drop j).take 1 = [v]) : cs[a + j]? = some v := by
  have h1 := congrArg (fun l : List Value => l[0]?) h
  simp only [List.getElem?_take, List.getElem?_drop] at h1
  simpa [hj] using h1
section
variable {H : Type} {enc : TypeId × Value → H} {w : World} {base : Nat} {sp : Nat → Bool} {held : Bool}
theorem cst_int_is {t : TypeId} {fuel : Nat} {cs : List Value} {x : DataW H × List MemPlace} {z : Int} (ht : Try.prog.underlying t = some (.int .i64)) (h : DataW.trod enc Try.prog w base sp held fuel t cs = some x) (hx : x.1 = .lit (.int .i64 z)) : cs = [.int .i64 z] := by
  obtain ⟨n, rfl, e, _⟩ := DataW.trod_int ht h
  rw [e] at hx
  simp at hx
  rw [hx]
end
theorem ct_abs (c t : Nat) : 0 ≤ ctS c t ∧ ctS c t ≤ 6 := by
  unfold ctS
  by_cases h : c * 6 + t < 18
  · have q : ∀ k : Fin 18, 0 ≤ ctL.getD k.val 0 ∧ ctL.getD k.val 0 ≤ 6 := by decide
    exact q ⟨_, h⟩
  · have : ctL.getD (c * 6 + t) 0 = 0 := by unfold ctL; simp [List.getD]; rw [List.getElem?_eq_none (by simp; omega)]; rfl
    rw [this]; omega
end Go.Proofs.Ytdpblimhfmfbnaa
/- Layer 9: which terrains a class may enter. -/
namespace Go.Proofs.Ytdpblimhfmfbnaa
open Go.RowKit
set_option linter.unusedVariables false
set_option linter.unusedSimpArgs false
/-- May the class enter the terrain? -/
def opB (c t : Nat) : Bool := decide (0 < ctS c t)
theorem opB_iff (c t : Nat) : opB c t = decide (0 < ctS c t) := rfl
end Go.Proofs.Ytdpblimhfmfbnaa
/- Layer 9: clear.Open. -/
namespace Go.Proofs.Ytdpblimhfmfbnaa
open Go.RowKit
set_option linter.unusedVariables false
set_option linter.unusedSimpArgs false
/-- Is the tile open for the class? -/
def opn (W : Int) (xs : List Int) (bs : List Bd) (c k : Nat) : Bool := opB c (xs.getD k 0).toNat && !(cvB W bs k)
theorem z_of {c : Nat} {X : World} {P : Nat} (h : X.cell? ⟨P, 0, none⟩ = some (.bool (opB c 0)) ∧ X.cell? ⟨P, 1, none⟩ = some (.bool (opB c 1)) ∧ X.cell? ⟨P, 2, none⟩ = some (.bool (opB c 2)) ∧ X.cell? ⟨P, 3, none⟩ = some (.bool (opB c 3)) ∧ X.cell? ⟨P, 4, none⟩ = some (.bool (opB c 4)) ∧ X.cell? ⟨P, 5, none⟩ = some (.bool (opB c 5)) ∧ P < X.heap.size) : ∀ j, j < 6 → X.cell? ⟨P, j, none⟩ = some (.bool (opB c j)) := by
  obtain ⟨h0, h1, h2, h3, h4, h5, _⟩ := h
  intro j hj
  match j, hj with
  | 0, _ => exact h0
  | 1, _ => exact h1
  | 2, _ => exact h2
  | 3, _ => exact h3
  | 4, _ => exact h4
  | 5, _ => exact h5
theorem frb {N G : Nat} {w Z X : World} (h : Below N w Z) (hN : N ≤ w.heap.size) (f : Fr (fun q => q = G) Z X) (hG : N ≤ G) : Below N w X :=
  h.trans (f.below (B := N) (Nat.le_trans hN h.size) (fun q _ e => by subst e; exact hG))
end Go.Proofs.Ytdpblimhfmfbnaa
/- Layer 9: the reference's Open; slices of tests compared, and written over. -/
namespace Go.Proofs.Ytdpblimhfmfbnaa
open Go.RowKit
set_option linter.unusedVariables false
set_option linter.unusedSimpArgs false
end Go.Proofs.Ytdpblimhfmfbnaa
/- Layer 9, plain: how much room there is; by two walks over the tiles, by taking away again and again. -/
namespace Go.Proofs.Ytdpblimhfmfbnaa
set_option linter.unusedVariables false
/-- All within r - 1 steps. -/
def sqB (op : Int → Int → Bool) : Nat → Int → Int → Bool
  | 0, _, _ => true
  | r + 1, x, y => op x y && sqB op r (x - 1) (y - 1) && sqB op r x (y - 1) && sqB op r (x + 1) (y - 1) && sqB op r (x - 1) y && sqB op r x y && sqB op r (x + 1) y && sqB op r (x - 1) (y + 1) && sqB op r x (y + 1) && sqB op r (x + 1) (y + 1)
/-- What lies above and left. -/
def fqB (op : Int → Int → Bool) : Nat → Int → Int → Bool
  | 0, _, _ => true
  | r + 1, x, y => op x y && fqB op r (x - 1) y && fqB op r (x - 1) (y - 1) && fqB op r x (y - 1) && fqB op r (x + 1) (y - 1)
/-- And what lies below and right. -/
def bqB (op : Int → Int → Bool) : Nat → Int → Int → Bool
  | 0, _, _ => true
  | r + 1, x, y => fqB op (r + 1) x y && bqB op r (x + 1) y && bqB op r (x + 1) (y + 1) && bqB op r x (y + 1) && bqB op r (x - 1) (y + 1)
theorem sq_iff (op : Int → Int → Bool) : ∀ (r : Nat) (x y : Int), sqB op (r + 1) x y = true ↔ ∀ i j : Int, -(r : Int) ≤ i → i ≤ r → -(r : Int) ≤ j → j ≤ r → op (x + i) (y + j) = true
  | 0, x, y => by
    simp only [sqB, Bool.and_true]
    constructor
    · intro h i j h1 h2 h3 h4
      obtain rfl : i = 0 := by simp at h1 h2; omega
      obtain rfl : j = 0 := by simp at h3 h4; omega
      simpa using h
    · intro h
      have := h 0 0 (by simp) (by simp) (by simp) (by simp)
      simpa using this
  | r + 1, x, y => by
    rw [sqB]
    simp only [Bool.and_eq_true, sq_iff op r]
    constructor
    · rintro ⟨⟨⟨⟨⟨⟨⟨⟨⟨h0, h1⟩, h2⟩, h3⟩, h4⟩, h5⟩, h6⟩, h7⟩, h8⟩, h9⟩ i j i1 i2 j1 j2
      have cut : ∀ a b : Int, (a = -1 ∨ a = 0 ∨ a = 1) → (b = -1 ∨ b = 0 ∨ b = 1) → -(r : Int) ≤ i - a → i - a ≤ r → -(r : Int) ≤ j - b → j - b ≤ r → op (x + i) (y + j) = true := by
        intro a b ha hb q1 q2 q3 q4
        rcases ha with rfl | rfl | rfl <;> rcases hb with rfl | rfl | rfl
        · have := h1 (i - -1) (j - -1) q1 q2 q3 q4
          rw [show x - 1 + (i - -1) = x + i by omega, show y - 1 + (j - -1) = y + j by omega] at this
          exact this
        · have := h4 (i - -1) (j - 0) q1 q2 q3 q4
          rw [show x - 1 + (i - -1) = x + i by omega, show y + (j - 0) = y + j by omega] at this
          exact this
        · have := h7 (i - -1) (j - 1) q1 q2 q3 q4
          rw [show x - 1 + (i - -1) = x + i by omega, show y + 1 + (j - 1) = y + j by omega] at this
          exact this
        · have := h2 (i - 0) (j - -1) q1 q2 q3 q4
          rw [show x + (i - 0) = x + i by omega, show y - 1 + (j - -1) = y + j by omega] at this
          exact this
        · have := h5 (i - 0) (j - 0) q1 q2 q3 q4
          rw [show x + (i - 0) = x + i by omega, show y + (j - 0) = y + j by omega] at this
          exact this
        · have := h8 (i - 0) (j - 1) q1 q2 q3 q4
          rw [show x + (i - 0) = x + i by omega, show y + 1 + (j - 1) = y + j by omega] at this
          exact this
        · have := h3 (i - 1) (j - -1) q1 q2 q3 q4
          rw [show x + 1 + (i - 1) = x + i by omega, show y - 1 + (j - -1) = y + j by omega] at this
          exact this
        · have := h6 (i - 1) (j - 0) q1 q2 q3 q4
          rw [show x + 1 + (i - 1) = x + i by omega, show y + (j - 0) = y + j by omega] at this
          exact this
        · have := h9 (i - 1) (j - 1) q1 q2 q3 q4
          rw [show x + 1 + (i - 1) = x + i by omega, show y + 1 + (j - 1) = y + j by omega] at this
          exact this
      push_cast at i1 i2 j1 j2
      have ha : ∃ a : Int, (a = -1 ∨ a = 0 ∨ a = 1) ∧ -(r : Int) ≤ i - a ∧ i - a ≤ r := by
        rcases Int.lt_trichotomy i 0 with h | h | h
        · exact ⟨-1, Or.inl rfl, by omega, by omega⟩
        · exact ⟨0, Or.inr (Or.inl rfl), by omega, by omega⟩
        · exact ⟨1, Or.inr (Or.inr rfl), by omega, by omega⟩
      have hb : ∃ a : Int, (a = -1 ∨ a = 0 ∨ a = 1) ∧ -(r : Int) ≤ j - a ∧ j - a ≤ r := by
        rcases Int.lt_trichotomy j 0 with h | h | h
        · exact ⟨-1, Or.inl rfl, by omega, by omega⟩
        · exact ⟨0, Or.inr (Or.inl rfl), by omega, by omega⟩
        · exact ⟨1, Or.inr (Or.inr rfl), by omega, by omega⟩
      obtain ⟨a, ha, a1, a2⟩ := ha
      obtain ⟨b, hb, b1, b2⟩ := hb
      exact cut a b ha hb a1 a2 b1 b2
    · intro h
      have go : ∀ a b : Int, -1 ≤ a → a ≤ 1 → -1 ≤ b → b ≤ 1 → ∀ i j : Int, -(r : Int) ≤ i → i ≤ r → -(r : Int) ≤ j → j ≤ r → op (x + a + i) (y + b + j) = true := by
        intro a b a1 a2 b1 b2 i j q1 q2 q3 q4
        have := h (a + i) (b + j) (by push_cast; omega) (by push_cast; omega) (by push_cast; omega) (by push_cast; omega)
        rw [← Int.add_assoc, ← Int.add_assoc] at this
        exact this
      have s : ∀ z : Int, z - 1 = z + -1 := fun z => by omega
      have z0 : ∀ z : Int, z + 0 = z := fun z => by omega
      have k := fun a b a1 a2 b1 b2 => go a b a1 a2 b1 b2
      refine ⟨⟨⟨⟨⟨⟨⟨⟨⟨?_, ?_⟩, ?_⟩, ?_⟩, ?_⟩, ?_⟩, ?_⟩, ?_⟩, ?_⟩, ?_⟩
      · have := h 0 0 (by push_cast; omega) (by push_cast; omega) (by push_cast; omega) (by push_cast; omega)
        simpa using this
      · rw [s x, s y]; exact k (-1) (-1) (by omega) (by omega) (by omega) (by omega)
      · rw [s y]; have := k 0 (-1) (by omega) (by omega) (by omega) (by omega); rw [z0] at this; exact this
      · rw [s y]; exact k 1 (-1) (by omega) (by omega) (by omega) (by omega)
      · rw [s x]; have := k (-1) 0 (by omega) (by omega) (by omega) (by omega); rw [z0] at this; exact this
      · have := k 0 0 (by omega) (by omega) (by omega) (by omega); rw [z0, z0] at this; exact this
      · have := k 1 0 (by omega) (by omega) (by omega) (by omega); rw [z0] at this; exact this
      · rw [s x]; exact k (-1) 1 (by omega) (by omega) (by omega) (by omega)
      · have := k 0 1 (by omega) (by omega) (by omega) (by omega); rw [z0] at this; exact this
      · exact k 1 1 (by omega) (by omega) (by omega) (by omega)
theorem fq_op {op : Int → Int → Bool} : ∀ (r : Nat) (x y : Int), fqB op (r + 1) x y = true → ∀ i j : Int, 0 ≤ j → j ≤ r → -(r : Int) ≤ i → i ≤ j → op (x + i) (y - j) = true
  | 0, x, y, h, i, j, j0, j1, i1, i2 => by
    simp only [fqB, Bool.and_true] at h
    obtain rfl : j = 0 := by simp at j1; omega
    obtain rfl : i = 0 := by simp at i1; omega
    simpa using h
  | r + 1, x, y, h, i, j, j0, j1, i1, i2 => by
    rw [fqB] at h
    simp only [Bool.and_eq_true] at h
    obtain ⟨⟨⟨⟨h0, h1⟩, h2⟩, h3⟩, h4⟩ := h
    push_cast at j1 i1
    rcases Int.lt_trichotomy j 0 with hj | hj | hj
    · omega
    · subst hj
      by_cases hi : i = 0
      · subst hi; simpa using h0
      · have := fq_op r (x - 1) y h1 (i + 1) 0 (by omega) (by omega) (by omega) (by omega)
        rw [show x - 1 + (i + 1) = x + i by omega] at this
        exact this
    · rcases Int.lt_trichotomy i 0 with hi | hi | hi
      · have := fq_op r (x - 1) (y - 1) h2 (i + 1) (j - 1) (by omega) (by omega) (by omega) (by omega)
        rw [show x - 1 + (i + 1) = x + i by omega, show y - 1 - (j - 1) = y - j by omega] at this
        exact this
      · have := fq_op r x (y - 1) h3 i (j - 1) (by omega) (by omega) (by omega) (by omega)
        rw [show y - 1 - (j - 1) = y - j by omega] at this
        exact this
      · have := fq_op r (x + 1) (y - 1) h4 (i - 1) (j - 1) (by omega) (by omega) (by omega) (by omega)
        rw [show x + 1 + (i - 1) = x + i by omega, show y - 1 - (j - 1) = y - j by omega] at this
        exact this
theorem bq_op {op : Int → Int → Bool} : ∀ (r : Nat) (x y : Int), bqB op (r + 1) x y = true → ∀ i j : Int, -(r : Int) ≤ i → i ≤ r → -(r : Int) ≤ j → j ≤ r → op (x + i) (y + j) = true
  | 0, x, y, h, i, j, i1, i2, j1, j2 => by
    simp only [bqB, fqB, Bool.and_true] at h
    obtain rfl : j = 0 := by simp at j1 j2; omega
    obtain rfl : i = 0 := by simp at i1 i2; omega
    simpa using h
  | r + 1, x, y, h, i, j, i1, i2, j1, j2 => by
    rw [bqB] at h
    simp only [Bool.and_eq_true] at h
    obtain ⟨⟨⟨⟨h0, h1⟩, h2⟩, h3⟩, h4⟩ := h
    push_cast at i1 i2 j1 j2
    by_cases hj : 0 < j
    · rcases Int.lt_trichotomy i 0 with hi | hi | hi
      · have := bq_op r (x - 1) (y + 1) h4 (i + 1) (j - 1) (by omega) (by omega) (by omega) (by omega)
        rw [show x - 1 + (i + 1) = x + i by omega, show y + 1 + (j - 1) = y + j by omega] at this
        exact this
      · have := bq_op r x (y + 1) h3 i (j - 1) (by omega) (by omega) (by omega) (by omega)
        rw [show y + 1 + (j - 1) = y + j by omega] at this
        exact this
      · have := bq_op r (x + 1) (y + 1) h2 (i - 1) (j - 1) (by omega) (by omega) (by omega) (by omega)
        rw [show x + 1 + (i - 1) = x + i by omega, show y + 1 + (j - 1) = y + j by omega] at this
        exact this
    · by_cases hi : i ≤ -j
      · have := fq_op (r + 1) x y h0 i (-j) (by omega) (by push_cast; omega) (by push_cast; omega) (by omega)
        rw [show y - -j = y + j by omega] at this
        exact this
      · have := bq_op r (x + 1) y h1 (i - 1) j (by omega) (by omega) (by omega) (by omega)
        rw [show x + 1 + (i - 1) = x + i by omega] at this
        exact this
theorem sq_fq {op : Int → Int → Bool} : ∀ (r : Nat) (x y : Int), sqB op r x y = true → fqB op r x y = true
  | 0, _, _, _ => rfl
  | r + 1, x, y, h => by
    rw [sqB] at h
    simp only [Bool.and_eq_true] at h
    obtain ⟨⟨⟨⟨⟨⟨⟨⟨⟨h0, h1⟩, h2⟩, h3⟩, h4⟩, h5⟩, h6⟩, h7⟩, h8⟩, h9⟩ := h
    rw [fqB]
    simp only [Bool.and_eq_true]
    exact ⟨⟨⟨⟨h0, sq_fq r _ _ h4⟩, sq_fq r _ _ h1⟩, sq_fq r _ _ h2⟩, sq_fq r _ _ h3⟩
theorem sq_bq {op : Int → Int → Bool} : ∀ (r : Nat) (x y : Int), sqB op r x y = true → bqB op r x y = true
  | 0, _, _, _ => rfl
  | r + 1, x, y, h => by
    have hf := sq_fq (r + 1) x y h
    rw [sqB] at h
    simp only [Bool.and_eq_true] at h
    obtain ⟨⟨⟨⟨⟨⟨⟨⟨⟨h0, h1⟩, h2⟩, h3⟩, h4⟩, h5⟩, h6⟩, h7⟩, h8⟩, h9⟩ := h
    rw [bqB]
    simp only [Bool.and_eq_true]
    exact ⟨⟨⟨⟨hf, sq_bq r _ _ h6⟩, sq_bq r _ _ h9⟩, sq_bq r _ _ h8⟩, sq_bq r _ _ h7⟩
theorem bq_sq (op : Int → Int → Bool) (r : Nat) (x y : Int) : bqB op r x y = sqB op r x y := by
  rw [Bool.eq_iff_iff]
  refine ⟨fun h => ?_, sq_bq r x y⟩
  match r, h with
  | 0, _ => rfl
  | r + 1, h => exact (sq_iff op r x y).2 fun i j a b c d => bq_op r x y h i j a b c d
end Go.Proofs.Ytdpblimhfmfbnaa
