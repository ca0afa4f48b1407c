/- Plain words of layer 22: which commands may be. -/
import Derived.Test.YtkffleclofkjmaaPw
namespace Go.Proofs.Ytkffleclofkjmaa
/-- What a command has beside its player, its number and its kind. -/
structure CF where
  n : Int
  u : List Int
  t : Int
  w : Int
  h : Int
  x : Int
  y : Int
def ascL (last : Int) : List Int → Bool
  | [] => true
  | a :: l => decide (last < a ∧ a ≤ 1099511627776) && ascL a l
def risL : List Int → Bool
  | [] => true
  | [_] => true
  | a :: b :: l => decide (a < b) && risL (b :: l)
def btwL (lo hi : Int) (l : List Int) : Bool := decide (∀ a ∈ l, lo ≤ a ∧ a ≤ hi)
def idsB (l : List Int) : Bool := decide (1 ≤ l.length ∧ l.length ≤ 64) && ascL 0 l
def vB (q : Int) (f : CF) : Bool :=
  if q = 0 then decide (0 ≤ f.n ∧ f.n < 4) else if q = 1 then decide (1 ≤ f.n ∧ f.n ≤ 1099511627776) else if q = 2 then idsB f.u else
  if q = 3 then decide (0 ≤ f.t ∧ f.t ≤ 16383) else if q = 4 then decide (1 ≤ f.w ∧ f.w ≤ 4 ∧ 1 ≤ f.h ∧ f.h ≤ 4) else
  decide (-1099511627776 ≤ f.x ∧ f.x ≤ 1099511627776 ∧ -1099511627776 ≤ f.y ∧ f.y ≤ 1099511627776)
def eC (q : Int) (f : CF) : CF :=
  if q = 0 then { f with n := 0 } else if q = 1 then { f with n := 0 } else if q = 2 then { f with u := [] } else if q = 3 then { f with t := 0 } else if q = 4 then { f with w := 0, h := 0 } else { f with x := 0, y := 0 }
def remB (f : CF) : Bool := decide (f.n = 0 ∧ f.u = [] ∧ f.t = 0 ∧ f.w = 0 ∧ f.h = 0 ∧ f.x = 0 ∧ f.y = 0)
def chkL : List Int → CF → Bool
  | [], f => remB f
  | q :: l, f => vB q f && chkL l (eC q f)
def partsL (k : Int) : List Int :=
  if k = 1 then [0, 5] else if k = 2 then [2, 3] else if k = 3 then [2] else if k = 4 then [3, 4] else if k = 5 then [1] else if k = 6 then [2, 1] else if k = 7 then [1, 3] else []
def baseB (p s : Int) : Bool := decide (1 ≤ p ∧ p ≤ 8 ∧ 0 ≤ s ∧ s ≤ 1099511627776)
def okC (p s k : Int) (f : CF) : Bool := (!(partsL k).isEmpty && baseB p s) && chkL (partsL k) f
theorem partsL_bd (k : Int) : (partsL k).length ≤ 2 ∧ ∀ q ∈ partsL k, 0 ≤ q ∧ q ≤ 5 := by
  unfold partsL
  (repeat' split) <;> simp
theorem partsL_none {k : Int} (h : k < 1 ∨ 7 < k) : partsL k = [] := by
  unfold partsL
  (repeat' split) <;> first | omega | rfl
theorem partsL_some {k : Int} (h1 : 1 ≤ k) (h2 : k ≤ 7) : 1 ≤ (partsL k).length := by
  unfold partsL
  (repeat' split) <;> simp; omega
theorem asc_ge {l : List Int} : ∀ {a : Int}, ascL a l = true → ∀ b ∈ l, a < b ∧ b ≤ 1099511627776 := by
  induction l with
  | nil => intro a _ b hb; simp at hb
  | cons c l ih =>
    intro a h b hb
    unfold ascL at h
    simp at h
    rcases List.mem_cons.1 hb with rfl | hb
    · omega
    · have := ih h.2 b hb; omega
theorem ris_asc (l : List Int) : ∀ (a : Int), (ascL a l = true) ↔ (risL l = true ∧ (∀ b ∈ l, b ≤ 1099511627776) ∧ (∀ b ∈ l.head?, a < b)) := by
  induction l with
  | nil => intro a; simp [ascL, risL]
  | cons c l ih =>
    intro a
    rw [ascL]
    simp only [Bool.and_eq_true, decide_eq_true_eq, ih c]
    cases l with
    | nil => simp [risL]; omega
    | cons d l =>
      simp only [risL, Bool.and_eq_true, decide_eq_true_eq, List.mem_cons, List.head?_cons, Option.mem_def, Option.some.injEq, forall_eq_or_imp, forall_eq']
      constructor
      · rintro ⟨⟨h1, h2⟩, h3, h4, h5⟩
        exact ⟨⟨h5, h3⟩, ⟨h2, h4⟩, h1⟩
      · rintro ⟨⟨h1, h2⟩, ⟨h3, h4⟩, h5⟩
        exact ⟨⟨h5, h3⟩, h2, h4, h1⟩
theorem ids_eq (l : List Int) : (risL l && btwL 1 1099511627776 l) = ascL 0 l := by
  rw [Bool.eq_iff_iff]
  simp only [Bool.and_eq_true]
  constructor
  · rintro ⟨h1, h2⟩
    unfold btwL at h2
    simp at h2
    refine (ris_asc l 0).2 ⟨h1, fun b hb => (h2 b hb).2, fun b hb => ?_⟩
    have := (h2 b (List.mem_of_mem_head? hb)).1
    omega
  · intro h
    refine ⟨((ris_asc l 0).1 h).1, ?_⟩
    unfold btwL
    simp
    intro b hb
    have := asc_ge h b hb
    omega
/-- The reference's word. -/
def refC (p s k : Int) (f : CF) : Bool :=
  baseB p s && (
  if k = 1 then vB 0 f && vB 5 f && decide (f.u = [] ∧ f.t = 0 ∧ f.w = 0 ∧ f.h = 0)
  else if k = 2 then vB 2 f && vB 3 f && decide (f.n = 0 ∧ f.w = 0 ∧ f.h = 0 ∧ f.x = 0 ∧ f.y = 0)
  else if k = 3 then vB 2 f && decide (f.n = 0 ∧ f.t = 0 ∧ f.w = 0 ∧ f.h = 0 ∧ f.x = 0 ∧ f.y = 0)
  else if k = 4 then vB 3 f && vB 4 f && decide (f.n = 0 ∧ f.u = [] ∧ f.x = 0 ∧ f.y = 0)
  else if k = 5 then vB 1 f && decide (f.u = [] ∧ f.t = 0 ∧ f.w = 0 ∧ f.h = 0 ∧ f.x = 0 ∧ f.y = 0)
  else if k = 6 then vB 2 f && vB 1 f && decide (f.t = 0 ∧ f.w = 0 ∧ f.h = 0 ∧ f.x = 0 ∧ f.y = 0)
  else if k = 7 then vB 1 f && vB 3 f && decide (f.u = [] ∧ f.w = 0 ∧ f.h = 0 ∧ f.x = 0 ∧ f.y = 0)
  else false)
theorem refC_eq (p s k : Int) (f : CF) : okC p s k f = refC p s k f := by
  unfold okC refC partsL
  (repeat' split) <;> subst_vars <;> simp [chkL, remB, eC, vB] <;> cases baseB p s <;> simp <;> (rw [Bool.eq_iff_iff]; simp; try grind)
end Go.Proofs.Ytkffleclofkjmaa
