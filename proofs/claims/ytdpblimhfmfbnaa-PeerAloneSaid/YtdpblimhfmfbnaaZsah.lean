import Derived.Test.YtdpblimhfmfbnaaZsae
import Derived.Test.YtdpblimhfmfbnaaZsag
set_option linter.unusedVariables false
set_option linter.unusedSimpArgs false
namespace Go.Proofs.Ytdpblimhfmfbnaa
open Go.RowKit
theorem sorted_nb {l : List Iv} (h : ∀ k, 0 < k → k < l.length → ltI (l.getD (k - 1) default) (l.getD k default)) : sortedN (abI l) := by
 have key : ∀ d i, i + d + 1 < l.length → ltI (l.getD i default) (l.getD (i + d + 1) default) := by
  intro d
  induction d with
  | zero => intro i hi; exact h (i + 1) (by omega) hi
  | succ d ih =>
   intro i hi
   exact ltI_trans (ih i (by omega)) (h (i + (d + 1) + 1) (by omega) hi)
 refine List.pairwise_iff_getElem.2 fun i j hi hj hij => ?_
 rw [abI_len] at hi hj
 obtain ⟨d, rfl⟩ : ∃ d, j = i + d + 1 := ⟨j - i - 1, by omega⟩
 have := key d i hj
 rw [← ltB_iff] at this
 simpa [abI, List.getD, hi, hj] using this
theorem getD_ab {l : List Iv} {k : Nat} (h : k < l.length) : (abI l)[k]? = some (l.getD k default).ab := by
 unfold abI; rw [List.getElem?_map, List.getElem?_eq_getElem h]; simp [List.getD, h]
theorem mem_ab {l : List Iv} {x : In} : x ∈ abI l ↔ ∃ k, k < l.length ∧ x = (l.getD k default).ab := by
 constructor
 ·intro h
  obtain ⟨k, hk, e⟩ := List.mem_iff_getElem.1 h
  rw [abI_len] at hk
  have := getD_ab hk
  rw [List.getElem?_eq_getElem (by rw [abI_len]; exact hk)] at this
  injection this with this
  exact ⟨k, hk, by rw [← e, this]⟩
 ·rintro ⟨k, hk, rfl⟩
  exact List.mem_map.2 ⟨_, getD_memI hk, rfl⟩
def WtAt (p : Pv) (k : Nat) : Prop := okN (p.ll.getD k default).ab = true ∧ p.t ≤ (p.ll.getD k default).t ∧ (p.ll.getD k default).p ≤ p.n ∧ (p.ll.getD k default).t ≤ p.hl.getD ((p.ll.getD k default).p.toNat - 1) 0 ∧ (0 < k → ltI (p.ll.getD (k - 1) default) (p.ll.getD k default))
def InAt (p : Pv) (k : Nat) : Prop := p.t ≤ (p.ll.getD k default).t ∧ (p.ll.getD k default).p ≤ p.n ∧ (p.ll.getD k default).t ≤ p.hl.getD ((p.ll.getD k default).p.toNat - 1) 0
theorem wt_iff (p : Pv) {n : Nat} (hl : p.ll.length = n) : WtP p.ab ↔ ∀ k, k < n → WtAt p k := by
 subst hl
 constructor
 ·intro h k hk
  obtain ⟨h1, h2, _⟩ := ordN_sorted h.o
  have hm : (p.ll.getD k default).ab ∈ abI p.ll := List.mem_map.2 ⟨_, getD_memI hk, rfl⟩
  obtain ⟨a1, a2, a3⟩ := h.all _ hm
  exact ⟨h1 _ hm, a1, a2, a3, fun h0 => sorted_lt h2 (by omega) hk⟩
 ·intro h
  refine ⟨ordN_of (fun x hx => ?_) (sorted_nb fun k h0 hk => (h k hk).2.2.2.2 h0) (fun a e => by cases e), fun x hx => ?_⟩
  ·obtain ⟨k, hk, rfl⟩ := mem_ab.1 hx
   exact (h k hk).1
  ·obtain ⟨k, hk, rfl⟩ := mem_ab.1 hx
   exact ⟨(h k hk).2.1, (h k hk).2.2.1, (h k hk).2.2.2.1⟩
def KpAt (p : Pv) (k : Nat) : Prop := okN (p.ml.getD k default).ab = true ∧ (p.ml.getD k default).p = p.i ∧ (p.ml.getD k default).t = minL p.al + 1 + k
def MnAt (p : Pv) (k : Nat) : Prop := (p.ml.getD k default).p = p.i ∧ (p.ml.getD k default).t = minL p.al + 1 + k
theorem kp_iff (p : Pv) {n : Nat} (hl : p.ml.length = n) : KpP p.ab ↔ (n : Int) = p.s - minL p.al ∧ ∀ k, k < n → KpAt p k := by
 subst hl
 constructor
 ·intro h
  refine ⟨by have := h.n; rw [show p.ab.m = abI p.ml from rfl, abI_len] at this; exact this, fun k hk => h.all k _ (getD_ab hk)⟩
 ·rintro ⟨h1, h2⟩
  refine ⟨by rw [show p.ab.m = abI p.ml from rfl, abI_len]; exact h1, fun k x hx => ?_⟩
  have hk : k < p.ml.length := by
   have := (List.getElem?_eq_some_iff.1 hx).1
   rw [show p.ab.m = abI p.ml from rfl, abI_len] at this
   exact this
  have e := getD_ab hk
  rw [show p.ab.m = abI p.ml from rfl, e] at hx
  injection hx with hx
  rw [← hx]
  exact h2 k hk
theorem kp_in (p : Pv) {n : Nat} (hl : p.ml.length = n) : KpP p.ab ↔ ordN none (abI p.ml) = true ∧ (n : Int) = p.s - minL p.al ∧ ∀ k, k < n → MnAt p k := by
 rw [kp_iff p hl]
 subst hl
 constructor
 ·rintro ⟨h1, h2⟩
  refine ⟨ordN_of (fun x hx => ?_) (sorted_nb fun k h0 hk => ?_) (fun a e => by cases e), h1, fun k hk => (h2 k hk).2⟩
  ·obtain ⟨k, hk, rfl⟩ := mem_ab.1 hx
   exact (h2 k hk).1
  ·have e1 := (h2 k hk).2.2
   have e2 := (h2 (k - 1) (by omega)).2.2
   exact .inl (by rw [e1, e2]; omega)
 ·rintro ⟨h1, h2, h3⟩
  refine ⟨h2, fun k hk => ⟨(ordN_sorted h1).1 _ (mem_ab.2 ⟨k, hk, rfl⟩), h3 k hk⟩⟩
end Go.Proofs.Ytdpblimhfmfbnaa
