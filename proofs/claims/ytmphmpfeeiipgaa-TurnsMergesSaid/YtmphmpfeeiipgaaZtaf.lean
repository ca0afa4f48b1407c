import Derived.Test.YtmphmpfeeiipgaaZtz
import Derived.Deep.QuietTactic
import Derived.BigQuiet
import Derived.Deep.RegionWith
import Derived.Deep.RegionHeld3
import Derived.Deep.DeepCutAuto
import Derived.Deep.DeepFit
import Derived.Outline
import Derived.Test.YtmphmpfeeiipgaaZtae
/- Plain words of layer 27: merged commands rise. -/
namespace Go.Proofs.Ytmphmpfeeiipgaa
open Go.RowKit
set_option linter.unusedVariables false
set_option linter.unusedSimpArgs false
/-- Ahead of another one, by player, then number. -/
def rsC (c d : Cm) : Prop := c.p < d.p ∨ (c.p = d.p ∧ c.s < d.s)
theorem okL_all {p : Int} : ∀ {l : List Cm} {last : Int}, okL p last l = true → (∀ d, d ∈ l → d.p = p ∧ last < d.s ∧ okC d.p d.s d.k d.f = true) ∧ l.Pairwise rsC
  | [], _, _ => ⟨fun d h => (by cases h), List.Pairwise.nil⟩
  | c :: l, last, h => by
    unfold okL at h
    simp only [Bool.and_eq_true, decide_eq_true_eq] at h
    obtain ⟨⟨h1, h2, h3⟩, h4⟩ := h
    obtain ⟨k1, k2⟩ := okL_all h4
    refine ⟨fun d hd => ?_, List.pairwise_cons.2 ⟨fun d hd => Or.inr ⟨by rw [h2, (k1 d hd).1], (k1 d hd).2.1⟩, k2⟩⟩
    rcases List.mem_cons.1 hd with e | e
    · rw [e]; exact ⟨h2, h3, h1⟩
    · obtain ⟨a, b, c'⟩ := k1 d e
      exact ⟨a, by omega, c'⟩
theorem okN_all {x : In} (h : okN x = true) : x.l.length ≤ 64 ∧ (∀ d, d ∈ x.l → d.p = x.p ∧ okC d.p d.s d.k d.f = true) ∧ x.l.Pairwise rsC := by
  unfold okN at h
  simp only [Bool.and_eq_true, decide_eq_true_eq] at h
  obtain ⟨k1, k2⟩ := okL_all h.2
  exact ⟨h.1.2.2.2.2, fun d hd => ⟨(k1 d hd).1, (k1 d hd).2.2⟩, k2⟩
theorem flat_rise {s : List In} {t : Int} (hs : sortedN s) (ha : ∀ x, x ∈ s → okN x = true ∧ x.t = t) : (flatN s).Pairwise rsC := by
  unfold flatN
  rw [List.pairwise_flatMap]
  refine ⟨fun x hx => (okN_all (ha x hx).1).2.2, hs.imp_of_mem fun {a b} h1 h2 h c hc d hd => Or.inl ?_⟩
  rw [((okN_all (ha a h1).1).2.1 c hc).1, ((okN_all (ha b h2).1).2.1 d hd).1]
  have e1 := (ha a h1).2
  have e2 := (ha b h2).2
  unfold ltB at h
  rw [decide_eq_true_iff] at h
  omega
theorem flat_len {s : List In} {B : Nat} (h : ∀ x, x ∈ s → x.l.length ≤ B) : (flatN s).length ≤ B * s.length := by
  induction s with
  | nil => exact Nat.le_refl _
  | cons a s ih =>
    have h1 := h a List.mem_cons_self
    have h2 := ih fun x hx => h x (List.mem_cons_of_mem _ hx)
    show (a.l ++ flatN s).length ≤ _
    rw [List.length_append, List.length_cons, Nat.mul_add]
    omega
theorem flat_perm {s t : List In} (h : s.Perm t) : (flatN s).length = (flatN t).length := (h.flatMap_right _).length_eq
theorem okC_u64 {p s k : Int} {f : CF} (hk : okC p s k f = true) : f.u.length ≤ 64 := by
  rw [refC_eq] at hk
  unfold refC at hk
  simp only [Bool.and_eq_true] at hk
  have h2 := hk.2
  (repeat' split at h2) <;> simp [vB, idsB] at h2 <;> first | omega | simp_all
theorem sm_flat {M : List Cv} {s : List In} (hab : abC M = flatN s) (ha : ∀ x, x ∈ s → okN x = true) (hn : s.length ≤ 800) (hu : ∀ x, x ∈ M → x.u.length = x.m) : SmC M := by
  have hl : M.length = (flatN s).length := by rw [← hab, abC_len]
  have hb := flat_len (B := 64) fun x hx => (okN_all (ha x hx)).1
  have hc := Nat.mul_le_mul_left 64 hn
  refine ⟨by omega, fun x hx => ?_⟩
  have hx' : x.ab ∈ flatN s := by rw [← hab]; exact List.mem_map.2 ⟨x, hx, rfl⟩
  obtain ⟨y, hy, hd⟩ := List.mem_flatMap.1 hx'
  have := okC_u64 ((okN_all (ha y hy)).2.1 _ hd).2
  have e : x.ab.f.u = x.u := rfl
  rw [e, hu x hx] at this
  omega
theorem rise_at {M : List Cv} {s : List In} (hab : abC M = flatN s) (hr : (flatN s).Pairwise rsC) {i : Nat} (hi : i + 1 < M.length) : rsC (M.getD i default).ab (M.getD (i + 1) default).ab := by
  rw [← hab] at hr
  have := List.pairwise_iff_getElem.1 hr i (i + 1) (by rw [abC_len]; omega) (by rw [abC_len]; omega) (by omega)
  unfold abC at this
  simpa [List.getD, hi, show i < M.length by omega] using this
theorem cnt_drop {m : List Iv} {k : Nat} (h : k < m.length) : (flatN (abI (m.drop k))).length = (m.getD k default).l.length + (flatN (abI (m.drop (k + 1)))).length := by
  rw [abI_drop h]
  show (abC _ ++ flatN _).length = _
  rw [List.length_append, abC_len]
theorem rev_drop {m : List Iv} {k : Nat} (h : k < m.length) : (m.drop k).reverse = (m.drop (k + 1)).reverse ++ [m.getD k default] := by
  rw [drop_consI h, List.reverse_cons]
/-- What Merge answers, by one word. -/
def ecR : Option (List In) → Int
  | none => 1
  | some _ => 0
def flR : Option (List In) → List Cm
  | none => []
  | some s => flatN s
theorem merge27_u (res : Option (List In)) (a : Option Addr) (n c : Nat) (l : List Iv) (w : World) (h : InD w w.heap.size a n l) (hs : SmI l) (E : Hk (mergeN (abI l) = res)) :
    Calls Try.prog 18 #[.slice a n c] w fun e w' => ∃ a2 c2 M, e = .returned (.tuple #[.slice a2 M.length c2, .int .i64 (ecR res)]) ∧ OwC w' w.heap.size (.slice a2 M.length c2) M.length M ∧ abC M = flR res ∧ Below w.heap.size w w' := by
  refine (merge27_as res a n c l w h hs E).mono ?_
  rintro e z ⟨hb, hm⟩
  cases res with
  | none => exact ⟨none, 0, [], hm, OwC.nil _ _, rfl, hb⟩
  | some s =>
    obtain ⟨v, M, rfl, ho, hab⟩ := hm
    obtain ⟨a2, c2, rfl⟩ := ho.form
    exact ⟨a2, c2, M, rfl, ho, hab, hb⟩
theorem sm_flR {M : List Cv} {res : Option (List In)} {l : List In} (hr : mergeN l = res) (hab : abC M = flR res) (hn : l.length ≤ 800) (hu : ∀ x, x ∈ M → x.u.length = x.m) : SmC M := by
  cases res with
  | none =>
    have : M = [] := List.eq_nil_of_length_eq_zero (by have := congrArg List.length hab; rw [abC_len] at this; exact this)
    subst this
    exact ⟨by show 0 ≤ _; omega, fun x hx => by cases hx⟩
  | some s =>
    obtain ⟨a1, a2, t, a3⟩ := merge_some hr
    exact sm_flat hab (fun x hx => (a3 x (a2.mem_iff.1 hx)).1) (by rw [a2.length_eq]; exact hn) hu
end Go.Proofs.Ytmphmpfeeiipgaa
/- The reference's Merge. -/
namespace Go.Proofs.Ytmphmpfeeiipgaa
open Go.ChangeShapes Go.WideShapes Go.ChangeAt Go.RowKit Go.Deep
set_option linter.unusedVariables false
set_option linter.unusedSimpArgs false
/-- What Merge answers. -/
structure MrgR (res : Option (List In)) (w : World) (e : Ending) (z : World) : Prop where
  bl : Below w.heap.size w z
  no : res = none → e = .returned (.tuple #[.slice none 0 0, .bool false])
  yes : ∀ m, res = some m → ∃ a n c L, e = .returned (.tuple #[.slice a n c, .bool true]) ∧ OwC z w.heap.size (.slice a n c) n L ∧ abC L = flatN m
theorem mrg_step {t : Int} {s l : List In} {x : In} (h : okN x = true) (ht : x.t = t) {m : List In} (hm : putN x s = some m) : mrgN t s (x :: l) = mrgN t m l := by
  show (if _ then _ else _) = _
  rw [if_pos ⟨h, ht⟩, hm]; rfl
theorem mrg_bad {t : Int} {s l : List In} {x : In} (h : ¬ (okN x = true ∧ x.t = t)) : mrgN t s (x :: l) = none := by
  show (if _ then _ else _) = _
  rw [if_neg h]
theorem mrg_over {t : Int} {s l : List In} {x : In} (hm : putN x s = none) : mrgN t s (x :: l) = none := by
  show (if _ then _ else _) = _
  split
  · rw [hm]; rfl
  · rfl
theorem merge_head (l : List In) : mergeN l = mrgN ((l.head?.map In.t).getD 0) [] l := by cases l <;> rfl
end Go.Proofs.Ytmphmpfeeiipgaa
