import Derived.Deep.QuietTactic
import Derived.BigQuiet
import Derived.Deep.RegionWith
import Derived.Deep.RegionHeld3
import Derived.Deep.DeepCutAuto
import Derived.Deep.DeepFit
import Derived.Outline
import Derived.Test.YtdpblimhfmfbnaaZsam
import Derived.Test.YtdpblimhfmfbnaaZsao
import Derived.Test.YtdpblimhfmfbnaaZsap
import Derived.Test.YtdpblimhfmfbnaaZsan
import Derived.Test.YtdpblimhfmfbnaaZsaj
import Derived.Test.YtdpblimhfmfbnaaZsab
import Derived.Test.YtdpblimhfmfbnaaZsa
set_option linter.unusedVariables false
set_option linter.unusedSimpArgs false
namespace Go.Proofs.Ytdpblimhfmfbnaa
open Go.ChangeShapes Go.WideShapes Go.ChangeAt Go.RowKit Go.Deep
theorem min_ge {l : List Int} {m : Int} (h : l ≠ []) (hm : ∀ k, k < l.length → m ≤ l.getD k 0) : m ≤ minL l := by
 obtain ⟨k, hk, e⟩ := List.mem_iff_getElem.1 (min_mem h)
 have := hm k hk
 rw [← e]
 simpa [List.getD, hk] using this
theorem getD_set {l : List Int} {i k : Nat} {y : Int} (hi : i < l.length) : (l.set i y).getD k 0 = if k = i then y else l.getD k 0 := by
 by_cases e : k = i
 ·subst e
  simp [List.getD, hi]
 ·rw [if_neg e]
  simp [List.getD, List.getElem?_set, e, Ne.symm e]
theorem min_set {l : List Int} {i : Nat} {s : Int} (hi : i < l.length) (h2 : 2 ≤ l.length) (hs : ∀ k, k < l.length → l.getD k 0 ≤ s) (he : l.getD i 0 = s) : minL (l.set i (s + 1)) = minL l := by
 have hne : l ≠ [] := by intro e; rw [e] at hi; simp at hi
 have hne' : l.set i (s + 1) ≠ [] := by intro e; have := congrArg List.length e; rw [List.length_set] at this; simp at this; exact hne this
 apply Int.le_antisymm
 ·obtain ⟨j, hj, hji⟩ : ∃ j, j < l.length ∧ j ≠ i := by
   by_cases e : i = 0
   ·exact ⟨1, by omega, by omega⟩
   ·exact ⟨0, by omega, by omega⟩
  have hj1 : minL (l.set i (s + 1)) ≤ l.getD j 0 := by
   have := min_leD (l := l.set i (s + 1)) (k := j) (by rw [List.length_set]; exact hj)
   rw [getD_set hi, if_neg hji] at this
   exact this
  refine min_ge hne fun k hk => ?_
  by_cases e : k = i
  ·rw [e, he]
   exact Int.le_trans hj1 (hs j hj)
  ·have := min_leD (l := l.set i (s + 1)) (k := k) (by rw [List.length_set]; exact hk)
   rw [getD_set hi, if_neg e] at this
   exact this
 ·refine min_ge hne' fun k hk => ?_
  rw [List.length_set] at hk
  rw [getD_set hi]
  by_cases e : k = i
  ·rw [if_pos e]
   have := min_leD (l := l) hi
   rw [he] at this
   omega
  ·rw [if_neg e]
   exact min_leD hk
theorem ord_put {l M : List In} {x : In} (h : ordN none l = true) (hx : okN x = true) (hM : putN x l = some M) : ordN none M = true := by
 obtain ⟨h1, h2, -⟩ := ordN_sorted h
 obtain ⟨k1, k2⟩ := put_some h2 hM
 refine ordN_of (fun y hy => ?_) k1 (fun a e => by cases e)
 rcases List.mem_cons.1 (k2.mem_iff.1 hy) with e | e
 ·rw [e]; exact hx
 ·exact h1 y e
theorem ord_filter {l : List In} (f : In → Bool) (h : ordN none l = true) : ordN none (l.filter f) = true := by
 obtain ⟨h1, h2, -⟩ := ordN_sorted h
 exact ordN_of (fun y hy => h1 y (List.mem_filter.1 hy).1) (List.Pairwise.filter _ h2) (fun a e => by cases e)
theorem say_ok {p : Pm} {c : List Cm} {M : List In} (h : OkP p) (E : ¬ (p.s = p.t + p.d - 1 ∨ p.s = 1099511627776)) (EM : okN (sayI p c) = true) (EP : putN (sayI p c) p.l = some M) : OkP (sayM p c M) := by
 have hc := h.c
 have hi : p.i.toNat - 1 < p.h.length := by have := h.k.h1; have := hc.i1; have := hc.i2; omega
 have hia : p.i.toNat - 1 < p.a.length := by have := h.k.a1; have := hc.i1; have := hc.i2; omega
 have hall := h.k.all
 have hii := hall _ hi
 rw [h.k.h2, h.k.a2] at hii
 have e1 := hc.s2
 have e2 := hc.s3
 have e3 := hc.s1
 have e4 := hc.d2
 have e5 := hc.d1
 have e6 := hc.t1
 have hgh : ∀ k, k < p.h.length → (p.h.set (p.i.toNat - 1) (p.s + 1)).getD k 0 = if k = p.i.toNat - 1 then p.s + 1 else p.h.getD k 0 := fun k _ => getD_set hi
 have hga : ∀ k, (p.a.set (p.i.toNat - 1) (p.s + 1)).getD k 0 = if k = p.i.toNat - 1 then p.s + 1 else p.a.getD k 0 := fun k => getD_set hia
 refine ⟨⟨hc.n1, hc.n2, hc.i1, hc.i2, hc.d1, hc.d2, hc.t1, hc.t2, ?_, ?_, ?_⟩, ⟨?_, ?_, ?_, ?_, ?_⟩, ⟨ord_put h.w.o EM EP, ?_⟩, ⟨?_, ?_⟩, h.x1, h.x2⟩
 ·show p.d - 1 ≤ p.s + 1; omega
 ·show p.s + 1 ≤ p.t + p.d - 1; omega
 ·show p.s + 1 ≤ 1099511627776; omega
 ·show ((p.h.set (p.i.toNat - 1) (p.s + 1)).length : Int) = p.n; rw [List.length_set]; exact h.k.h1
 ·show ((p.a.set (p.i.toNat - 1) (p.s + 1)).length : Int) = p.n; rw [List.length_set]; exact h.k.a1
 ·show (p.h.set (p.i.toNat - 1) (p.s + 1)).getD (p.i.toNat - 1) 0 = p.s + 1; rw [hgh _ hi, if_pos rfl]
 ·show (p.a.set (p.i.toNat - 1) (p.s + 1)).getD (p.i.toNat - 1) 0 = p.s + 1; rw [hga, if_pos rfl]
 ·intro k hk
  have hk : k < p.h.length := by have : k < (p.h.set (p.i.toNat - 1) (p.s + 1)).length := hk; rw [List.length_set] at this; exact this
  have := hall k hk
  show max p.d p.t - 1 ≤ (p.h.set (p.i.toNat - 1) (p.s + 1)).getD k 0 ∧ (p.h.set (p.i.toNat - 1) (p.s + 1)).getD k 0 ≤ p.t + 16 ∧ (p.h.set (p.i.toNat - 1) (p.s + 1)).getD k 0 ≤ 1099511627776 ∧ p.d - 1 ≤ (p.a.set (p.i.toNat - 1) (p.s + 1)).getD k 0 ∧ (p.a.set (p.i.toNat - 1) (p.s + 1)).getD k 0 ≤ p.s + 1
  rw [hgh k hk, hga k]
  by_cases e : k = p.i.toNat - 1
  ·rw [if_pos e, if_pos e]; omega
  ·rw [if_neg e, if_neg e]; omega
 ·intro x hx
  obtain ⟨-, hp⟩ := put_some (ordN_sorted h.w.o).2.1 EP
  show p.t ≤ x.t ∧ x.p ≤ p.n ∧ x.t ≤ (p.h.set (p.i.toNat - 1) (p.s + 1)).getD (x.p.toNat - 1) 0
  rw [getD_set hi]
  rcases List.mem_cons.1 (hp.mem_iff.1 hx) with e | e
  ·rw [e]
   show p.t ≤ p.s + 1 ∧ p.i ≤ p.n ∧ p.s + 1 ≤ if p.i.toNat - 1 = p.i.toNat - 1 then p.s + 1 else _
   rw [if_pos rfl]
   have := hc.i2
   omega
  ·obtain ⟨a1, a2, a3⟩ := h.w.all x e
   refine ⟨a1, a2, ?_⟩
   by_cases e9 : x.p.toNat - 1 = p.i.toNat - 1
   ·rw [if_pos e9]
    rw [e9, h.k.h2] at a3
    omega
   ·rw [if_neg e9]; exact a3
 ·show ((if 1 < p.n then p.m ++ [sayI p c] else p.m).length : Int) = p.s + 1 - minL (p.a.set (p.i.toNat - 1) (p.s + 1))
  have hm := h.e.n
  by_cases e : 1 < p.n
  ·rw [if_pos e, min_set hia (by have := h.k.a1; omega) (fun k hk => (hall k (by have := h.k.a1; have := h.k.h1; omega)).2.2.2.2) h.k.a2, List.length_append]
   simp
   omega
  ·have hl1 : p.a.length = 1 := by have := h.k.a1; have := hc.n1; omega
   obtain ⟨y, hy⟩ := List.length_eq_one_iff.1 hl1
   have h0 : p.i.toNat - 1 = 0 := by omega
   have hs : y = p.s := by have := h.k.a2; rw [h0, hy] at this; exact this
   rw [if_neg e, h0, hy]
   rw [hy, hs] at hm
   show (p.m.length : Int) = p.s + 1 - (p.s + 1)
   have : (p.m.length : Int) = p.s - p.s := hm
   omega
 ·intro k x hx
  have hx : (if 1 < p.n then p.m ++ [sayI p c] else p.m)[k]? = some x := hx
  show okN x = true ∧ x.p = p.i ∧ x.t = minL (p.a.set (p.i.toNat - 1) (p.s + 1)) + 1 + k
  have hm := h.e.n
  by_cases e : 1 < p.n
  ·rw [if_pos e] at hx
   rw [min_set hia (by have := h.k.a1; omega) (fun k hk => (hall k (by have := h.k.a1; have := h.k.h1; omega)).2.2.2.2) h.k.a2]
   by_cases e2 : k < p.m.length
   ·rw [List.getElem?_append_left e2] at hx
    exact h.e.all k x hx
   ·rw [List.getElem?_append_right (by omega)] at hx
    have e3 : k - p.m.length = 0 := by
     apply Classical.byContradiction
     intro e3
     rw [List.getElem?_eq_none (by simp; omega)] at hx
     cases hx
    rw [e3] at hx
    have hx : some (sayI p c) = some x := hx
    injection hx with hx
    subst hx
    refine ⟨EM, rfl, ?_⟩
    show p.s + 1 = minL p.a + 1 + (k : Int)
    omega
  ·rw [if_neg e] at hx
   have hl1 : p.a.length = 1 := by have := h.k.a1; have := hc.n1; omega
   obtain ⟨y, hy⟩ := List.length_eq_one_iff.1 hl1
   have h0 : p.i.toNat - 1 = 0 := by omega
   have hs : y = p.s := by have := h.k.a2; rw [h0, hy] at this; exact this
   rw [hy, hs] at hm
   have : (p.m.length : Int) = p.s - p.s := hm
   rw [List.getElem?_eq_none (by omega)] at hx
   cases hx
theorem run_ok {p : Pm} {k : Int} (h : OkP p) (E : p.t < 1099511627776 ∧ p.t ≤ minL p.h) : OkP (runM p k) := by
 have hc := h.c
 have h3 := hc.s2
 have h4 := hc.t1
 have hx1 := h.x1
 have hx2 := h.x2
 refine ⟨⟨hc.n1, hc.n2, hc.i1, hc.i2, hc.d1, hc.d2, by show 0 ≤ p.t + 1; omega, by show p.t + 1 ≤ 1099511627776; omega, hc.s1, by show p.s ≤ p.t + 1 + p.d - 1; omega, hc.s3⟩, ⟨h.k.h1, h.k.a1, h.k.h2, h.k.a2, ?_⟩, ⟨ord_filter _ h.w.o, ?_⟩, ⟨h.e.n, h.e.all⟩, ?_, ?_⟩
 ·intro j hj
  obtain ⟨a1, a2, a3, a4, a5⟩ := h.k.all j hj
  have := min_leD (l := p.h) (k := j) hj
  show max p.d (p.t + 1) - 1 ≤ p.h.getD j 0 ∧ p.h.getD j 0 ≤ p.t + 1 + 16 ∧ p.h.getD j 0 ≤ 1099511627776 ∧ p.d - 1 ≤ p.a.getD j 0 ∧ p.a.getD j 0 ≤ p.s
  omega
 ·intro x hx
  obtain ⟨m1, m2⟩ := List.mem_filter.1 hx
  obtain ⟨a1, a2, a3⟩ := h.w.all x m1
  have : ¬ x.t = p.t := by simpa using m2
  exact ⟨by show p.t + 1 ≤ x.t; omega, a2, a3⟩
 ·show (if 16 < p.x.length + 1 then (p.x ++ [k]).drop 1 else p.x ++ [k]).length ≤ 16
  by_cases e : 16 < p.x.length + 1
  ·rw [if_pos e]; simp; omega
  ·rw [if_neg e]; simp; omega
 ·show ((if 16 < p.x.length + 1 then (p.x ++ [k]).drop 1 else p.x ++ [k]).length : Int) ≤ p.t + 1
  by_cases e : 16 < p.x.length + 1
  ·rw [if_pos e]; simp; omega
  ·rw [if_neg e]; simp; omega
end Go.Proofs.Ytdpblimhfmfbnaa
namespace Go.Proofs.Ytdpblimhfmfbnaa
open Go.ChangeShapes Go.WideShapes Go.ChangeAt Go.RowKit Go.Deep
structure AlP (d : Int) (t : Nat) (s : Int) (m : Nat) (p : Pm) : Prop where
 ok : OkP p
 ei : p.i = 1
 en : p.n = 1
 ed : p.d = d
 et : p.t = (t : Int)
 es : p.s = s
 ex : p.x.length = min t 16
 el : p.l.length ≤ m
 ef : ∀ x, x ∈ p.l → d ≤ x.t
theorem AlP.h1 {d s : Int} {t m : Nat} {p : Pm} (h : AlP d t s m p) : p.h = [s] := by
 have h1 := h.ok.k.h1
 rw [h.en] at h1
 obtain ⟨y, hy⟩ := List.length_eq_one_iff.1 (show p.h.length = 1 by omega)
 have h2 := h.ok.k.h2
 rw [h.ei, hy, h.es] at h2
 rw [hy]
 have : y = s := h2
 rw [this]
theorem AlP.a1 {d s : Int} {t m : Nat} {p : Pm} (h : AlP d t s m p) : p.a = [s] := by
 have h1 := h.ok.k.a1
 rw [h.en] at h1
 obtain ⟨y, hy⟩ := List.length_eq_one_iff.1 (show p.a.length = 1 by omega)
 have h2 := h.ok.k.a2
 rw [h.ei, hy, h.es] at h2
 rw [hy]
 have : y = s := h2
 rw [this]
theorem AlP.m0 {d s : Int} {t m : Nat} {p : Pm} (h : AlP d t s m p) : p.m.length = 0 := by
 have h1 := h.ok.e.n
 rw [h.a1, h.es] at h1
 have : (p.m.length : Int) = s - s := h1
 omega
theorem AlP.go {d s : Int} {t m : Nat} {p : Pm} (h : AlP d t s m p) (ht : t ≤ 100) (hs : (t : Int) ≤ s) : p.t < 1099511627776 ∧ p.t ≤ minL p.h := by
 rw [h.h1, h.et]
 exact ⟨by omega, hs⟩
theorem beg_al {d : Int} (h1 : 1 ≤ d) (h2 : d ≤ 8) : AlP d 0 (d - 1) 0 (begP 1 1 d) := by
 refine ⟨⟨⟨by show (1 : Int) ≤ 1; decide, by show (1 : Int) ≤ 8; decide, by show (1 : Int) ≤ 1; decide, by show (1 : Int) ≤ 1; decide, h1, h2, by show (0 : Int) ≤ 0; decide, by show (0 : Int) ≤ 1099511627776; decide, by show d - 1 ≤ d - 1; omega, by show d - 1 ≤ 0 + d - 1; omega, by show d - 1 ≤ 1099511627776; omega⟩, ⟨rfl, rfl, rfl, rfl, ?_⟩, ⟨rfl, fun x hx => by cases hx⟩, ⟨?_, fun k x hx => by cases hx⟩, by show 0 ≤ 16; omega, by show (0 : Int) ≤ 0; omega⟩, rfl, rfl, rfl, rfl, rfl, rfl, Nat.le_refl _, fun x hx => by cases hx⟩
 ·intro k hk
  have hk1 : k < 1 := hk
  obtain rfl : k = 0 := by omega
  show max d 0 - 1 ≤ d - 1 ∧ d - 1 ≤ 0 + 16 ∧ d - 1 ≤ 1099511627776 ∧ d - 1 ≤ d - 1 ∧ d - 1 ≤ d - 1
  omega
 ·show (0 : Int) = d - 1 - (d - 1)
  omega
def alC (t : Int) : Cm := ⟨1, t, 5, ⟨7, [], 0, 0, 0, 0, 0⟩⟩
theorem alC_ok {p : Pm} {d s : Int} {t m : Nat} (h : AlP d t s m p) (ht : t ≤ 100) (h1 : 1 ≤ d) (h2 : d ≤ 8) (h3 : s ≤ 200) : okN (sayI p [alC (t : Int)]) = true := by
 have hs := h.es
 have hc := h.ok.c.s1
 rw [h.ed] at hc
 have e1 : okL 1 (-1) [alC (t : Int)] = true := by
  show ((((!(partsL 5).isEmpty && baseB 1 (t : Int)) && chkL (partsL 5) ⟨7, [], 0, 0, 0, 0, 0⟩) && (decide ((1 : Int) = 1) && decide ((-1 : Int) < (t : Int)))) && true) = true
  have e2 : baseB 1 (t : Int) = true := by unfold baseB; rw [decide_eq_true_iff]; omega
  have e3 : chkL (partsL 5) ⟨7, [], 0, 0, 0, 0, 0⟩ = true := by decide
  have e4 : (!(partsL 5).isEmpty) = true := by decide
  rw [e2, e3, e4, decide_eq_true (show (-1 : Int) < (t : Int) by omega)]
  rfl
 unfold okN
 have e5 : (sayI p [alC (t : Int)]).p = 1 := h.ei
 rw [e5, show (sayI p [alC (t : Int)]).l = [alC (t : Int)] from rfl, e1, Bool.and_true, decide_eq_true_iff]
 show 0 ≤ p.s + 1 ∧ p.s + 1 ≤ 1099511627776 ∧ (1 : Int) ≤ 1 ∧ (1 : Int) ≤ 8 ∧ 1 ≤ 64
 omega
theorem AlP.say {p : Pm} {d : Int} {t m : Nat} {c : List Cm} {M : List In} (h : AlP d t ((t : Int) + d - 2) m p) (ht : t ≤ 100) (h1 : 1 ≤ d) (h2 : d ≤ 8) (h0 : 1 ≤ t) (EM : okN (sayI p c) = true) (EP : putN (sayI p c) p.l = some M) : AlP d t ((t : Int) + d - 1) (m + 1) (sayM p c M) := by
 have hs := h.es
 have hd := h.ed
 have htt := h.et
 have E : ¬ (p.s = p.t + p.d - 1 ∨ p.s = 1099511627776) := by rw [hs, hd, htt]; omega
 obtain ⟨hl, hm⟩ := put_mem EP
 have hfl := h.el
 exact ⟨say_ok h.ok E EM EP, h.ei, h.en, h.ed, h.et, by show p.s + 1 = _; omega, h.ex, by show M.length ≤ m + 1; omega, fun x hx => by
  rcases hm x hx with e | e
  ·rw [e]; show d ≤ p.s + 1; omega
  ·exact h.ef x e⟩
theorem AlP.run {p : Pm} {d : Int} {t m : Nat} {k : Int} (h : AlP d t ((t : Int) + d - 1) m p) (ht : t ≤ 100) (h1 : 1 ≤ d) (h2 : d ≤ 8) : AlP d (t + 1) (((t + 1 : Nat) : Int) + d - 2) m (runM p k) := by
 have hx := h.ex
 have htt := h.et
 have hss := h.es
 have hl := List.length_filter_le (fun x => !(x.t == p.t)) p.l
 have hm := h.el
 refine ⟨run_ok h.ok (h.go ht (by omega)), h.ei, h.en, h.ed, by show p.t + 1 = _; omega, by show p.s = _; omega, ?_, by show (p.l.filter _).length ≤ m; omega, fun x hx => h.ef x (List.mem_filter.1 hx).1⟩
 show (if 16 < p.x.length + 1 then (p.x ++ [k]).drop 1 else p.x ++ [k]).length = min (t + 1) 16
 by_cases e : 16 < p.x.length + 1
 ·rw [if_pos e]; simp; omega
 ·rw [if_neg e]; simp; omega
theorem AlP.put {p : Pm} {d s : Int} {t m : Nat} (h : AlP d t s m p) (c : List Cm) : ∃ M, putN (sayI p c) p.l = some M := by
 refine put_total fun a ha => ?_
 obtain ⟨h1, h2, h3⟩ := h.ok.w.all a ha
 apply Classical.byContradiction
 intro hn
 have e : a.t = p.s + 1 ∧ a.p = p.i := by
  unfold cmpN ltB sayI at hn
  rw [decide_eq_true_iff, decide_eq_true_iff] at hn
  simp only at hn
  omega
 rw [e.1, e.2, h.ok.k.h2] at h3
 omega
theorem AlP.none {p : Pm} {d s : Int} {t m : Nat} (h : AlP d t s m p) (ht : (t : Int) < d) : p.l.filter (fun x => x.t == p.t) = [] := by
 rw [List.filter_eq_nil_iff]
 intro x hx
 have := h.ef x hx
 have := h.et
 simp
 omega
end Go.Proofs.Ytdpblimhfmfbnaa
namespace Go.Proofs.Ytdpblimhfmfbnaa
open List renaming getElem_toArray → jjA, getElem_cons_succ → jjB, getElem_cons_zero → jjC, setIfInBounds_toArray → jjD, set_cons_zero → jjE, set_cons_succ → jjF
open Go.ChangeShapes Go.WideShapes Go.ChangeAt Go.RowKit Go.Deep
theorem info_nt : (Try.prog.info? 58).map (fun i => (i.zero, i.size, i.bytes)) = some (some (.agg #[.int .i64 0, .int .i64 0, .int .i64 0, .int .i64 0, .slice none 0 0, .int .i64 0, .int .u64 0, .int .i64 0]), 8, 80) := by kernel_rfl
def LkR (w : World) (B : Nat) (p : Pm) (k : Nat) (q : Iv) : Prop := OwCE w B q.a q.n q.c q.l ∧ q.ab = lackM p k ∧ SmC q.l
theorem LkR.below {w z : World} {B k : Nat} {p : Pm} {q : Iv} (h : LkR w B p k q) (hb : Below w.heap.size w z) : LkR z B p k q := ⟨h.1.below hb, h.2⟩
theorem OwNt.snoc {w z : World} {B n : Nat} {v v2 : Value} {L : List Nv} {e : Nv} (h : OwNt w B v n L) (hq : OwCE w B e.q.a e.q.n e.q.c e.q.l) (ho : z.ownsRow B 58 8 v2 (n + 1) (flt shN L ++ e.cs)) (hg : w.grownBy z v.ownBlock) (hB : B ≤ w.heap.size) : OwNt z B v2 (n + 1) (L ++ [e]) := by
 have k := Kt.grown hB h.o.row hg
 refine ⟨⟨by rw [List.length_append, h.o.len]; rfl, by rw [flt_app, flt_one1]; exact ho⟩, fun x hx => ?_⟩
 rcases List.mem_append.1 hx with hx | hx
 ·exact k.owce (h.u x hx) (by decide) (by decide)
 ·obtain rfl := List.mem_singleton.1 hx
  exact k.owce hq (by decide) (by decide)
theorem nsM_id {p : Pm} {k : Nat} (h : (k : Int) + 1 = p.i) : nsM p (k + 1) = nsM p k := if_pos h
theorem nsM_ot {p : Pm} {k : Nat} (h : ¬ (k : Int) + 1 = p.i) : nsM p (k + 1) = nsM p k ++ [noteM p k] := if_neg h
theorem abN_app (l m : List Nv) : abN (l ++ m) = abN l ++ abN m := List.map_append
def NtR (w : World) (p : Pv) (e : Ending) (z : World) : Prop := ∃ a n c L, e = .returned (.tuple #[.slice a n c, .int .i64 0]) ∧ OwNt z w.heap.size (.slice a n c) n L ∧ abN L = nsM p.ab p.n.toNat ∧ n ≤ 8 ∧ (∀ x, x ∈ L → SmC x.q.l) ∧ Below w.heap.size w z
set_option maxRecDepth 100000 in
set_option maxHeartbeats 3200000 in
theorem pnotes_yes (p : Pv) (w : World) (h : PvD w w.heap.size p) (hs : PvS p) (hk : OkP p.ab) :
  Calls Try.prog 14 #[.agg (jjP p)] w (NtR w p) := by
 obtain ⟨i0, hi0, hz0, hz1, hz2⟩ := info_parts info_nt
 obtain ⟨N, hN⟩ : ∃ N : Nat, p.n = N := ⟨p.n.toNat, by have h1 := hk.c.n1; have e : p.ab.n = p.n := rfl; omega⟩
 have HN8 : Hk (1 ≤ N ∧ N ≤ 8 ∧ p.hn = N ∧ p.an = N) := ⟨by
  have h1 := hk.c.n1
  have h2 := hk.c.n2
  have e : p.ab.n = p.n := rfl
  have h3 := hk.k.h1
  have h4 := hk.k.a1
  have h5 : p.ab.h.length = p.hl.length := rfl
  have h6 : p.ab.a.length = p.al.length := rfl
  have h7 := h.h.len
  have h8 := h.a.len
  omega⟩
 have HTB : Hk (0 ≤ p.t ∧ p.t ≤ 1099511627776) := ⟨⟨hk.c.t1, hk.c.t2⟩⟩
 have HXB : Hk (p.xn ≤ 16 ∧ p.xl.length = p.xn) := ⟨by have h1 := hk.x1; have h2 := h.x.len; have h3 : p.ab.x.length = p.xl.length := rfl; omega⟩
 have HNE := Hk.mk hN
 have HOK := Hk.mk hk
 have HS := Hk.mk hs
 have HDP : Hk (∀ X, Below w.heap.size w X → PvD X X.heap.size p) := ⟨fun X hX => h.later hX⟩
 have HWB : Hk (Below w.heap.size w (w.alloc (.cells (jjP p) 28))) := ⟨(Below.refl _ _).alloc (Nat.le_refl _) _⟩
 have hNW : (w.heap.size + 1) ≤ (w.alloc (.cells (jjP p) 28)).heap.size := by simp
 have HB : Hk (Below (w.heap.size + 1) (w.alloc (.cells (jjP p) 28)) (w.alloc (.cells (jjP p) 28))) := ⟨Below.refl _ _⟩
 have HTR : Hk (∀ X, Below (w.heap.size + 1) (w.alloc (.cells (jjP p) 28)) X → Below w.heap.size w X) := ⟨fun X hX => HWB.out.trans (hX.mono (by omega))⟩
 have HPB : Hk (Bk (w.alloc (.cells (jjP p) 28)) w.heap.size (jjP p)) := ⟨Bk.new w (jjP p) 28⟩
 clear h hs hk HTR hN
 go_enter Try.func14, Try.ntmps14
 go_upto_region 1 with fail
 generalize (w.alloc (.cells (jjP p) 28)) = V at *
 have c0 := HPB.out.c 0; have c1 := HPB.out.c 1; have c2 := HPB.out.c 2; have c3 := HPB.out.c 3; have c4 := HPB.out.c 4; have c5 := HPB.out.c 5; have c6 := HPB.out.c 6; have c7 := HPB.out.c 7; have c8 := HPB.out.c 8; have c9 := HPB.out.c 9; have c10 := HPB.out.c 10; have cl := HPB.out.lt; simp at c0 c1 c2 c3 c4 c5 c6 c7 c8 c9 c10
 go_upto_region 5 with (go_at_call 25; (with_reducible refine (pcheck_as true 0 p _ (HDP.out _ HWB.out) HS.out ⟨⟨fun g => rfl, fun g => HOK.out⟩⟩ ⟨rfl⟩).mono ?_); rintro e z ⟨rfl, hb⟩; have HBZ : Hk (Below V.heap.size V z) := ⟨hb⟩; clear hb)
 have HTR : Hk (∀ X, Below V.heap.size V X → Below w.heap.size w X) := ⟨fun X hX => HWB.out.trans (hX.mono HWB.out.size)⟩
 clear HB
 have HZC := Hk.mk (HPB.out.below HBZ.out)
 have z3 := HZC.out.c 3
 have z9 := HZC.out.c 9
 have zl := HZC.out.lt
 simp at z3 z9
 obtain ⟨LX, hLX⟩ : ∃ LX : Int, LX = (p.xn : Int) - 1 := ⟨_, rfl⟩
 have gx : IntKind.i64.wrap ((p.xn : Int) - 1) = LX := by rw [hLX]; exact wr27 (by omega) (by have := HXB.out; omega)
 have gt : IntKind.i64.wrap (p.t - 1) = p.t - 1 := wr27 (by have := HTB.out; omega) (by have := HTB.out; omega)
 obtain ⟨D, hD⟩ : ∃ D : Int, D = if p.xn = 0 then -1 else p.t - 1 := ⟨_, rfl⟩
 obtain ⟨H, hH⟩ : ∃ H : Int, H = if p.xn = 0 then 0 else p.xl.getD (p.xn - 1) 0 := ⟨_, rfl⟩
 have HLX := Hk.mk hLX
 have HD := Hk.mk hD
 have HH := Hk.mk hH
 clear hLX hD hH
 obtain ⟨bb, f0⟩ : ∃ bb, decide ((0 : Int) ≤ LX) = bb := ⟨_, rfl⟩
 go_upto_if 20 with fail
 have HF0 := Hk.mk f0
 clear f0
 go_cut [5, 6] (fun x y wx => x = .int .i64 D ∧ y = .int .u64 H ∧ Hk (Below V.heap.size V wx))
 case first =>
  cases bb
  ·have hx : p.xn = 0 := by have h1 := of_decide_eq_false HF0.out; have h2 := HLX.out; omega
   have HX := Hk.mk hx
   clear hx
   go_wp2
   go_meet
   case rel => exact ⟨by rw [HD.out, if_pos HX.out], by rw [HH.out, if_pos HX.out], HBZ⟩
  ·have hx : ¬ p.xn = 0 := by have h1 := of_decide_eq_true HF0.out; have h2 := HLX.out; omega
   obtain ⟨bx, ox, ex, hbx, hcx⟩ := (HDP.out _ (HTR.out _ HBZ.out)).x.atu (by omega)
   obtain ⟨m, hm⟩ : ∃ m : Nat, LX = m := ⟨p.xn - 1, by rw [HLX.out]; omega⟩
   subst hm
   have hmx : m < p.xn := by have := HLX.out; omega
   have cx : z.cell? ⟨bx, ox + m, none⟩ = some (.int .u64 H) := by rw [HH.out, if_neg hx, show p.xn - 1 = m by have := HLX.out; omega]; exact hcx m hmx
   have HX := Hk.mk hx
   have HZ : Hk (Below z.heap.size z z) := ⟨Below.refl _ _⟩
   have t0 : (0 : Int) ≤ (m : Int) := by omega
   have t1 : (m : Int) < (p.xn : Int) := by omega
   rw [ex] at z9
   clear hcx hx
   go_upto_region 7 with fail
   refine wp_region_held_drew (S := (fun X => (∀ b o, b < z.heap.size → X.cell? ⟨b, o, none⟩ = z.cell? ⟨b, o, none⟩) ∧ Below z.heap.size z X)) (by kernel_rfl) ?_ (fun hHeld => ?_)
   ·exact kw_S (kw_drew HZ.out)
   have HI : Ix [0, 1, 2, 3, 4, 5, 6, 7, 8, 9] := trivial
   iterate 10 (refine tkA HI (v := ?_) rfl (by kernel_rfl) (fun _ _ _ h => h) (.inl ⟨by rfl, fun wX hSw => ?_⟩) hHeld (fun HJ => ?_); rotate_left; (focus ((try dsimp only at hSw); go_simp; try with_reducible rfl)); clear HI; have HI := HJ; clear HJ; try simp only [Act.put, jjA, jjB, jjC, jjD, jjE, jjF])
   clear HI
   refine wpAnyH_done (by kernel_rfl) ?_ _
   go_wp2
   go_meet
   case rel => exact ⟨by rw [HD.out, if_neg HX.out], rfl, ⟨HBZ.out.drew⟩⟩
 case rest =>
 clear HBZ HZC z3 z9 zl gx gt
 obtain ⟨rfl, rfl, HB⟩ := hcut
 have HRR : Hk (OwNt wc V.heap.size (.slice none 0 0) 0 []) := ⟨OwNt.nil _ _⟩
 go_wp2
 go_loopw [9, 8] (fun i v wr => ∃ (k : Nat) (T : Int) (n : Nat) (L : List Nv) (va : Option Addr) (vc : Nat), i = .int .i64 T ∧ v = .slice va n vc ∧ Hk (T = (k : Int) + 1 ∧ k ≤ N ∧ n ≤ k ∧ abN L = nsM p.ab k ∧ ∀ x, x ∈ L → SmC x.q.l) ∧ Hk (OwNt wr V.heap.size (.slice va n vc) n L) ∧ Hk (Below V.heap.size V wr)) (fun i _ _ => N + 1 - (intOf i).toNat)
 case atStart => exact ⟨0, 1, 0, [], none, 0, rfl, rfl, ⟨rfl, Nat.zero_le _, Nat.le_refl _, rfl, fun _ h => by cases h⟩, HRR, HB⟩
 case round =>
  clear HRR HB
  obtain ⟨k, T, n, L, va, vc, rfl, rfl, HL, HLR, HB⟩ := hrel
  have hk1 := HL.out.1
  have hk2 := HL.out.2.1
  have x0 : wr.cell? ⟨w.heap.size, 0, none⟩ = some (.int .i64 p.i) := (HB.out.cell (p := ⟨w.heap.size, 0, none⟩) cl).trans c0
  have x1 : wr.cell? ⟨w.heap.size, 1, none⟩ = some (.int .i64 (N : Int)) := by rw [← HNE.out]; exact (HB.out.cell (p := ⟨w.heap.size, 1, none⟩) cl).trans c1
  have xl : w.heap.size < wr.heap.size := Nat.lt_of_lt_of_le cl HB.out.size
  by_cases hlt : k < N
  ·have d1 : decide (T ≤ (N : Int)) = true := by rw [decide_eq_true_iff]; omega
   have gT : IntKind.i64.wrap (T + 1) = T + 1 := wr27 (by omega) (by have := HN8.out; omega)
   have HLT : Hk (k < N) := ⟨hlt⟩
   by_cases hid : T = p.i
   ·have d2 : (T != p.i) = false := by simp [hid]
    have HID : Hk ((k : Int) + 1 = p.ab.i) := ⟨by rw [← hk1]; exact hid⟩
    clear hid hk1 hk2 hlt
    go_wp2
    exact ⟨⟨k + 1, T + 1, n, L, va, vc, rfl, rfl, ⟨by have := HL.out.1; push_cast; omega, HLT.out, by have := HL.out.2.2.1; omega, by rw [HL.out.2.2.2.1, nsM_id HID.out], HL.out.2.2.2.2⟩, HLR, HB⟩, by have h1 := HL.out.1; have h2 := HLT.out; simp [intOf]; omega⟩
   ·have d2 : (T != p.i) = true := by simp [hid]
    have HID : Hk (¬ (k : Int) + 1 = p.ab.i) := ⟨by rw [← hk1]; exact hid⟩
    have HGT : Hk (IntKind.i64.wrap (T - 1) = (k : Int)) := ⟨by rw [wr27 (by omega) (by have := HN8.out; omega)]; omega⟩
    have HKA : Hk (k < p.an) := ⟨by have := HN8.out; omega⟩
    have HNK : Hk (n ≤ 8) := ⟨by have h1 := HL.out.2.2.1; have h2 := HN8.out; omega⟩
    obtain ⟨bh, oh, eh, hbh, hch⟩ := (HDP.out _ HWB.out).h.at_ (by have := HN8.out; omega)
    obtain ⟨hk, hhk⟩ : ∃ x : Int, x = p.hl.getD k 0 := ⟨_, rfl⟩
    have ch : V.cell? ⟨bh, oh + k, none⟩ = some (.int .i64 hk) := by rw [hhk]; exact hch k (by have := HN8.out; omega)
    have HHK := Hk.mk hhk
    have HBS := HB
    have s0 : (0 : Int) ≤ (k : Int) := by omega
    have s1 : (k : Int) < (p.hn : Int) := by have := HN8.out; omega
    have s2 : k < p.hn := by have := HN8.out; omega
    have gK := HGT.out
    rw [eh] at c7
    have HEH := Hk.mk eh
    clear eh
    clear hid hk1 hk2 hlt hch hhk
    go_upto_region 13 with fail
    clear x0 x1 xl d1 d2
    have L0V : V.heap.size ≤ V.heap.size := Nat.le_refl _
    apply reg_merge
    intro HG3
    apply reg_merge
    intro HG2
    apply reg_merge
    intro HG1
    refine wp_region_held_drew (S := fun Z => (∀ b o, b < V.heap.size → Z.cell? ⟨b, o, none⟩ = V.cell? ⟨b, o, none⟩)) (by kernel_rfl) (kw_s HBS.out.drew) (fun hHeld => ?_)
    have HB := Hk.mk HBS.out.drew
    have hb := (Below.refl wr.heap.size wr).drew
    replace HLR := Hk.mk (HLR.out.below hb)
    clear hb
    obtain ⟨WZ, hWe⟩ : ∃ WZ, wr.drew = WZ := ⟨_, rfl⟩
    rw [hWe] at HB hHeld HLR ⊢
    clear hWe
    have HI : Ix [0, 1, 2, 3, 4, 5, 7, 8, 9, 10, 11, 12, 13, 14] := trivial
    iterate 14 (refine tkA HI (v := ?_) rfl (by kernel_rfl) (fun _ _ _ h => h) (.inl ⟨by rfl, fun wX hSw => ?_⟩) hHeld (fun HJ => ?_); rotate_left; (focus ((try dsimp only at hSw); go_simp; try with_reducible rfl)); clear HI; have HI := HJ; clear HJ; try simp only [Act.put, jjA, jjB, jjC, jjD, jjE, jjF])
    clear HI
    refine wpAnyH_ready (rs := [6]) (by kernel_rfl) (by simp) ?_
    refine AllReadyH.cons rfl (fun K hK => ?_) (AllReadyH.nil)
    ·skip
     go_simp
     ((go_at_call 29; rw [← HEH.out]; (with_reducible refine (lack_any p k T _ HGT.out (HDP.out _ (HTR.out _ HB.out)) HS.out HOK.out HKA.out).mono ?_); rintro e z ⟨q, rfl, ho, hqa, hqs, hb⟩; have HQO : Hk (LkR z V.heap.size p.ab k q) := ⟨⟨ho.weak (kw_le HB.out L0V), hqa, hqs⟩⟩; clear ho hqa hqs))
     replace HLR := Hk.mk (HLR.out.below hb)
     replace HB := Hk.mk (kw_step HB.out L0V hb)
     clear hb
     refine hK.out _ _ ?_ (fun hHeld2 => ?_)
     ·exact kw_s HB.out
     clear hK K hHeld
     have hHeld := hHeld2
     clear hHeld2
     (try simp only [Act.put, jjA, jjB, jjC, jjD, jjE, jjF])
     have HI : Ix [15] := trivial
     (refine tkA HI (v := ?_) rfl (by kernel_rfl) (fun _ _ _ h => h) (.inl ⟨by rfl, fun wX hSw => ?_⟩) hHeld (fun HJ => ?_); rotate_left; (focus ((try dsimp only at hSw); go_simp; try with_reducible rfl)); clear HI; have HI := HJ; clear HJ; try simp only [Act.put, jjA, jjB, jjC, jjD, jjE, jjF])
     clear HI
     refine reg_cast (l' := #[true, true, true, true, true, true, true, true, true, true, true, true, true, true, true, true, false, false, false]) (by kernel_rfl) ?_
     revert hHeld
     revert HQO
     revert HLR
     revert HB
     revert q
     revert z
     exact HG1.out
    intro WZ q HB HLR HQO hHeld
    refine wpAnyH_ready (rs := [16]) (by kernel_rfl) (by simp) ?_
    refine AllReadyH.cons rfl (fun K hK => ?_) (AllReadyH.nil)
    ·skip
     go_simp
     have hb := kw_al (Below.refl WZ.heap.size WZ) (Nat.le_refl _) (.cells #[.int .i64 p.i, .int .i64 T, .int .i64 q.t, .int .i64 q.p, .slice q.a q.n q.c, .int .i64 D, .int .u64 H, .int .i64 hk] 58)
     replace HLR := Hk.mk (HLR.out.below hb)
     replace HQO := Hk.mk (HQO.out.below hb)
     clear hb
     have L_S := kw_le HB.out L0V
     have HP_S : Hk (Bk _ _ #[.int .i64 p.i, .int .i64 T, .int .i64 q.t, .int .i64 q.p, .slice q.a q.n q.c, .int .i64 D, .int .u64 H, .int .i64 hk]) := ⟨Bk.new WZ #[.int .i64 p.i, .int .i64 T, .int .i64 q.t, .int .i64 q.p, .slice q.a q.n q.c, .int .i64 D, .int .u64 H, .int .i64 hk] 58⟩
     replace HB := Hk.mk (kw_al HB.out L0V (.cells #[.int .i64 p.i, .int .i64 T, .int .i64 q.t, .int .i64 q.p, .slice q.a q.n q.c, .int .i64 D, .int .u64 H, .int .i64 hk] 58))
     refine hK.out _ _ ?_ (fun hHeld2 => ?_)
     ·exact kw_s HB.out
     clear hK K hHeld
     have hHeld := hHeld2
     clear hHeld2
     (try simp only [Act.put, jjA, jjB, jjC, jjD, jjE, jjF])
     generalize WZ.heap.size = S at *
     generalize WZ.alloc (.cells #[.int .i64 p.i, .int .i64 T, .int .i64 q.t, .int .i64 q.p, .slice q.a q.n q.c, .int .i64 D, .int .u64 H, .int .i64 hk] 58) = WZx at *
     refine reg_cast (l' := #[true, true, true, true, true, true, true, true, true, true, true, true, true, true, true, true, true, false, false]) (by kernel_rfl) ?_
     revert hHeld
     revert HQO
     revert HLR
     revert L_S
     revert HP_S
     revert HB
     revert q
     revert S
     revert WZx
     exact HG2.out
    intro WZ S q HB HP_S L_S HLR HQO hHeld
    refine wpAnyH_ready (rs := [17]) (by kernel_rfl) (by simp) ?_
    refine AllReadyH.cons rfl (fun K hK => ?_) (AllReadyH.nil)
    ·skip
     (refine step_append27 (by rfl) (.tmp 39) (.tmp 55) 42 (by rfl) V.heap.size 58 i0 (.agg #[.int .i64 0, .int .i64 0, .int .i64 0, .int .i64 0, .slice none 0 0, .int .i64 0, .int .u64 0, .int .i64 0]) 8 80 Try.underlying42 hi0 hz0 hz1 hz2 (by rfl) (by decide) (.slice va n vc) n (flt shN L) (by rfl) HLR.out.o.row ⟨S, 0, none⟩ 1 1 (({ f := p.i, t := T, q := q, d := D, h := H, v := hk } : Nv).cs) (by rfl) (by rfl) (bk_news27 HP_S.out) (shN.one _) (by have := HNK.out; unfold maxLen; omega) (by have := HNK.out; omega) (kw_le HB.out L0V) ?_; intro v2 z hown hgrow; have HL2 : Hk (OwNt z V.heap.size v2 (n + 1) (L ++ [({ f := p.i, t := T, q := q, d := D, h := H, v := hk } : Nv)])) := ⟨HLR.out.snoc HQO.out.1 hown hgrow (kw_le HB.out L0V)⟩; have HQ2 := Hk.mk HQO.out.2; replace HB := Hk.mk (HB.out.grown hgrow (kw_le HB.out L0V) (fun g hg => (HLR.out.o.lt g hg).1)); clear hown hgrow)
     refine hK.out _ _ ?_ (fun hHeld2 => ?_)
     ·exact kw_s HB.out
     clear hK K hHeld
     have hHeld := hHeld2
     clear hHeld2
     (try simp only [Act.put, jjA, jjB, jjC, jjD, jjE, jjF])
     clear HLR
     clear HQO
     clear HP_S L_S
     have HI : Ix [18] := trivial
     (refine tkA HI (v := ?_) rfl (by kernel_rfl) (fun _ _ _ h => h) (.inl ⟨by rfl, fun wX hSw => ?_⟩) hHeld (fun HJ => ?_); rotate_left; (focus ((try dsimp only at hSw); go_simp; try with_reducible rfl)); clear HI; have HI := HJ; clear HJ; try simp only [Act.put, jjA, jjB, jjC, jjD, jjE, jjF])
     clear HI
     refine reg_cast (l' := #[true, true, true, true, true, true, true, true, true, true, true, true, true, true, true, true, true, true, true]) (by kernel_rfl) ?_
     revert hHeld
     revert HQ2
     revert HL2
     revert HB
     revert v2
     revert q
     revert S
     revert z
     exact HG3.out
    intro WZ S q v2 HB HL2 HQ2 hHeld
    refine wpAnyH_done (by kernel_rfl) ?_ _
    obtain ⟨a9, c9, rfl, -⟩ := HL2.out.o.form
    go_wp2
    have HAB : Hk (abN (L ++ [({ f := p.i, t := T, q := q, d := D, h := H, v := hk } : Nv)]) = nsM p.ab (k + 1)) := ⟨by
     rw [abN_app, HL.out.2.2.2.1, nsM_ot HID.out]
     congr 1
     show [(⟨p.i, T, q.ab, D, H, hk⟩ : Nm)] = [noteM p.ab k]
     have e1 : p.ab.x.length = p.xn := HXB.out.2
     unfold noteM
     rw [HQ2.out.1, HL.out.1, HD.out, HH.out, HHK.out, e1]
     rfl⟩
    exact ⟨⟨k + 1, T + 1, n + 1, L ++ [({ f := p.i, t := T, q := q, d := D, h := H, v := hk } : Nv)], a9, c9, rfl, rfl, ⟨by have := HL.out.1; push_cast; omega, HLT.out, by have := HL.out.2.2.1; omega, HAB.out, fun x hx => by
     rcases List.mem_append.1 hx with hx | hx
     ·exact HL.out.2.2.2.2 x hx
     ·obtain rfl := List.mem_singleton.1 hx
      exact HQ2.out.2⟩, HL2, HB⟩, by have h1 := HL.out.1; have h2 := HLT.out; simp [intOf]; omega⟩
  ·obtain rfl : k = N := by omega
   have d1 : decide (T ≤ (k : Int)) = false := by rw [decide_eq_false_iff_not]; omega
   clear hk1 hk2 hlt
   go_wp2
   go_ret2
   exact ⟨va, n, vc, L, rfl, HLR.out.weak HWB.out.size, by rw [HL.out.2.2.2.1, HNE.out]; rfl, by have h1 := HL.out.2.2.1; have h2 := HN8.out; omega, HL.out.2.2.2.2, HTR.out _ HB.out⟩
end Go.Proofs.Ytdpblimhfmfbnaa
