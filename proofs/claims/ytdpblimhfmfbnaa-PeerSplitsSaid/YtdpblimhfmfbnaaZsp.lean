import Derived.Deep.QuietTactic
import Derived.BigQuiet
import Derived.Deep.RegionWith
import Derived.Deep.RegionHeld3
import Derived.Deep.DeepCutAuto
import Derived.Deep.DeepFit
import Derived.Outline
import Derived.Test.YtdpblimhfmfbnaaZsf
import Derived.Test.YtdpblimhfmfbnaaZsh
import Derived.Laws.BitsAllLaws
import Derived.RowKit
set_option linter.unusedVariables false
set_option linter.unusedSimpArgs false
namespace Go.Proofs.Ytdpblimhfmfbnaa
open Go.RowKit
def rnC (pr : Nat → Bool) (i w : Nat) : Bool := decide (0 < w ∧ (pr i = false ∨ i % 8 = 0))
def rnS (pr : Nat → Bool) : Nat → List (Nat × Nat) × Nat
 | 0 => ([], 0)
 | i + 1 => (if rnC pr i (rnS pr i).2 = true then (rnS pr i).1 ++ [(i - (rnS pr i).2, (rnS pr i).2)] else (rnS pr i).1, (if rnC pr i (rnS pr i).2 = true then 0 else (rnS pr i).2) + (if pr i = true then 1 else 0))
structure RunOK (pr : Nat → Bool) (r : Nat × Nat) : Prop where
 w1 : 1 ≤ r.2
 on : ∀ k, r.1 ≤ k → k < r.1 + r.2 → pr k = true
 oct : r.1 / 8 = (r.1 + r.2 - 1) / 8
structure RunI (pr : Nat → Bool) (i : Nat) (R : List (Nat × Nat)) (w : Nat) : Prop where
 le : w ≤ i
 op : ∀ k, i - w ≤ k → k < i → pr k = true
 oct : 0 < w → (i - w) / 8 = (i - 1) / 8
 ok : ∀ r, r ∈ R → RunOK pr r ∧ r.1 + r.2 ≤ i - w
 asc : R.Pairwise fun a b => a.1 + a.2 ≤ b.1
 cov : ∀ k, k < i - w → pr k = true → ∃ r, r ∈ R ∧ r.1 ≤ k ∧ k < r.1 + r.2
def cntR (pr : Nat → Bool) : Nat → Nat
 | 0 => 0
 | i + 1 => cntR pr i + (if pr i = true then 1 else 0)
def sumR : List (Nat × Nat) → Nat
 | [] => 0
 | r :: l => r.2 + sumR l
def ptOf (T : Nat → Int) (ac : Int) (r : Nat × Nat) : Int × Int × Int := (T (r.1 + (r.2 - 1) / 2), T (r.1 + (r.2 - 1) / 2) + ac, r.2)
end Go.Proofs.Ytdpblimhfmfbnaa
namespace Go.Proofs.Ytdpblimhfmfbnaa
open Go.RowKit
inductive Rch (N : Nat → Nat → Prop) (t : Nat) : Nat → Prop
 | refl : Rch N t t
 | step {u v : Nat} : Rch N t u → N u v → Rch N t v
theorem Rch.trans {N : Nat → Nat → Prop} {a b c : Nat} (h : Rch N a b) (k : Rch N b c) : Rch N a c := by
 induction k with
 | refl => exact h
 | step _ hn ih => exact ih.step hn
theorem Rch.symm {N : Nat → Nat → Prop} (hs : ∀ a b, N a b → N b a) {a b : Nat} (h : Rch N a b) : Rch N b a := by
 induction h with
 | refl => exact .refl
 | step _ hn ih => exact (Rch.step .refl (hs _ _ hn)).trans ih
theorem Rch.lt {N : Nat → Nat → Prop} {n a b : Nat} (hb : ∀ a b, N a b → b < n) (ha : a < n) (h : Rch N a b) : b < n := by
 cases h with
 | refl => exact ha
 | step _ hn => exact hb _ _ hn
theorem Rch.free {N : Nat → Nat → Prop} {fr : Nat → Bool} (hf : ∀ a b, N a b → fr a = true ∧ fr b = true) {a b : Nat} (h : Rch N a b) (ha : fr a = true) : fr b = true := by
 cases h with
 | refl => exact ha
 | step _ hn => exact (hf _ _ hn).2
structure IsPart (n : Nat) (N : Nat → Nat → Prop) (fr : Nat → Bool) (P : Nat → Int) : Prop where
 no : ∀ t, t < n → fr t = false → P t = -1
 yes : ∀ t, t < n → fr t = true → ∃ m : Nat, P t = (m : Int) ∧ Rch N t m ∧ ∀ u, Rch N t u → m ≤ u
theorem IsPart.eq {n : Nat} {N : Nat → Nat → Prop} {fr : Nat → Bool} {P P' : Nat → Int} (h : IsPart n N fr P) (h' : IsPart n N fr P') {t : Nat} (ht : t < n) : P t = P' t := by
 cases e : fr t
 ·rw [h.no t ht e, h'.no t ht e]
 ·obtain ⟨m, e1, r1, l1⟩ := h.yes t ht e
  obtain ⟨k, e2, r2, l2⟩ := h'.yes t ht e
  have := l1 k r2
  have := l2 m r1
  omega
structure Upto (n : Nat) (N : Nat → Nat → Prop) (fr : Nat → Bool) (s : Nat) (P : Nat → Int) : Prop where
 no : ∀ t, t < n → fr t = false → P t = -1
 yes : ∀ t, t < n → fr t = true → (∃ m : Nat, m < s ∧ P t = (m : Int) ∧ Rch N t m ∧ ∀ u, Rch N t u → m ≤ u) ∨ (P t = -1 ∧ ∀ u, Rch N t u → s ≤ u)
theorem Upto.start {n : Nat} {N : Nat → Nat → Prop} {fr : Nat → Bool} {P : Nat → Int} (h : ∀ t, t < n → P t = -1) : Upto n N fr 0 P :=
 ⟨fun t ht _ => h t ht, fun t ht _ => Or.inr ⟨h t ht, fun u _ => Nat.zero_le u⟩⟩
theorem Upto.all {n : Nat} {N : Nat → Nat → Prop} {fr : Nat → Bool} {P : Nat → Int} (h : Upto n N fr n P) (hs : ∀ a b, N a b → N b a) : IsPart n N fr P := by
 refine ⟨h.no, fun t ht e => ?_⟩
 rcases h.yes t ht e with ⟨m, _, e1, r, l⟩ | ⟨_, l⟩
 ·exact ⟨m, e1, r, l⟩
 ·exact absurd (l t .refl) (by omega)
theorem Upto.skip {n s : Nat} {N : Nat → Nat → Prop} {fr : Nat → Bool} {P : Nat → Int} (h : Upto n N fr s P) (hs : ∀ a b, N a b → N b a) (hf : ∀ a b, N a b → fr a = true ∧ fr b = true) (hlt : s < n) (hk : fr s = false ∨ 0 ≤ P s) : Upto n N fr (s + 1) P := by
 refine ⟨h.no, fun t ht e => ?_⟩
 rcases h.yes t ht e with ⟨m, hm, e1, r, l⟩ | ⟨e1, l⟩
 ·exact Or.inl ⟨m, by omega, e1, r, l⟩
 ·refine Or.inr ⟨e1, fun u hu => ?_⟩
  have h1 := l u hu
  by_cases c : u = s
  ·subst c
   exfalso
   have hfu := hu.free hf e
   rcases hk with hk | hk
   ·rw [hk] at hfu; cases hfu
   ·rcases h.yes u hlt hfu with ⟨m, hm, e2, r2, l2⟩ | ⟨e2, l2⟩
    ·have := l m (hu.trans r2)
     omega
    ·omega
  ·omega
structure Fil (n : Nat) (N : Nat → Nat → Prop) (s : Nat) (P0 P : Nat → Int) (wait : Nat → Prop) : Prop where
 old : ∀ t, t < n → P t = P0 t ∨ (P t = (s : Int) ∧ Rch N s t)
 at0 : P s = (s : Int)
 keep : ∀ t, t < n → 0 ≤ P0 t → P t = P0 t
 rel : ∀ t, t < n → Rch N s t → P t = (s : Int) → wait t ∨ ∀ u, N t u → 0 ≤ P u
structure Spr (n : Nat) (N : Nat → Nat → Prop) (fr : Nat → Bool) (P : Nat → Int) : Prop where
 no : ∀ t, t < n → fr t = false → P t = -1
 yes : ∀ t, t < n → fr t = true → ∃ m : Nat, P t = (m : Int) ∧ Rch N t m ∧ m ≤ t
theorem Spr.done {n : Nat} {N : Nat → Nat → Prop} {fr : Nat → Bool} {P : Nat → Int} (h : Spr n N fr P) (hs : ∀ a b, N a b → N b a) (hb : ∀ a b, N a b → b < n) (hf : ∀ a b, N a b → fr a = true ∧ fr b = true) (hd : ∀ t u, t < n → N t u → P t ≤ P u) : IsPart n N fr P := by
 have hle : ∀ t u, t < n → Rch N t u → P t ≤ P u := fun t u ht r => by
  induction r with
  | refl => exact Int.le_refl _
  | @step u v hu hn ih => exact Int.le_trans ih (hd u v (hu.lt hb ht) hn)
 refine ⟨h.no, fun t ht e => ?_⟩
 obtain ⟨m, e1, r, hm⟩ := h.yes t ht e
 refine ⟨m, e1, r, fun u hu => ?_⟩
 have hun := hu.lt hb ht
 obtain ⟨k, e2, _, hk⟩ := h.yes u hun (hu.free hf e)
 have := hle t u ht hu
 omega
theorem Spr.start {n : Nat} {N : Nat → Nat → Prop} {fr : Nat → Bool} : Spr n N fr (fun t => if fr t = true then (t : Int) else -1) :=
 ⟨fun t _ e => by simp [e], fun t _ e => ⟨t, by simp [e], .refl, Nat.le_refl _⟩⟩
theorem Spr.take {n t u : Nat} {N : Nat → Nat → Prop} {fr : Nat → Bool} {P : Nat → Int} (h : Spr n N fr P) (hf : ∀ a b, N a b → fr a = true ∧ fr b = true) (hn : N t u) (hu : u < n) (hl : P u < P t) : Spr n N fr (fun k => if k = t then P u else P k) := by
 refine ⟨fun k hk e => ?_, fun k hk e => ?_⟩
 ·by_cases c : k = t
  ·subst c
   rw [(hf _ _ hn).1] at e
   cases e
  ·simp only [if_neg c]; exact h.no k hk e
 ·by_cases c : k = t
  ·subst c
   simp only [if_pos rfl]
   obtain ⟨m, e1, r1, _⟩ := h.yes u hu (hf _ _ hn).2
   obtain ⟨j, e2, _, hj⟩ := h.yes k hk e
   exact ⟨m, e1, (Rch.step .refl hn).trans r1, by omega⟩
  ·simp only [if_neg c]; exact h.yes k hk e
end Go.Proofs.Ytdpblimhfmfbnaa
namespace Go.Proofs.Ytdpblimhfmfbnaa
open Go.RowKit
def updP (P : Nat → Int) (v : Nat) (x : Int) (k : Nat) : Int := if k = v then x else P k
theorem updP_at (P : Nat → Int) (v : Nat) (x : Int) : updP P v x v = x := if_pos rfl
theorem updP_far {P : Nat → Int} {v k : Nat} {x : Int} (h : k ≠ v) : updP P v x k = P k := if_neg h
structure FilJ (n : Nat) (N : Nat → Nat → Prop) (M : Nat → List Nat) (fr : Nat → Bool) (s : Nat) (P0 P : Nat → Int) (L : List Nat) (u j : Nat) : Prop where
 old : ∀ t, t < n → P t = P0 t ∨ (P t = (s : Int) ∧ Rch N s t)
 at0 : P s = (s : Int)
 keep : ∀ t, t < n → 0 ≤ P0 t → P t = P0 t
 rel : ∀ t, t < n → Rch N s t → P t = (s : Int) → t ∈ L ∨ (t = u ∧ ∀ i (h : i < j) (h' : i < (M u).length), fr ((M u)[i]) = true → 0 ≤ P ((M u)[i])) ∨ ∀ v, N t v → 0 ≤ P v
 ru : Rch N s u
 wl : ∀ t, t ∈ L → t < n ∧ Rch N s t
structure FilL (n : Nat) (N : Nat → Nat → Prop) (s : Nat) (P0 P : Nat → Int) (L : List Nat) : Prop where
 f : Fil n N s P0 P (fun t => t ∈ L)
 wl : ∀ t, t ∈ L → t < n ∧ Rch N s t
section
variable {n s u j : Nat} {N : Nat → Nat → Prop} {M : Nat → List Nat} {fr : Nat → Bool} {P0 P : Nat → Int} {L : List Nat}
theorem FilL.start (h : P0 s < 0) (hn : ∀ t, t < n → Rch N s t → P0 t ≠ (s : Int)) (hs : s < n) : FilL n N s P0 (updP P0 s s) [s] := by
 refine ⟨⟨fun t ht => ?_, updP_at _ _ _, fun t ht hk => ?_, fun t ht hr hp => ?_⟩, fun t ht => ?_⟩
 ·by_cases e : t = s
  ·subst e; exact Or.inr ⟨updP_at _ _ _, .refl⟩
  ·exact Or.inl (updP_far e)
 ·by_cases e : t = s
  ·subst e; omega
  ·exact updP_far e
 ·by_cases e : t = s
  ·subst e; exact Or.inl (List.mem_singleton.2 rfl)
  ·rw [updP_far e] at hp
   exact absurd hp (hn t ht hr)
 ·have := List.mem_singleton.1 ht
  subst this
  exact ⟨hs, .refl⟩
theorem FilJ.put (h : FilJ n N M fr s P0 P L u j) (hj : j < (M u).length) (hv : (M u)[j] < n) (hN : N u ((M u)[j])) (hp : P ((M u)[j]) < 0) : FilJ n N M fr s P0 (updP P ((M u)[j]) s) (L ++ [(M u)[j]]) u (j + 1) := by
 generalize hx : (M u)[j] = x at *
 have hup : ∀ k, 0 ≤ P k → 0 ≤ updP P x s k := fun k hk => by
  by_cases e : k = x
  ·subst e; omega
  ·rw [updP_far e]; exact hk
 refine ⟨fun t ht => ?_, ?_, fun t ht hk => ?_, fun t ht hr hp2 => ?_, h.ru, fun t ht => ?_⟩
 ·by_cases e : t = x
  ·subst e; exact Or.inr ⟨updP_at _ _ _, h.ru.step hN⟩
  ·rw [updP_far e]; exact h.old t ht
 ·by_cases e : s = x
  ·rw [← e]; exact updP_at _ _ _
  ·rw [updP_far e]; exact h.at0
 ·have h1 := h.keep t ht hk
  by_cases e : t = x
  ·subst e; omega
  ·rw [updP_far e]; exact h1
 ·by_cases e : t = x
  ·subst e; exact Or.inl (List.mem_append_right _ (List.mem_singleton.2 rfl))
  ·rw [updP_far e] at hp2
   rcases h.rel t ht hr hp2 with q | ⟨q, q2⟩ | q
   ·exact Or.inl (List.mem_append_left _ q)
   ·refine Or.inr (Or.inl ⟨q, fun i hi hi' hf => ?_⟩)
    by_cases c : i < j
    ·exact hup _ (q2 i c hi' hf)
    ·have : i = j := by omega
     subst this
     rw [hx, updP_at]
     omega
   ·exact Or.inr (Or.inr fun v hv2 => hup v (q v hv2))
 ·rcases List.mem_append.1 ht with q | q
  ·exact h.wl t q
  ·have := List.mem_singleton.1 q
   subst this
   exact ⟨hv, h.ru.step hN⟩
theorem FilJ.skip (h : FilJ n N M fr s P0 P L u j) (hk : ∀ hj : j < (M u).length, fr ((M u)[j]) = false ∨ 0 ≤ P ((M u)[j])) : FilJ n N M fr s P0 P L u (j + 1) := by
 refine ⟨h.old, h.at0, h.keep, fun t ht hr hp => ?_, h.ru, h.wl⟩
 rcases h.rel t ht hr hp with q | ⟨q, q2⟩ | q
 ·exact Or.inl q
 ·refine Or.inr (Or.inl ⟨q, fun i hi hi' hf => ?_⟩)
  by_cases c : i < j
  ·exact q2 i c hi' hf
  ·have : i = j := by omega
   subst this
   rcases hk hi' with e | e
   ·rw [e] at hf; cases hf
   ·exact e
 ·exact Or.inr (Or.inr q)
theorem FilJ.done (h : FilJ n N M fr s P0 P L u j) (hj : (M u).length ≤ j) (hN : ∀ v, N u v → v ∈ M u ∧ fr v = true) : FilL n N s P0 P L := by
 refine ⟨⟨h.old, h.at0, h.keep, fun t ht hr hp => ?_⟩, h.wl⟩
 rcases h.rel t ht hr hp with q | ⟨q, q2⟩ | q
 ·exact Or.inl q
 ·subst q
  refine Or.inr fun v hv => ?_
  obtain ⟨hm, hf⟩ := hN v hv
  obtain ⟨i, hi, he⟩ := List.getElem_of_mem hm
  have := q2 i (by omega) hi (by rw [he]; exact hf)
  rw [he] at this
  exact this
 ·exact Or.inr q
def negP (P : Nat → Int) : Nat → Nat
 | 0 => 0
 | k + 1 => negP P k + (if P k < 0 then 1 else 0)
end
end Go.Proofs.Ytdpblimhfmfbnaa
namespace Go.Proofs.Ytdpblimhfmfbnaa
open Go.RowKit
structure Arp (w : World) (J n c : Nat) (P : Nat → Int) : Prop where
 ex : ∃ g : Nat → Value, Arr w J c 3 (fun k => if k < n then .int .i64 (P k) else g k)
 le : n ≤ c
theorem Arp.lt {w : World} {J n c : Nat} {P : Nat → Int} (h : Arp w J n c P) : J < w.heap.size := by
 obtain ⟨⟨g, h⟩, _⟩ := h
 exact h.lt
theorem Arp.cell {w : World} {J n c : Nat} {P : Nat → Int} (h : Arp w J n c P) {k : Nat} (hk : k < n) : w.cell? ⟨J, k, none⟩ = some (.int .i64 (P k)) := by
 obtain ⟨⟨g, h⟩, hl⟩ := h
 rw [h.cell (show k < c by omega), if_pos hk]
theorem Arp.frozen {w : World} {J n c : Nat} {P : Nat → Int} (h : Arp w J n c P) (k : Nat) : w.frozen? ⟨J, k, none⟩ = false := by
 obtain ⟨⟨g, h⟩, _⟩ := h
 exact h.frozen k
theorem Arp.of_block {w w' : World} {J n c : Nat} {P : Nat → Int} (h : Arp w J n c P) (e : w'.heap[J]? = w.heap[J]?) : Arp w' J n c P := by
 obtain ⟨⟨g, h⟩, hl⟩ := h
 exact ⟨⟨g, h.of_block e⟩, hl⟩
theorem Arp.later {w w' : World} {J n c : Nat} {P : Nat → Int} (h : Arp w J n c P) (k : Below w.heap.size w w') : Arp w' J n c P := h.of_block (k.block J h.lt)
theorem Arp.alloc {w : World} {J n c : Nat} {P : Nat → Int} (h : Arp w J n c P) (o : Obj) : Arp (w.alloc o) J n c P := h.later ((Below.refl _ _).alloc (Nat.le_refl _) o)
theorem Arp.drewN {w : World} {J n c : Nat} {P : Nat → Int} (h : Arp w J n c P) (m : Nat) : Arp (w.drewN m) J n c P := h.of_block rfl
theorem Arp.congr {w : World} {J n c : Nat} {P Q : Nat → Int} (h : Arp w J n c P) (e : ∀ k, k < n → Q k = P k) : Arp w J n c Q := by
 obtain ⟨⟨g, h⟩, hl⟩ := h
 exact ⟨⟨g, h.congr fun k hk => by
  by_cases c : k < n
  ·rw [if_pos c, if_pos c, e k c]
  ·rw [if_neg c, if_neg c]⟩, hl⟩
theorem Arp.put {w : World} {J n c : Nat} {P : Nat → Int} (h : Arp w J n c P) {v : Nat} (hv : v < n) (x : Int) : Arp (w.setCell ⟨J, v, none⟩ (.int .i64 x)) J n c (updP P v x) := by
 obtain ⟨⟨g, h⟩, hl⟩ := h
 refine ⟨⟨g, (h.set (show v < c by omega) (.int .i64 x)).congr fun k hk => ?_⟩, hl⟩
 by_cases e : k = v
 ·subst e; rw [if_pos hv, if_pos rfl, updP_at]
 ·rw [if_neg e, updP_far e]
theorem Arp.rd {w : World} {J n c B : Nat} {P : Nat → Int} (h : Arp w J n c P) (hg : J < B) : Rd w B (some ⟨J, 0, none⟩) n (fun k => .int .i64 (P k)) :=
 fun _ => ⟨J, 0, rfl, hg, fun k hk => by rw [Nat.zero_add]; exact h.cell hk⟩
theorem Arp.own {w : World} {base g n c : Nat} {xs : List Value} {P : Nat → Int} (h : w.ownsRow base 3 1 (.slice (some ⟨g, 0, none⟩) n c) n xs) (e : ∀ k, k < n → xs[k]? = some (.int .i64 (P k))) : Arp w g n c P := by
 rcases h.2 with ⟨hv, _⟩ | ⟨g', cap, cur, hv, hb, hg, h1, h2, h3, h4⟩
 ·simp at hv
 ·simp at hv
  obtain ⟨rfl, rfl⟩ := hv
  refine ⟨⟨fun k => cur.getD k (.int .i64 0), cur, hg, by omega, fun k hk => ?_⟩, by omega⟩
  by_cases d : k < n
  ·rw [if_pos d]
   have := e k d
   rw [← h4, List.getElem?_take, if_pos (by omega)] at this
   simpa using this
  ·rw [if_neg d, Array.getElem?_eq_getElem (by omega)]
   simp [Array.getD, show k < cur.size by omega]
theorem Arp.row {w : World} {base g n c : Nat} {P : Nat → Int} (h : Arp w g n c P) (hb : base ≤ g) (hm : c ≤ 1099511627776) : w.ownsRow base 3 1 (.slice (some ⟨g, 0, none⟩) n c) n ((List.range n).map fun k => .int .i64 (P k)) := by
 obtain ⟨⟨f, cur, e, hs, hc⟩, hl⟩ := h
 refine ⟨by simp, Or.inr ⟨g, c, cur, rfl, hb, e, by omega, by unfold maxLen; omega, by omega, ?_⟩⟩
 apply List.ext_getElem?
 intro k
 by_cases hk : k < n
 ·have := hc k (by omega)
  rw [if_pos hk] at this
  simp [hk]
  simpa using this
 ·rw [List.getElem?_eq_none (by simp; omega), List.getElem?_eq_none (by simp; omega)]
end Go.Proofs.Ytdpblimhfmfbnaa
namespace Go.Proofs.Ytdpblimhfmfbnaa.Fx
open Go
structure Hd (p : Prop) : Prop where
 out : p
def Most : Int := 9223372036854775807
def cnt (a : Int) : Int := if a < -Most then -Most else a
def lessB (a b c d : Int) : Bool := decide (a < c) || (decide (a = c) && decide (b < d))
theorem and_one (x : Int) (h0 : 0 ≤ x) (h1 : x ≤ 18446744073709551615) : bits .and .u64 x 1 = x % 2 := by
 rw [u64_and x 1 h0 (by omega) (by omega) (by omega)]
 have : x.toNat &&& (1 : Int).toNat = x.toNat % 2 := Nat.and_two_pow_sub_one_eq_mod x.toNat 1
 rw [this]; omega
theorem or_nat (k a b : Nat) (hb : b < 2 ^ k) : (2 ^ k * a) ||| b = 2 ^ k * a + b := (Nat.two_pow_add_eq_or_of_lt hb a).symm
theorem or_one (x y : Int) (h0 : 0 ≤ x) (h1 : 2 * x ≤ 18446744073709551615) (hy : 0 ≤ y) (hy' : y ≤ 1) : bits .or .u64 (2 * x) y = 2 * x + y := by
 rw [u64_or (2 * x) y (by omega) (by omega) hy (by omega)]
 have := or_nat 1 x.toNat y.toNat (by omega)
 have e : (2 * x).toNat = 2 ^ 1 * x.toNat := by omega
 rw [e, this]; omega
theorem rb {a b : Bool} (h : a = b) : Ending.returned (.bool a) = .returned (.bool b) := by rw [h]
theorem wrapu (x : Int) : IntKind.u64.wrap x = x % 18446744073709551616 := by simp [IntKind.wrap, IntKind.bits, IntKind.signed]
def clampM (x : Int) : Int := if Most < x then Most else if x < -Most then -Most else x
def sz (a : Int) : Int := if cnt a < 0 then -(cnt a) else cnt a
def cmpS (a b : Int) : Int := if cnt a < cnt b then -1 else if cnt b < cnt a then 1 else 0
def ab (a : Int) : Int := if a < 0 then -a else a
def addS (a b : Int) : Int := clampM (cnt a + cnt b)
def negS (a : Int) : Int := -(cnt a)
def subS (a b : Int) : Int := addS a (negS b)
def I64 (a : Int) : Prop := -9223372036854775808 ≤ a ∧ a ≤ 9223372036854775807
theorem cnt_bd {a : Int} (h : I64 a) : -9223372036854775807 ≤ cnt a ∧ cnt a ≤ 9223372036854775807 := by
 unfold I64 at h; unfold cnt Most; split <;> omega
theorem sz_bd {a : Int} (h : I64 a) : 0 ≤ sz a ∧ sz a ≤ 9223372036854775807 := by have := cnt_bd h; unfold sz; split <;> omega
theorem halves (a b al ah bl bh low mid cr : Int) (ha : 0 ≤ a) (ha' : a ≤ 18446744073709551615) (hb : 0 ≤ b) (hb' : b ≤ 18446744073709551615)
  (e1 : al = a % 4294967296) (e2 : ah = a / 4294967296) (e3 : bl = b % 4294967296) (e4 : bh = b / 4294967296)
  (e5 : low = al * bl) (e6 : mid = ah * bl + low / 4294967296) (e7 : cr = al * bh + mid % 4294967296) :
  (0 ≤ low ∧ low ≤ 18446744065119617025) ∧ (0 ≤ ah * bl ∧ ah * bl ≤ 18446744065119617025) ∧ (0 ≤ mid ∧ mid ≤ 18446744073709551615) ∧ (0 ≤ al * bh ∧ al * bh ≤ 18446744065119617025) ∧ (0 ≤ cr ∧ cr ≤ 18446744073709551615) ∧
  (0 ≤ ah * bh ∧ ah * bh ≤ 18446744065119617025) ∧
  ah * bh + mid / 4294967296 + cr / 4294967296 = a * b / 18446744073709551616 ∧ cr % 4294967296 * 4294967296 + low % 4294967296 = a * b % 18446744073709551616 ∧ ah * bh + mid / 4294967296 + cr / 4294967296 ≤ 18446744073709551615 ∧ ah * bh + mid / 4294967296 ≤ 18446744073709551615 := by
 have hal : 0 ≤ al ∧ al ≤ 4294967295 := by omega
 have hah : 0 ≤ ah ∧ ah ≤ 4294967295 := by omega
 have hbl : 0 ≤ bl ∧ bl ≤ 4294967295 := by omega
 have hbh : 0 ≤ bh ∧ bh ≤ 4294967295 := by omega
 have m : ∀ x y : Int, 0 ≤ x ∧ x ≤ 4294967295 → 0 ≤ y ∧ y ≤ 4294967295 → 0 ≤ x * y ∧ x * y ≤ 18446744065119617025 := fun x y hx hy =>
  ⟨Int.mul_nonneg hx.1 hy.1, by have := Int.mul_le_mul hx.2 hy.2 hy.1 (by omega : (0:Int) ≤ 4294967295); omega⟩
 have p1 := m al bl hal hbl
 have p2 := m ah bl hah hbl
 have p3 := m al bh hal hbh
 have p4 := m ah bh hah hbh
 have ea : a = 4294967296 * ah + al := by omega
 have eb : b = 4294967296 * bh + bl := by omega
 have eab : a * b = 18446744073709551616 * (ah * bh) + 4294967296 * (ah * bl) + 4294967296 * (al * bh) + al * bl := by
  rw [ea, eb]
  have h1 : (4294967296 * ah + al) * (4294967296 * bh + bl) = 4294967296 * ah * (4294967296 * bh) + 4294967296 * ah * bl + al * (4294967296 * bh) + al * bl := by
   rw [Int.add_mul, Int.mul_add, Int.mul_add]; omega
  rw [h1]
  have h2 : 4294967296 * ah * (4294967296 * bh) = 18446744073709551616 * (ah * bh) := by
   rw [Int.mul_assoc, Int.mul_left_comm ah, ← Int.mul_assoc]; rfl
  have h3 : 4294967296 * ah * bl = 4294967296 * (ah * bl) := Int.mul_assoc _ _ _
  have h4 : al * (4294967296 * bh) = 4294967296 * (al * bh) := Int.mul_left_comm _ _ _
  omega
 generalize al * bl = P1 at *
 generalize ah * bl = P2 at *
 generalize al * bh = P3 at *
 generalize ah * bh = P4 at *
 generalize a * b = AB at *
 subst e5
 clear e1 e2 e3 e4 ea eb m
 have hlt : AB < 340282366920938463463374607431768211456 := by omega
 refine ⟨by omega, by omega, by omega, by omega, by omega, by omega, by omega, by omega, by omega, by omega⟩
def mLow (a b : Int) : Int := IntKind.u64.wrap (bits BinOp.and IntKind.u64 a 4294967295 * bits BinOp.and IntKind.u64 b 4294967295)
def mMid (a b : Int) : Int := IntKind.u64.wrap (IntKind.u64.wrap (a / 4294967296 * bits BinOp.and IntKind.u64 b 4294967295) + mLow a b / 4294967296)
def mCr (a b : Int) : Int := IntKind.u64.wrap (IntKind.u64.wrap (bits BinOp.and IntKind.u64 a 4294967295 * (b / 4294967296)) + bits BinOp.and IntKind.u64 (mMid a b) 4294967295)
def mHi (a b : Int) : Int := IntKind.u64.wrap (IntKind.u64.wrap (IntKind.u64.wrap (a / 4294967296 * (b / 4294967296)) + mMid a b / 4294967296) + mCr a b / 4294967296)
def mLo (a b : Int) : Int := bits BinOp.or IntKind.u64 (IntKind.u64.wrap (mCr a b * 4294967296)) (bits BinOp.and IntKind.u64 (mLow a b) 4294967295)
theorem half_pow (l : Int) (k : Nat) (hk : k < 64) : l / 2 ^ (63 - k) = 2 * (l / 2 ^ (64 - k)) + l / 2 ^ (63 - k) % 2 := by
 have e : (64 - k) = (63 - k) + 1 := by omega
 have e2 : (2 : Int) ^ (64 - k) = 2 ^ (63 - k) * 2 := by rw [e, Int.pow_succ]
 have hp : (0 : Int) ≤ 2 ^ (63 - k) := Int.le_of_lt (Int.pow_pos (by omega))
 rw [e2, ← Int.ediv_ediv_of_nonneg hp]
 omega
theorem pow_le63 (k : Nat) (hk : k ≤ 63) : (2 : Int) ^ k ≤ 9223372036854775808 := by
 have h : 2 ^ k ≤ 2 ^ 63 := Nat.pow_le_pow_right (by omega) hk
 have : ((2 ^ k : Nat) : Int) ≤ ((2 ^ 63 : Nat) : Int) := Int.ofNat_le.2 h
 rw [Int.natCast_pow] at this
 simpa using this
structure Dv (r0 l b : Int) (k : Nat) (R Q : Int) : Prop where
 hk : k ≤ 64
 R0 : 0 ≤ R
 R1 : R < b
 Q0 : 0 ≤ Q
 Q1 : Q < 2 ^ k
 eq : Q * b + R = r0 * 2 ^ k + l / 2 ^ (64 - k)
theorem Dv.small {r0 l b R Q : Int} {k : Nat} (h : Dv r0 l b k R Q) (hk : k < 64) : Q ≤ 9223372036854775807 := by
 have := pow_le63 k (by omega); have := h.Q1; omega
theorem Dv.start (r0 l b : Int) (h0 : 0 ≤ r0) (h1 : r0 < b) (l0 : 0 ≤ l) (l1 : l ≤ 18446744073709551615) : Dv r0 l b 0 r0 0 :=
 ⟨by omega, h0, h1, by omega, by simp, by
  have : l / 2 ^ (64 - 0) = 0 := by
   refine Int.ediv_eq_zero_of_lt l0 ?_
   have e : (2 : Int) ^ (64 - 0) = 18446744073709551616 := rfl
   omega
  rw [this]; simp⟩
def bitAt (l : Int) (k : Nat) : Int := bits BinOp.and IntKind.u64 (l / 2 ^ (63 - k)) 1
theorem bitAt_eq (l : Int) (k : Nat) (l0 : 0 ≤ l) (l1 : l ≤ 18446744073709551615) : bitAt l k = l / 2 ^ (63 - k) % 2 := by
 unfold bitAt
 have hp : (0 : Int) < 2 ^ (63 - k) := Int.pow_pos (by omega)
 have a0 : 0 ≤ l / 2 ^ (63 - k) := Int.ediv_nonneg l0 (by omega)
 have a1 : l / 2 ^ (63 - k) ≤ l := Int.ediv_le_self _ l0
 exact and_one _ a0 (by omega)
theorem Dv.top {r0 l b R Q : Int} {k : Nat} (h : Dv r0 l b k R Q) (l0 : 0 ≤ l) (l1 : l ≤ 18446744073709551615) (b1 : b ≤ 9223372036854775808) :
  bits BinOp.or IntKind.u64 (R * 2) (bitAt l k) = 2 * R + bitAt l k ∧ 0 ≤ bitAt l k ∧ bitAt l k ≤ 1 := by
 have e := bitAt_eq l k l0 l1
 have := h.R0; have := h.R1
 refine ⟨?_, by omega, by omega⟩
 rw [Int.mul_comm R 2]
 exact or_one R _ h.R0 (by omega) (by omega) (by omega)
theorem Dv.more {r0 l b R Q : Int} {k : Nat} (h : Dv r0 l b k R Q) (hk : k < 64) (l0 : 0 ≤ l) (l1 : l ≤ 18446744073709551615)
  (hlt : b ≤ 2 * R + bitAt l k) : Dv r0 l b (k + 1) (2 * R + bitAt l k - b) (2 * Q + 1) := by
 have e := bitAt_eq l k l0 l1
 have hp := half_pow l k hk
 have := h.R0; have := h.R1; have := h.Q0; have := h.Q1; have heq := h.eq
 refine ⟨by omega, by omega, by omega, by omega, by rw [Int.pow_succ]; omega, ?_⟩
 rw [show 64 - (k + 1) = 63 - k by omega, hp, ← e, Int.pow_succ, ← Int.mul_assoc, Int.add_mul, Int.mul_assoc 2 Q b]
 omega
def dT (h l : Int) : Int := h * 18446744073709551616 + l
theorem divs (h l b Q R : Int) (b0 : 1 ≤ b) (R0 : 0 ≤ R) (R1 : R < b) (Q0 : 0 ≤ Q) (Q1 : Q < 18446744073709551616) (eq : Q * b + R = h % b * 18446744073709551616 + l) :
  dT h l / b / 18446744073709551616 = h / b ∧ dT h l / b % 18446744073709551616 = Q ∧ dT h l % b = R := by
 have hT : dT h l = R + b * (h / b * 18446744073709551616 + Q) := by
  have hm := Int.mul_ediv_add_emod h b
  unfold dT
  have e1 : h * 18446744073709551616 = b * (h / b) * 18446744073709551616 + h % b * 18446744073709551616 := by rw [← Int.add_mul, hm]
  rw [Int.mul_add, ← Int.mul_assoc, Int.mul_comm b Q]
  omega
 have hq : dT h l / b = h / b * 18446744073709551616 + Q := by
  rw [hT, Int.add_mul_ediv_left _ _ (by omega), Int.ediv_eq_zero_of_lt R0 R1, Int.zero_add]
 have hr : dT h l % b = R := by rw [hT, Int.add_mul_emod_self_left]; exact Int.emod_eq_of_lt R0 R1
 refine ⟨?_, ?_, hr⟩ <;> rw [hq] <;> omega
theorem Dv.done {h l b R Q : Int} (hd : Dv (h % b) l b 64 R Q) (b0 : 1 ≤ b) : dT h l / b / 18446744073709551616 = h / b ∧ dT h l / b % 18446744073709551616 = Q ∧ dT h l % b = R := by
 refine divs h l b Q R b0 hd.R0 hd.R1 hd.Q0 hd.Q1 ?_
 have := hd.eq
 simpa using this
structure Ov (T b : Int) (k : Nat) (R Q : Int) : Prop where
 hk : k ≤ 128
 R0 : 0 ≤ R
 R1 : R < b
 Q0 : 0 ≤ Q
 eq : Q * b + R = T / 2 ^ (128 - k)
theorem half_pow' (l : Int) (k : Nat) (hk : k < 128) : l / 2 ^ (127 - k) = 2 * (l / 2 ^ (128 - k)) + l / 2 ^ (127 - k) % 2 := by
 have e : (128 - k) = (127 - k) + 1 := by omega
 have e2 : (2 : Int) ^ (128 - k) = 2 ^ (127 - k) * 2 := by rw [e, Int.pow_succ]
 have hp : (0 : Int) ≤ 2 ^ (127 - k) := Int.le_of_lt (Int.pow_pos (by omega))
 rw [e2, ← Int.ediv_ediv_of_nonneg hp]
 omega
theorem dT_bd (h l : Int) (h0 : 0 ≤ h) (h1 : h ≤ 18446744073709551615) (l0 : 0 ≤ l) (l1 : l ≤ 18446744073709551615) : 0 ≤ dT h l ∧ dT h l < 340282366920938463463374607431768211456 := by
 unfold dT; omega
theorem Ov.start (h l b : Int) (h0 : 0 ≤ h) (h1 : h ≤ 18446744073709551615) (l0 : 0 ≤ l) (l1 : l ≤ 18446744073709551615) (b0 : 1 ≤ b) : Ov (dT h l) b 0 0 0 :=
 ⟨by omega, by omega, by omega, by omega, by
  have hb := dT_bd h l h0 h1 l0 l1
  have : dT h l / 2 ^ (128 - 0) = 0 := by
   refine Int.ediv_eq_zero_of_lt hb.1 ?_
   have e : (2 : Int) ^ (128 - 0) = 340282366920938463463374607431768211456 := rfl
   omega
  rw [this]; simp⟩
def obit (T : Int) (k : Nat) : Int := T / 2 ^ (127 - k) % 2
theorem obit_bd (T : Int) (k : Nat) : 0 ≤ obit T k ∧ obit T k ≤ 1 := by unfold obit; omega
theorem Ov.more {T b R Q : Int} {k : Nat} (h : Ov T b k R Q) (hk : k < 128) (hlt : b ≤ 2 * R + obit T k) : Ov T b (k + 1) (2 * R + obit T k - b) (2 * Q + 1) := by
 have e := obit_bd T k
 have hp := half_pow' T k hk
 have := h.R0; have := h.R1; have := h.Q0; have heq := h.eq
 refine ⟨by omega, by omega, by omega, by omega, ?_⟩
 unfold obit
 rw [show 128 - (k + 1) = 127 - k by omega, hp, Int.add_mul, Int.mul_assoc 2 Q b]
 omega
theorem Ov.done {T b R Q : Int} (h : Ov T b 128 R Q) (b0 : 1 ≤ b) : T / b = Q ∧ T % b = R := by
 have he : Q * b + R = T := by have := h.eq; simpa using this
 constructor
 ·rw [← he, Int.add_comm, Int.add_mul_ediv_right _ _ (by omega), Int.ediv_eq_zero_of_lt h.R0 h.R1, Int.zero_add]
 ·rw [← he, Int.add_comm, Int.add_mul_emod_self_right]; exact Int.emod_eq_of_lt h.R0 h.R1
def ovQ (T b : Int) : Int := if 18446744073709551616 ≤ T / b then 18446744073709551615 else T / b
theorem Ov.top {T b R Q : Int} {k : Nat} (h : Ov T b k R Q) (b1 : b ≤ 9223372036854775808) : bits BinOp.or IntKind.u64 (R * 2) (obit T k) = 2 * R + obit T k := by
 have := h.R0; have := h.R1; have e := obit_bd T k
 rw [Int.mul_comm R 2]
 exact or_one R _ h.R0 (by omega) (by omega) (by omega)
def sgS (q : Int) (n l : Bool) : Int :=
 if n = true then -(if l = true ∧ q < Most then q + 1 else if Most < q then Most else q) else if Most < q then Most else q
def endS (q : Int) (minus : Bool) (rest : Int) : Int :=
 let q' := if minus = true ∧ 0 < rest then q + 1 else q
 let m := if Most < q' then Most else q'
 if minus = true then -m else m
def mulS (a b : Int) : Int := endS (sz a * sz b / 65536) (decide (a < 0) != decide (b < 0)) (sz a * sz b % 65536)
def divS (a b : Int) : Int :=
 if b = 0 then (if 0 < a then 9223372036854775807 else if a < 0 then -9223372036854775807 else 0) else endS (sz a * 65536 / sz b) (decide (a < 0) != decide (b < 0)) (sz a * 65536 % sz b)
theorem prod_bd {x y : Int} (hx : 0 ≤ x ∧ x ≤ 9223372036854775807) (hy : 0 ≤ y ∧ y ≤ 9223372036854775807) : 0 ≤ x * y ∧ x * y ≤ 85070591730234615847396907784232501249 := by
 refine ⟨Int.mul_nonneg hx.1 hy.1, ?_⟩
 have := Int.mul_le_mul hx.2 hy.2 hy.1 (by omega : (0 : Int) ≤ 9223372036854775807)
 omega
theorem cnt_sign {a : Int} (h : I64 a) : (cnt a < 0 ↔ a < 0) := by unfold I64 at h; unfold cnt Most; split <;> omega
end Go.Proofs.Ytdpblimhfmfbnaa.Fx
namespace Go.Proofs.Ytdpblimhfmfbnaa.Fx
structure IsRoot (T R : Int) : Prop where
 R0 : 0 ≤ R
 lo : R * R ≤ T
 hi : T < (R + 1) * (R + 1)
theorem root_nat (n : Nat) : ∃ R : Int, IsRoot n R := by
 induction n with
 | zero => exact ⟨0, by omega, by simp, by simp⟩
 | succ n ih =>
  obtain ⟨R, h0, h1, h2⟩ := ih
  by_cases hc : (R + 1) * (R + 1) ≤ ((n + 1 : Nat) : Int)
  ·refine ⟨R + 1, by omega, hc, ?_⟩
   have : (R + 1 + 1) * (R + 1 + 1) = (R + 1) * (R + 1) + 2 * (R + 1) + 1 := by rw [Int.add_mul (R + 1) 1, Int.mul_add (R + 1) (R + 1) 1]; omega
   omega
  ·exact ⟨R, h0, by omega, by omega⟩
theorem root_ex {T : Int} (h : 0 ≤ T) : ∃ R : Int, IsRoot T R := by
 have := root_nat T.toNat
 rwa [Int.toNat_of_nonneg h] at this
structure Rt (T : Int) (k : Nat) (R : Int) : Prop where
 hk : k ≤ 64
 R0 : 0 ≤ R
 dv : ∃ c : Nat, R = 2 ^ k * (c : Int)
 top : R + 2 ^ k ≤ 18446744073709551616
 lo : R * R ≤ T
 hi : T < (R + 2 ^ k) * (R + 2 ^ k)
theorem two_pow_succ (k : Nat) (hk : 0 < k) : (2 : Int) ^ k = 2 * 2 ^ (k - 1) := by
 rw [show k = (k - 1) + 1 by omega, Int.pow_succ, Nat.add_sub_cancel]; omega
theorem Rt.next {T R : Int} {k : Nat} (h : Rt T k R) (hk : 0 < k) :
  bits BinOp.or IntKind.u64 R (IntKind.u64.wrap (2 ^ (k - 1))) = R + 2 ^ (k - 1) ∧ 0 ≤ R + 2 ^ (k - 1) ∧ R + 2 ^ (k - 1) ≤ 18446744073709551615 := by
 have hp : (0 : Int) < 2 ^ (k - 1) := Int.pow_pos (by omega)
 have e := two_pow_succ k hk
 have ht := h.top
 have h0 := h.R0
 refine ⟨?_, by omega, by omega⟩
 rw [wrapu, Int.emod_eq_of_lt (by omega) (by omega)]
 obtain ⟨c, hc⟩ := h.dv
 rw [u64_or R _ h0 (by omega) (by omega) (by omega)]
 have hn : R.toNat = 2 ^ k * c := by
  have : R = ((2 ^ k * c : Nat) : Int) := by rw [hc]; simp [Int.natCast_pow]
  rw [this]; rfl
 have hm : ((2 : Int) ^ (k - 1)).toNat = 2 ^ (k - 1) := by
  have : (2 : Int) ^ (k - 1) = ((2 ^ (k - 1) : Nat) : Int) := by simp [Int.natCast_pow]
  rw [this]; rfl
 rw [hn, hm, or_nat k c _ (Nat.pow_lt_pow_right (by omega) (by omega))]
 have h3 : ((2 ^ k * c + 2 ^ (k - 1) : Nat) : Int) = 2 ^ k * (c : Int) + 2 ^ (k - 1) := by simp [Int.natCast_pow]
 rw [h3, hc]
theorem Rt.yes {T R : Int} {k : Nat} (h : Rt T k R) (hk : 0 < k) (hy : (R + 2 ^ (k - 1)) * (R + 2 ^ (k - 1)) ≤ T) : Rt T (k - 1) (R + 2 ^ (k - 1)) := by
 have hp : (0 : Int) < 2 ^ (k - 1) := Int.pow_pos (by omega)
 have e := two_pow_succ k hk
 have ht := h.top; have h0 := h.R0; have hh := h.hi; have hk' := h.hk
 have e2 : R + 2 ^ (k - 1) + 2 ^ (k - 1) = R + 2 ^ k := by omega
 refine ⟨by omega, by omega, ?_, by omega, hy, by rw [e2]; exact hh⟩
 obtain ⟨c, hc⟩ := h.dv
 refine ⟨2 * c + 1, ?_⟩
 rw [hc, e, show ((2 * c + 1 : Nat) : Int) = 2 * (c : Int) + 1 by omega, Int.mul_add, Int.mul_one, ← Int.mul_assoc, Int.mul_comm 2 (2 ^ (k - 1) : Int)]
theorem Rt.no {T R : Int} {k : Nat} (h : Rt T k R) (hk : 0 < k) (hy : T < (R + 2 ^ (k - 1)) * (R + 2 ^ (k - 1))) : Rt T (k - 1) R := by
 have hp : (0 : Int) < 2 ^ (k - 1) := Int.pow_pos (by omega)
 have e := two_pow_succ k hk
 have ht := h.top; have h0 := h.R0; have hk' := h.hk
 refine ⟨by omega, h0, ?_, by omega, h.lo, hy⟩
 obtain ⟨c, hc⟩ := h.dv
 refine ⟨2 * c, ?_⟩
 rw [hc, e, show ((2 * c : Nat) : Int) = 2 * (c : Int) by omega, ← Int.mul_assoc, Int.mul_comm 2 (2 ^ (k - 1) : Int)]
theorem Rt.done {T R : Int} (h : Rt T 0 R) : IsRoot T R := ⟨h.R0, h.lo, by simpa using h.hi⟩
end Go.Proofs.Ytdpblimhfmfbnaa.Fx
