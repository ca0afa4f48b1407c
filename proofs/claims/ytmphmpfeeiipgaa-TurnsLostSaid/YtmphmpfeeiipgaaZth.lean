import Derived.Deep.QuietTactic
import Derived.BigQuiet
import Derived.Deep.RegionWith
import Derived.Deep.RegionHeld3
import Derived.Deep.DeepCutAuto
import Derived.Deep.DeepFit
import Derived.Outline
import Derived.Test.YtmphmpfeeiipgaaZtg
import Derived.Shelf.Abstract
import Derived.OneCell
import Derived.Laws.Rows
import Derived.Test.YtmphmpfeeiipgaaZte
import Derived.Test.YtmphmpfeeiipgaaZta
import Derived.Lib.SliceRun
import Derived.Test.YtmphmpfeeiipgaaZtf
/- Layer 8: the reference's Covered. -/
namespace Go.Proofs.Ytmphmpfeeiipgaa
open Go.RowKit
set_option linter.unusedVariables false
set_option linter.unusedSimpArgs false
theorem und_rc (W bi bo bx bY : Int) (wn hn r q : Nat) (hq : q < wn) : undAt W ⟨bi, bo, bx, bY, wn, hn⟩ (r * wn + q) = bx + q + W * (bY + r) := by
  unfold undAt
  simp only [Int.toNat_natCast]
  rw [Nat.mul_comm r wn, Nat.mul_add_mod, Nat.mod_eq_of_lt hq, Nat.mul_add_div (by omega), Nat.div_eq_of_lt hq, Nat.add_zero]
end Go.Proofs.Ytmphmpfeeiipgaa
/- Layer 8: where a building's ID stands. -/
namespace Go.Proofs.Ytmphmpfeeiipgaa
open Go.RowKit Go.Deep
set_option linter.unusedVariables false
set_option linter.unusedSimpArgs false
def cmB (a b : Int) : Int := if a < b then -1 else if b < a then 1 else 0
theorem asc_lt {bs : List Bd} (h : ascB bs) : ∀ (d k : Nat), k + d + 1 < bs.length → (bs.getD k default).i < (bs.getD (k + d + 1) default).i
  | 0, k, hk => h k hk
  | d + 1, k, hk => by
    have h1 := asc_lt h d k (by omega)
    have h2 := h (k + d + 1) (by omega)
    rw [show k + (d + 1) + 1 = k + d + 1 + 1 by omega]
    omega
theorem asc_le {bs : List Bd} (h : ascB bs) {k j : Nat} (hkj : k ≤ j) (hj : j < bs.length) : (bs.getD k default).i ≤ (bs.getD j default).i := by
  by_cases e : k = j
  · subst e; omega
  · obtain ⟨d, rfl⟩ : ∃ d, j = k + d + 1 := ⟨j - k - 1, by omega⟩
    have := asc_lt h d k hj
    omega
end Go.Proofs.Ytmphmpfeeiipgaa
/- Regions whose orders meet: states are merged; blocks that the region itself makes are known whole. -/
namespace Go.Proofs.Ytmphmpfeeiipgaa
open Go.RowKit
theorem reg_merge {p q : Prop} (f : Hk p → q) (x : p) : q := f ⟨x⟩
theorem reg_cast {P : Program} {md : Region.Mode} {ops : Array Oper} {Q : Exit → Act → World → Prop} {S : World → Prop} {n : Nat} {l l' : Array Bool} {a : Act} {w : World} (h : l = l') (k : wpAnyH P md ops Q S n l' a w) : wpAnyH P md ops Q S n l a w := h ▸ k
/-- The block holds just these cells, and may be written. -/
structure Bk (w : World) (P : Nat) (cs : Array Value) : Prop where
  bl : ∃ T, w.heap[P]? = some (.cells cs T (0, 0))
theorem Bk.lt {w : World} {P : Nat} {cs : Array Value} (h : Bk w P cs) : P < w.heap.size := by
  obtain ⟨T, h⟩ := h.bl; exact lt_of_block h
theorem Bk.c {w : World} {P : Nat} {cs : Array Value} (h : Bk w P cs) (i : Nat) : w.cell? ⟨P, i, none⟩ = cs[i]? := by
  obtain ⟨T, h⟩ := h.bl; simp [World.cell?, h]
theorem Bk.f {w : World} {P : Nat} {cs : Array Value} (h : Bk w P cs) (i : Nat) : w.frozen? ⟨P, i, none⟩ = false := by
  obtain ⟨T, h⟩ := h.bl; simp [World.frozen?, h]
theorem Bk.new (w : World) (cs : Array Value) (T : TypeId) : Bk (w.alloc (.cells cs T)) w.heap.size cs := ⟨T, heap_alloc_new w _⟩
theorem Bk.al {w : World} {P : Nat} {cs : Array Value} (h : Bk w P cs) (o : Obj) : Bk (w.alloc o) P cs := by
  have hlt := h.lt
  obtain ⟨T, h⟩ := h.bl; exact ⟨T, by rw [Below.heap_alloc w o P hlt]; exact h⟩
theorem Bk.below {w w' : World} {P : Nat} {cs : Array Value} (h : Bk w P cs) (hb : Below w.heap.size w w') : Bk w' P cs := by
  have hlt := h.lt
  obtain ⟨T, h⟩ := h.bl; exact ⟨T, by rw [hb.block P hlt]; exact h⟩
theorem Bk.drew {w : World} {P : Nat} {cs : Array Value} (h : Bk w P cs) : Bk w.drew P cs := ⟨h.bl⟩
theorem Bk.drewN {w : World} {P : Nat} {cs : Array Value} (h : Bk w P cs) (n : Nat) : Bk (w.drewN n) P cs := ⟨h.bl⟩
theorem Bk.oth {w : World} {P Q : Nat} {cs : Array Value} (h : Bk w P cs) (hn : ¬ P = Q) (i : Nat) (v : Value) : Bk (w.setCell ⟨Q, i, none⟩ v) P cs := by
  obtain ⟨T, h⟩ := h.bl; exact ⟨T, by rw [Below.heap_setCell _ _ _ _ (by simpa using hn)]; exact h⟩
theorem Bk.set {w : World} {P : Nat} {cs : Array Value} (h : Bk w P cs) (i : Nat) (v : Value) : Bk (w.setCell ⟨P, i, none⟩ v) P (cs.setIfInBounds i v) := by
  have hlt := h.lt
  obtain ⟨T, h⟩ := h.bl
  refine ⟨T, ?_⟩
  have h' : w.heap[P] = .cells cs T (0, 0) := by simpa [Array.getElem?_eq_getElem hlt] using h
  show (w.heap.modify P _)[P]? = _
  rw [Array.getElem?_eq_getElem (by simpa using hlt), Array.getElem_modify_self, h']
  rfl
theorem Bk.ne {w : World} {P : Nat} {cs : Array Value} (h : Bk w P cs) : ¬ P = w.heap.size := by have := h.lt; omega
theorem Bk.ne' {w : World} {P : Nat} {cs : Array Value} (h : Bk w P cs) : ¬ w.heap.size = P := by have := h.lt; omega
theorem kw_al {N : Nat} {W X : World} (h : Below N W X) (hN : N ≤ W.heap.size) (o : Obj) : Below N W (X.alloc o) := h.alloc (Nat.le_trans hN h.size) o
theorem kw_le {N : Nat} {W X : World} (h : Below N W X) (hN : N ≤ W.heap.size) : N ≤ X.heap.size := Nat.le_trans hN h.size
theorem kw_s {N : Nat} {W X : World} (h : Below N W X) : ∀ b o, b < N → X.cell? ⟨b, o, none⟩ = W.cell? ⟨b, o, none⟩ := fun b o hb => h.cell (p := ⟨b, o, none⟩) hb
end Go.Proofs.Ytmphmpfeeiipgaa
/- Layer 8: slices of buildings of a call's own; Insert at the end. -/
namespace Go.Proofs.Ytmphmpfeeiipgaa
open Go.RowKit Go.Deep
set_option linter.unusedVariables false
set_option linter.unusedSimpArgs false
def cells6 (b : Bd) : List Value := [.int .i64 b.i, .int .i64 b.o, .int .i64 b.x, .int .i64 b.y, .int .i64 b.w, .int .i64 b.h]
def flatB : List Bd → List Value
  | [] => []
  | b :: bs => cells6 b ++ flatB bs
theorem cells6_at (b : Bd) (i : Nat) (hi : i < 6) : (cells6 b)[i]? = some (.int .i64 (b.c i)) := by
  match i, hi with
  | 0, _ | 1, _ | 2, _ | 3, _ | 4, _ | 5, _ => rfl
theorem flatB_len : ∀ bs : List Bd, (flatB bs).length = bs.length * 6
  | [] => rfl
  | b :: bs => by
    have := flatB_len bs
    show (cells6 b ++ flatB bs).length = _
    rw [List.length_append, this]
    show 6 + _ = _
    simp; omega
theorem flatB_at : ∀ (bs : List Bd) (k i : Nat), k < bs.length → i < 6 → (flatB bs)[k * 6 + i]? = some (.int .i64 ((bs.getD k default).c i))
  | b :: bs, 0, i, _, hi => by
    show (cells6 b ++ flatB bs)[0 * 6 + i]? = _
    rw [List.getElem?_append_left (by show 0 * 6 + i < 6; omega), show 0 * 6 + i = i by omega]
    exact cells6_at b i hi
  | b :: bs, k + 1, i, hk, hi => by
    show (cells6 b ++ flatB bs)[(k + 1) * 6 + i]? = _
    rw [List.getElem?_append_right (by show 6 ≤ _; omega), show (k + 1) * 6 + i - (cells6 b).length = k * 6 + i by show _ - 6 = _; omega]
    have := flatB_at bs k i (by simpa using hk) hi
    rw [this]
    simp [List.getD]
theorem flatB_app : ∀ (xs bs : List Bd), flatB (xs ++ bs) = flatB xs ++ flatB bs
  | [], _ => rfl
  | a :: xs, bs => by
    show cells6 a ++ flatB (xs ++ bs) = (cells6 a ++ flatB xs) ++ flatB bs
    rw [flatB_app xs bs, List.append_assoc]
theorem flatB_one : ∀ (bs : List Bd), ∀ u ∈ flatB bs, u.oneCell' = true
  | [], u, h => by cases h
  | b :: bs, u, h => by
    rcases List.mem_append.1 h with h | h
    · unfold cells6 at h; simp at h; rcases h with rfl | rfl | rfl | rfl | rfl | rfl <;> rfl
    · exact flatB_one bs u h
end Go.Proofs.Ytmphmpfeeiipgaa
/- Layer 8: package build's Add. -/
namespace Go.Proofs.Ytmphmpfeeiipgaa
open Go.RowKit Go.Deep
set_option linter.unusedVariables false
set_option linter.unusedSimpArgs false
open Classical in
/-- What Add answers: 0, or the error. -/
noncomputable def addE (W H : Int) (n : Nat) (xs : List Int) (bs : List Bd) (b : Bd) : Int :=
  if MOk W H n xs bs then
    (if fmB b = false then 1 else if inB W H b = false then 3 else
      if (∃ k, k < bs.length ∧ (bs.getD k default).i = b.i) ∨ (undL W b).any (fun t => cvB W bs t) = true then 12 else
      if frB W xs b = false then 5 else if bs.length = 256 then 4 else 0)
  else 1
/-- The building b among the others, by its ID. -/
def insB : List Bd → Bd → List Bd
  | [], b => [b]
  | a :: bs, b => if a.i < b.i then a :: insB bs b else b :: a :: bs
theorem insB_len : ∀ (bs : List Bd) (b : Bd), (insB bs b).length = bs.length + 1
  | [], _ => rfl
  | a :: bs, b => by
    unfold insB
    split
    · simp [insB_len bs b]
    · simp
end Go.Proofs.Ytmphmpfeeiipgaa
/- Layer 6: whether a number is a tile's. -/
namespace Go.Proofs.Ytmphmpfeeiipgaa
open Go.RowKit
set_option linter.unusedVariables false
theorem bcellg {W w1 : World} (hb : Below W.heap.size W w1) : (∀ b o, b < W.heap.size → w1.cell? ⟨b, o, none⟩ = W.cell? ⟨b, o, none⟩) ∧ (∀ b o, b < W.heap.size → w1.frozen? ⟨b, o, none⟩ = W.frozen? ⟨b, o, none⟩) :=
  ⟨fun b o h => hb.cell (p := ⟨b, o, none⟩) h, fun b o h => hb.frozen (p := ⟨b, o, none⟩) h⟩
def ctE (W H : Int) (n : Nat) (xs : List Int) (t : Int) : Int := if gB W H n xs = true then (if 0 ≤ t ∧ t < W * H then 0 else 3) else 1
theorem ctE_yes {W H t : Int} {n : Nat} {xs : List Int} (g : GOk W H n xs) (h0 : 0 ≤ t) (h1 : t < W * H) : ctE W H n xs t = 0 := by unfold ctE; rw [if_pos (gB_yes g), if_pos ⟨h0, h1⟩]
theorem ctE_none {W H t : Int} {n : Nat} {xs : List Int} (g : GOk W H n xs) (h : ¬ (0 ≤ t ∧ t < W * H)) : ctE W H n xs t = 3 := by unfold ctE; rw [if_pos (gB_yes g), if_neg h]
theorem ctE_form {W H t : Int} {n : Nat} {xs : List Int} (g : ¬ GOk W H n xs) : ctE W H n xs t = 1 := by unfold ctE; rw [if_neg (by rw [gB_no g]; decide)]
end Go.Proofs.Ytmphmpfeeiipgaa
