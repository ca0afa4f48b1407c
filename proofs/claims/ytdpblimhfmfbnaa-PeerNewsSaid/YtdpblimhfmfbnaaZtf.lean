import Derived.Deep.QuietTactic
import Derived.BigQuiet
import Derived.Deep.RegionWith
import Derived.Deep.RegionHeld3
import Derived.Deep.DeepCutAuto
import Derived.Deep.DeepFit
import Derived.Outline
import Derived.Test.YtdpblimhfmfbnaaZte
import Derived.Shelf.Abstract
import Derived.OneCell
import Derived.Laws.Rows
import Derived.Test.YtdpblimhfmfbnaaZtc
import Derived.Test.YtdpblimhfmfbnaaZta
import Derived.Lib.SliceRun
import Derived.Test.YtdpblimhfmfbnaaZtd
/- Layer 8: package build's Covered. -/
namespace Go.Proofs.Ytdpblimhfmfbnaa
open Go.RowKit
set_option linter.unusedVariables false
set_option linter.unusedSimpArgs false
/-- What Covered answers. -/
def CovR (w : World) (W H : Int) (n : Nat) (xs : List Int) (bs : List Bd) (e : Ending) (w' : World) : Prop :=
  (MOk W H n xs bs ∧ ∃ g, e = .returned (.tuple #[.slice (some ⟨g, 0, none⟩) n n, .int .i64 0]) ∧ w.heap.size ≤ g ∧ Arr w' g n 4 (fun k => .bool (cvB W bs k)) ∧ Below w.heap.size w w') ∨
  (¬ MOk W H n xs bs ∧ e = .returned (.tuple #[.slice none 0 0, .int .i64 1]) ∧ Below w.heap.size w w')
/-- What is covered when the first buildings, and the first tiles of one more, are in. -/
def covJ (W : Int) (bs : List Bd) (b : Bd) (j : Nat) (k : Nat) : Bool := cvB W bs k || decide ((k : Int) ∈ (undL W b).take j)
theorem covJ_zero (W : Int) (bs : List Bd) (b : Bd) (k : Nat) : covJ W bs b 0 k = cvB W bs k := by unfold covJ; simp
theorem und_take (W : Int) (b : Bd) (j : Nat) (hj : j < b.w.toNat * b.h.toNat) : (undL W b).take (j + 1) = (undL W b).take j ++ [undAt W b j] := by
  rw [List.take_succ_eq_append_getElem (by rw [undL_len]; exact hj)]
  congr 2
  have := undL_getD W b j hj
  rw [List.getD, List.getElem?_eq_getElem (by rw [undL_len]; exact hj)] at this
  simpa using this
theorem covJ_succ (W : Int) (bs : List Bd) (b : Bd) (j k T : Nat) (hj : j < b.w.toNat * b.h.toNat) (hT : undAt W b j = T) : covJ W bs b (j + 1) k = if k = T then true else covJ W bs b j k := by
  unfold covJ
  rw [und_take W b j hj, hT]
  by_cases e : k = T
  · subst e; simp
  · rw [if_neg e]
    congr 1
    simp [List.mem_append]
    intro h
    exact absurd (by omega) e
theorem covJ_full {W H : Int} (bs : List Bd) (b : Bd) (k : Nat) (f : FmOk b) (i : InOk W H b) : covJ W bs b (b.w.toNat * b.h.toNat) k = cvB W (bs ++ [b]) k := by
  unfold covJ
  rw [cvB_snoc, List.take_of_length_le (by rw [undL_len]; exact Nat.le_refl _)]
  congr 1
  rw [Bool.eq_iff_iff, decide_eq_true_iff]
  exact und_mem f i (by omega)
theorem six_box {X Y : World} {p0 p1 p2 p3 p4 p5 : Value} {T : TypeId} (h : Below (X.alloc (.cells #[p0, p1, p2, p3, p4, p5] T)).heap.size (X.alloc (.cells #[p0, p1, p2, p3, p4, p5] T)) Y) : Y.cell? ⟨X.heap.size, 0, none⟩ = some p0 ∧ Y.cell? ⟨X.heap.size, 1, none⟩ = some p1 ∧ Y.cell? ⟨X.heap.size, 2, none⟩ = some p2 ∧ Y.cell? ⟨X.heap.size, 3, none⟩ = some p3 ∧ Y.cell? ⟨X.heap.size, 4, none⟩ = some p4 ∧ Y.cell? ⟨X.heap.size, 5, none⟩ = some p5 ∧ X.heap.size < Y.heap.size :=
  ⟨(h.cell (p := ⟨X.heap.size, 0, none⟩) (by simp)).trans (by go_simp), (h.cell (p := ⟨X.heap.size, 1, none⟩) (by simp)).trans (by go_simp), (h.cell (p := ⟨X.heap.size, 2, none⟩) (by simp)).trans (by go_simp), (h.cell (p := ⟨X.heap.size, 3, none⟩) (by simp)).trans (by go_simp), (h.cell (p := ⟨X.heap.size, 4, none⟩) (by simp)).trans (by go_simp), (h.cell (p := ⟨X.heap.size, 5, none⟩) (by simp)).trans (by go_simp), by have := h.size; simp at this; omega⟩
theorem six_keep {X Y : World} {A : Nat} {p0 p1 p2 p3 p4 p5 : Value} (h : Below X.heap.size X Y) (g : X.cell? ⟨A, 0, none⟩ = some p0 ∧ X.cell? ⟨A, 1, none⟩ = some p1 ∧ X.cell? ⟨A, 2, none⟩ = some p2 ∧ X.cell? ⟨A, 3, none⟩ = some p3 ∧ X.cell? ⟨A, 4, none⟩ = some p4 ∧ X.cell? ⟨A, 5, none⟩ = some p5 ∧ A < X.heap.size) :
    Y.cell? ⟨A, 0, none⟩ = some p0 ∧ Y.cell? ⟨A, 1, none⟩ = some p1 ∧ Y.cell? ⟨A, 2, none⟩ = some p2 ∧ Y.cell? ⟨A, 3, none⟩ = some p3 ∧ Y.cell? ⟨A, 4, none⟩ = some p4 ∧ Y.cell? ⟨A, 5, none⟩ = some p5 ∧ A < Y.heap.size := by
  obtain ⟨h0, h1, h2, h3, h4, h5, h6⟩ := g
  exact ⟨(h.cell (p := ⟨A, 0, none⟩) h6).trans h0, (h.cell (p := ⟨A, 1, none⟩) h6).trans h1, (h.cell (p := ⟨A, 2, none⟩) h6).trans h2, (h.cell (p := ⟨A, 3, none⟩) h6).trans h3, (h.cell (p := ⟨A, 4, none⟩) h6).trans h4, (h.cell (p := ⟨A, 5, none⟩) h6).trans h5, Nat.lt_of_lt_of_le h6 h.size⟩
theorem fr_rules {G : Nat} {Z X : World} (h : Fr (fun j => j = G) Z X) :
    (∀ b o, b < Z.heap.size → ¬ b = G → X.cell? ⟨b, o, none⟩ = Z.cell? ⟨b, o, none⟩) ∧ (∀ b o, b < Z.heap.size → ¬ b = G → X.frozen? ⟨b, o, none⟩ = Z.frozen? ⟨b, o, none⟩) ∧ (∀ b, b < Z.heap.size → b < X.heap.size) ∧ (∀ b, b < Z.heap.size → ¬ b = X.heap.size) ∧ (∀ b, b < Z.heap.size → ¬ X.heap.size = b) := by
  have hs := h.size
  exact ⟨fun b o hb hg => h.cell hb hg, fun b o hb hg => h.frozen hb hg, fun b hb => by omega, fun b hb => by omega, fun b hb => by omega⟩
end Go.Proofs.Ytdpblimhfmfbnaa
/- Layer 8: the reference's Covered. -/
namespace Go.Proofs.Ytdpblimhfmfbnaa
open Go.RowKit
set_option linter.unusedVariables false
set_option linter.unusedSimpArgs false
theorem und_rc (W bi bo bx bY : Int) (wn hn r q : Nat) (hq : q < wn) : undAt W ⟨bi, bo, bx, bY, wn, hn⟩ (r * wn + q) = bx + q + W * (bY + r) := by
  unfold undAt
  simp only [Int.toNat_natCast]
  rw [Nat.mul_comm r wn, Nat.mul_add_mod, Nat.mod_eq_of_lt hq, Nat.mul_add_div (by omega), Nat.div_eq_of_lt hq, Nat.add_zero]
end Go.Proofs.Ytdpblimhfmfbnaa
/- Layer 8: where a building's ID stands. -/
namespace Go.Proofs.Ytdpblimhfmfbnaa
open Go.RowKit Go.Deep
set_option linter.unusedVariables false
set_option linter.unusedSimpArgs false
def cmB (a b : Int) : Int := if a < b then -1 else if b < a then 1 else 0
theorem asc_lt {bs : List Bd} (h : ascB bs) : ∀ (d k : Nat), k + d + 1 < bs.length → (bs.getD k default).i < (bs.getD (k + d + 1) default).i
  | 0, k, hk => h k hk
  | d + 1, k, hk => by
    have h1 := asc_lt h d k (by omega)
    have h2 := h (k + d + 1) (by omega)
    rw [show k + (d + 1) + 1 = k + d + 1 + 1 by omega]
    omega
theorem asc_le {bs : List Bd} (h : ascB bs) {k j : Nat} (hkj : k ≤ j) (hj : j < bs.length) : (bs.getD k default).i ≤ (bs.getD j default).i := by
  by_cases e : k = j
  · subst e; omega
  · obtain ⟨d, rfl⟩ : ∃ d, j = k + d + 1 := ⟨j - k - 1, by omega⟩
    have := asc_lt h d k hj
    omega
end Go.Proofs.Ytdpblimhfmfbnaa
/- Regions whose orders meet: states are merged; blocks that the region itself makes are known whole. -/
namespace Go.Proofs.Ytdpblimhfmfbnaa
open Go.RowKit
theorem reg_merge {p q : Prop} (f : Hk p → q) (x : p) : q := f ⟨x⟩
theorem reg_cast {P : Program} {md : Region.Mode} {ops : Array Oper} {Q : Exit → Act → World → Prop} {S : World → Prop} {n : Nat} {l l' : Array Bool} {a : Act} {w : World} (h : l = l') (k : wpAnyH P md ops Q S n l' a w) : wpAnyH P md ops Q S n l a w := h ▸ k
/-- The block holds just these cells, and may be written. -/
structure Bk (w : World) (P : Nat) (cs : Array Value) : Prop where
  bl : ∃ T, w.heap[P]? = some (.cells cs T (0, 0))
theorem Bk.lt {w : World} {P : Nat} {cs : Array Value} (h : Bk w P cs) : P < w.heap.size := by
  obtain ⟨T, h⟩ := h.bl; exact lt_of_block h
theorem Bk.c {w : World} {P : Nat} {cs : Array Value} (h : Bk w P cs) (i : Nat) : w.cell? ⟨P, i, none⟩ = cs[i]? := by
  obtain ⟨T, h⟩ := h.bl; simp [World.cell?, h]
theorem Bk.f {w : World} {P : Nat} {cs : Array Value} (h : Bk w P cs) (i : Nat) : w.frozen? ⟨P, i, none⟩ = false := by
  obtain ⟨T, h⟩ := h.bl; simp [World.frozen?, h]
theorem Bk.new (w : World) (cs : Array Value) (T : TypeId) : Bk (w.alloc (.cells cs T)) w.heap.size cs := ⟨T, heap_alloc_new w _⟩
theorem Bk.al {w : World} {P : Nat} {cs : Array Value} (h : Bk w P cs) (o : Obj) : Bk (w.alloc o) P cs := by
  have hlt := h.lt
  obtain ⟨T, h⟩ := h.bl; exact ⟨T, by rw [Below.heap_alloc w o P hlt]; exact h⟩
theorem Bk.below {w w' : World} {P : Nat} {cs : Array Value} (h : Bk w P cs) (hb : Below w.heap.size w w') : Bk w' P cs := by
  have hlt := h.lt
  obtain ⟨T, h⟩ := h.bl; exact ⟨T, by rw [hb.block P hlt]; exact h⟩
theorem Bk.drew {w : World} {P : Nat} {cs : Array Value} (h : Bk w P cs) : Bk w.drew P cs := ⟨h.bl⟩
theorem Bk.drewN {w : World} {P : Nat} {cs : Array Value} (h : Bk w P cs) (n : Nat) : Bk (w.drewN n) P cs := ⟨h.bl⟩
theorem Bk.oth {w : World} {P Q : Nat} {cs : Array Value} (h : Bk w P cs) (hn : ¬ P = Q) (i : Nat) (v : Value) : Bk (w.setCell ⟨Q, i, none⟩ v) P cs := by
  obtain ⟨T, h⟩ := h.bl; exact ⟨T, by rw [Below.heap_setCell _ _ _ _ (by simpa using hn)]; exact h⟩
theorem Bk.set {w : World} {P : Nat} {cs : Array Value} (h : Bk w P cs) (i : Nat) (v : Value) : Bk (w.setCell ⟨P, i, none⟩ v) P (cs.setIfInBounds i v) := by
  have hlt := h.lt
  obtain ⟨T, h⟩ := h.bl
  refine ⟨T, ?_⟩
  have h' : w.heap[P] = .cells cs T (0, 0) := by simpa [Array.getElem?_eq_getElem hlt] using h
  show (w.heap.modify P _)[P]? = _
  rw [Array.getElem?_eq_getElem (by simpa using hlt), Array.getElem_modify_self, h']
  rfl
theorem Bk.ne {w : World} {P : Nat} {cs : Array Value} (h : Bk w P cs) : ¬ P = w.heap.size := by have := h.lt; omega
theorem Bk.ne' {w : World} {P : Nat} {cs : Array Value} (h : Bk w P cs) : ¬ w.heap.size = P := by have := h.lt; omega
theorem kw_al {N : Nat} {W X : World} (h : Below N W X) (hN : N ≤ W.heap.size) (o : Obj) : Below N W (X.alloc o) := h.alloc (Nat.le_trans hN h.size) o
theorem kw_le {N : Nat} {W X : World} (h : Below N W X) (hN : N ≤ W.heap.size) : N ≤ X.heap.size := Nat.le_trans hN h.size
theorem kw_s {N : Nat} {W X : World} (h : Below N W X) : ∀ b o, b < N → X.cell? ⟨b, o, none⟩ = W.cell? ⟨b, o, none⟩ := fun b o hb => h.cell (p := ⟨b, o, none⟩) hb
end Go.Proofs.Ytdpblimhfmfbnaa
/- Layer 8: slices of buildings of a call's own; Insert at the end. -/
namespace Go.Proofs.Ytdpblimhfmfbnaa
open Go.RowKit Go.Deep
set_option linter.unusedVariables false
set_option linter.unusedSimpArgs false
def cells6 (b : Bd) : List Value := [.int .i64 b.i, .int .i64 b.o, .int .i64 b.x, .int .i64 b.y, .int .i64 b.w, .int .i64 b.h]
def flatB : List Bd → List Value
  | [] => []
  | b :: bs => cells6 b ++ flatB bs
theorem cells6_at (b : Bd) (i : Nat) (hi : i < 6) : (cells6 b)[i]? = some (.int .i64 (b.c i)) := by
  match i, hi with
  | 0, _ | 1, _ | 2, _ | 3, _ | 4, _ | 5, _ => rfl
theorem flatB_len : ∀ bs : List Bd, (flatB bs).length = bs.length * 6
  | [] => rfl
  | b :: bs => by
    have := flatB_len bs
    show (cells6 b ++ flatB bs).length = _
    rw [List.length_append, this]
    show 6 + _ = _
    simp; omega
theorem flatB_at : ∀ (bs : List Bd) (k i : Nat), k < bs.length → i < 6 → (flatB bs)[k * 6 + i]? = some (.int .i64 ((bs.getD k default).c i))
  | b :: bs, 0, i, _, hi => by
    show (cells6 b ++ flatB bs)[0 * 6 + i]? = _
    rw [List.getElem?_append_left (by show 0 * 6 + i < 6; omega), show 0 * 6 + i = i by omega]
    exact cells6_at b i hi
  | b :: bs, k + 1, i, hk, hi => by
    show (cells6 b ++ flatB bs)[(k + 1) * 6 + i]? = _
    rw [List.getElem?_append_right (by show 6 ≤ _; omega), show (k + 1) * 6 + i - (cells6 b).length = k * 6 + i by show _ - 6 = _; omega]
    have := flatB_at bs k i (by simpa using hk) hi
    rw [this]
    simp [List.getD]
theorem flatB_app : ∀ (xs bs : List Bd), flatB (xs ++ bs) = flatB xs ++ flatB bs
  | [], _ => rfl
  | a :: xs, bs => by
    show cells6 a ++ flatB (xs ++ bs) = (cells6 a ++ flatB xs) ++ flatB bs
    rw [flatB_app xs bs, List.append_assoc]
theorem flatB_one : ∀ (bs : List Bd), ∀ u ∈ flatB bs, u.oneCell' = true
  | [], u, h => by cases h
  | b :: bs, u, h => by
    rcases List.mem_append.1 h with h | h
    · unfold cells6 at h; simp at h; rcases h with rfl | rfl | rfl | rfl | rfl | rfl <;> rfl
    · exact flatB_one bs u h
end Go.Proofs.Ytdpblimhfmfbnaa
/- Layer 8: package build's Add. -/
namespace Go.Proofs.Ytdpblimhfmfbnaa
open Go.RowKit Go.Deep
set_option linter.unusedVariables false
set_option linter.unusedSimpArgs false
open Classical in
/-- What Add answers: 0, or the error. -/
noncomputable def addE (W H : Int) (n : Nat) (xs : List Int) (bs : List Bd) (b : Bd) : Int :=
  if MOk W H n xs bs then
    (if fmB b = false then 1 else if inB W H b = false then 3 else
      if (∃ k, k < bs.length ∧ (bs.getD k default).i = b.i) ∨ (undL W b).any (fun t => cvB W bs t) = true then 12 else
      if frB W xs b = false then 5 else if bs.length = 256 then 4 else 0)
  else 1
/-- The building b among the others, by its ID. -/
def insB : List Bd → Bd → List Bd
  | [], b => [b]
  | a :: bs, b => if a.i < b.i then a :: insB bs b else b :: a :: bs
theorem insB_len : ∀ (bs : List Bd) (b : Bd), (insB bs b).length = bs.length + 1
  | [], _ => rfl
  | a :: bs, b => by
    unfold insB
    split
    · simp [insB_len bs b]
    · simp
end Go.Proofs.Ytdpblimhfmfbnaa
