import Derived.Deep.QuietTactic
import Derived.BigQuiet
import Derived.Deep.RegionWith
import Derived.Deep.RegionHeld3
import Derived.Deep.DeepCutAuto
import Derived.Deep.DeepFit
import Derived.Outline
import Derived.Test.YtmphmpfeeiipgaaZtf
import Derived.Test.YtmphmpfeeiipgaaZta
import Derived.Shelf.Abstract
/- Layer 8: the tiles under a building. -/
namespace Go.Proofs.Ytmphmpfeeiipgaa
open Go.RowKit
set_option linter.unusedVariables false
/-- What under answers: new memory. -/
def UndR (w : World) (W : Int) (b : Bd) (e : Ending) (w' : World) : Prop := ∃ g, e = .returned (.slice (some ⟨g, 0, none⟩) (b.w.toNat * b.h.toNat) (b.w.toNat * b.h.toNat)) ∧ w.heap.size ≤ g ∧ Nq w' (g + 1) (some ⟨g, 0, none⟩) (b.w.toNat * b.h.toNat) (undL W b) ∧ g < w'.heap.size ∧ Below w.heap.size w w'
theorem und_snoc (W : Int) (bi bo bx bY : Int) (wn hn y x : Nat) (hx : x < wn) (hy : y < hn) {P : Int} (hP : W * (bY + y) = P) :
    (undL W ⟨bi, bo, bx, bY, wn, hn⟩).take (y * wn + (x + 1)) = (undL W ⟨bi, bo, bx, bY, wn, hn⟩).take (y * wn + x) ++ [bx + x + P] := by
  have hk : y * wn + x < wn * hn := by
    have := Nat.mul_le_mul_left wn (show y + 1 ≤ hn by omega)
    rw [Nat.mul_add, Nat.mul_one, Nat.mul_comm] at this
    omega
  have hl : y * wn + x < (undL W ⟨bi, bo, bx, bY, wn, hn⟩).length := by rw [undL_len]; simpa using hk
  rw [← Nat.add_assoc, List.take_succ_eq_append_getElem hl]
  congr 2
  have := undL_getD W ⟨bi, bo, bx, bY, wn, hn⟩ (y * wn + x) (by simpa using hk)
  rw [List.getD, List.getElem?_eq_getElem hl] at this
  simp only [Option.getD_some] at this
  rw [this]
  unfold undAt
  simp only [Int.toNat_natCast]
  rw [Nat.mul_comm y wn, Nat.mul_add_mod, Nat.mod_eq_of_lt hx, Nat.mul_add_div (by omega), Nat.div_eq_of_lt hx, Nat.add_zero, hP]
theorem nat_mul {a b N : Nat} (h : (a : Int) * (b : Int) = (N : Int)) : N = a * b := by
  have : ((N : Nat) : Int) = ((a * b : Nat) : Int) := by rw [← h]; simp
  omega
theorem own_lt {w : World} {base : Nat} {e : TypeId} {size n m cap g : Nat} {xs : List Value} (h : w.ownsRow base e size (.slice (some ⟨g, 0, none⟩) m cap) n xs) : g < w.heap.size := by
  rcases h.2 with ⟨h, _⟩ | ⟨g', cap', cur, hv, _, hg, _⟩
  · simp at h
  · simp at hv
    obtain ⟨rfl, _⟩ := hv
    exact (Array.getElem?_eq_some_iff.1 hg).1
theorem one_at (w : World) (v : Value) (T : TypeId) : ∀ j u, [v][j]? = some u → (w.alloc (.cells #[v] T)).cell? ((⟨w.heap.size, 0, none⟩ : Addr).add j) = some u := by
  intro j u hu
  match j, hu with
  | 0, hu => simp at hu; subst hu; simp [Addr.add]
end Go.Proofs.Ytmphmpfeeiipgaa
/- The library's IndexFunc and ContainsFunc over numbers: a test that makes memory at most. -/
namespace Go.Proofs.Ytmphmpfeeiipgaa
open Go.RowKit
set_option linter.unusedVariables false
theorem any_drop {xs : List Int} {p : Int → Bool} {k : Nat} (h : k < xs.length) : (xs.drop k).any p = (p (xs.getD k 0) || (xs.drop (k + 1)).any p) := by
  have e : xs.getD k 0 = xs[k] := by simp [List.getD, List.getElem?_eq_getElem h]
  rw [List.drop_eq_getElem_cons h, List.any_cons, e]
end Go.Proofs.Ytmphmpfeeiipgaa
/- Layer 8: whether the ground under a building is firm. -/
namespace Go.Proofs.Ytmphmpfeeiipgaa
open Go.RowKit
set_option linter.unusedVariables false
theorem frB_any (W : Int) (xs : List Int) (b : Bd) : (undL W b).any (fun t => decide (1 < xs.getD t.toNat 0)) = !(frB W xs b) := by
  unfold frB
  rw [List.not_all_eq_any_not]
  congr 1
  funext t
  rw [← decide_not]
  congr 1
  exact propext ⟨by omega, by omega⟩
theorem n16_of {b : Bd} (f : FmOk b) : b.w.toNat * b.h.toNat ≤ 16 := by
  have := Nat.mul_le_mul (show b.w.toNat ≤ 4 by have := f.w2; omega) (show b.h.toNat ≤ 4 by have := f.h2; omega)
  omega
end Go.Proofs.Ytmphmpfeeiipgaa
/- Layer 8: the reference's firm. -/
namespace Go.Proofs.Ytmphmpfeeiipgaa
open Go.RowKit
set_option linter.unusedVariables false
theorem frB_iff {W H : Int} {n : Nat} {xs : List Int} {b : Bd} (g : GOk W H n xs) (f : FmOk b) (i : InOk W H b) : frB W xs b = true ↔ ∀ k : Nat, k < n → hsB W b k = true → xs.getD k 0 ≤ 1 := by
  unfold frB
  rw [List.all_eq_true]
  constructor
  · intro h k hk hh
    have := h (k : Int) ((und_mem f i (by omega)).2 hh)
    simpa using this
  · intro h t ht
    obtain ⟨j, hj, rfl⟩ := List.mem_map.1 ht
    have hu := und_md f i (List.mem_range.1 hj)
    have hk : (undAt W b j).toNat < n := by have := g.nn; omega
    have := h _ hk (by rw [Int.toNat_of_nonneg hu.2.2.1]; exact (und_mem f i hu.2.2.1).1 ht)
    simpa using this
end Go.Proofs.Ytmphmpfeeiipgaa
/- Layer 8: the reference's May. -/
namespace Go.Proofs.Ytmphmpfeeiipgaa
open Go.RowKit
set_option linter.unusedVariables false
set_option linter.unusedSimpArgs false
theorem hsz1 {w X : World} {o : Obj} (h : Below (w.heap.size + 1) (w.alloc o) X) : w.heap.size ≤ X.heap.size := by have := h.size; simp at this; omega
end Go.Proofs.Ytmphmpfeeiipgaa
/- Layer 8: package build's Covered. -/
namespace Go.Proofs.Ytmphmpfeeiipgaa
open Go.RowKit
set_option linter.unusedVariables false
set_option linter.unusedSimpArgs false
/-- What Covered answers. -/
def CovR (w : World) (W H : Int) (n : Nat) (xs : List Int) (bs : List Bd) (e : Ending) (w' : World) : Prop :=
  (MOk W H n xs bs ∧ ∃ g, e = .returned (.tuple #[.slice (some ⟨g, 0, none⟩) n n, .int .i64 0]) ∧ w.heap.size ≤ g ∧ Arr w' g n 4 (fun k => .bool (cvB W bs k)) ∧ Below w.heap.size w w') ∨
  (¬ MOk W H n xs bs ∧ e = .returned (.tuple #[.slice none 0 0, .int .i64 1]) ∧ Below w.heap.size w w')
/-- What is covered when the first buildings, and the first tiles of one more, are in. -/
def covJ (W : Int) (bs : List Bd) (b : Bd) (j : Nat) (k : Nat) : Bool := cvB W bs k || decide ((k : Int) ∈ (undL W b).take j)
theorem covJ_zero (W : Int) (bs : List Bd) (b : Bd) (k : Nat) : covJ W bs b 0 k = cvB W bs k := by unfold covJ; simp
theorem und_take (W : Int) (b : Bd) (j : Nat) (hj : j < b.w.toNat * b.h.toNat) : (undL W b).take (j + 1) = (undL W b).take j ++ [undAt W b j] := by
  rw [List.take_succ_eq_append_getElem (by rw [undL_len]; exact hj)]
  congr 2
  have := undL_getD W b j hj
  rw [List.getD, List.getElem?_eq_getElem (by rw [undL_len]; exact hj)] at this
  simpa using this
theorem covJ_succ (W : Int) (bs : List Bd) (b : Bd) (j k T : Nat) (hj : j < b.w.toNat * b.h.toNat) (hT : undAt W b j = T) : covJ W bs b (j + 1) k = if k = T then true else covJ W bs b j k := by
  unfold covJ
  rw [und_take W b j hj, hT]
  by_cases e : k = T
  · subst e; simp
  · rw [if_neg e]
    congr 1
    simp [List.mem_append]
    intro h
    exact absurd (by omega) e
theorem covJ_full {W H : Int} (bs : List Bd) (b : Bd) (k : Nat) (f : FmOk b) (i : InOk W H b) : covJ W bs b (b.w.toNat * b.h.toNat) k = cvB W (bs ++ [b]) k := by
  unfold covJ
  rw [cvB_snoc, List.take_of_length_le (by rw [undL_len]; exact Nat.le_refl _)]
  congr 1
  rw [Bool.eq_iff_iff, decide_eq_true_iff]
  exact und_mem f i (by omega)
theorem six_box {X Y : World} {p0 p1 p2 p3 p4 p5 : Value} {T : TypeId} (h : Below (X.alloc (.cells #[p0, p1, p2, p3, p4, p5] T)).heap.size (X.alloc (.cells #[p0, p1, p2, p3, p4, p5] T)) Y) : Y.cell? ⟨X.heap.size, 0, none⟩ = some p0 ∧ Y.cell? ⟨X.heap.size, 1, none⟩ = some p1 ∧ Y.cell? ⟨X.heap.size, 2, none⟩ = some p2 ∧ Y.cell? ⟨X.heap.size, 3, none⟩ = some p3 ∧ Y.cell? ⟨X.heap.size, 4, none⟩ = some p4 ∧ Y.cell? ⟨X.heap.size, 5, none⟩ = some p5 ∧ X.heap.size < Y.heap.size :=
  ⟨(h.cell (p := ⟨X.heap.size, 0, none⟩) (by simp)).trans (by go_simp), (h.cell (p := ⟨X.heap.size, 1, none⟩) (by simp)).trans (by go_simp), (h.cell (p := ⟨X.heap.size, 2, none⟩) (by simp)).trans (by go_simp), (h.cell (p := ⟨X.heap.size, 3, none⟩) (by simp)).trans (by go_simp), (h.cell (p := ⟨X.heap.size, 4, none⟩) (by simp)).trans (by go_simp), (h.cell (p := ⟨X.heap.size, 5, none⟩) (by simp)).trans (by go_simp), by have := h.size; simp at this; omega⟩
theorem six_keep {X Y : World} {A : Nat} {p0 p1 p2 p3 p4 p5 : Value} (h : Below X.heap.size X Y) (g : X.cell? ⟨A, 0, none⟩ = some p0 ∧ X.cell? ⟨A, 1, none⟩ = some p1 ∧ X.cell? ⟨A, 2, none⟩ = some p2 ∧ X.cell? ⟨A, 3, none⟩ = some p3 ∧ X.cell? ⟨A, 4, none⟩ = some p4 ∧ X.cell? ⟨A, 5, none⟩ = some p5 ∧ A < X.heap.size) :
    Y.cell? ⟨A, 0, none⟩ = some p0 ∧ Y.cell? ⟨A, 1, none⟩ = some p1 ∧ Y.cell? ⟨A, 2, none⟩ = some p2 ∧ Y.cell? ⟨A, 3, none⟩ = some p3 ∧ Y.cell? ⟨A, 4, none⟩ = some p4 ∧ Y.cell? ⟨A, 5, none⟩ = some p5 ∧ A < Y.heap.size := by
  obtain ⟨h0, h1, h2, h3, h4, h5, h6⟩ := g
  exact ⟨(h.cell (p := ⟨A, 0, none⟩) h6).trans h0, (h.cell (p := ⟨A, 1, none⟩) h6).trans h1, (h.cell (p := ⟨A, 2, none⟩) h6).trans h2, (h.cell (p := ⟨A, 3, none⟩) h6).trans h3, (h.cell (p := ⟨A, 4, none⟩) h6).trans h4, (h.cell (p := ⟨A, 5, none⟩) h6).trans h5, Nat.lt_of_lt_of_le h6 h.size⟩
theorem fr_rules {G : Nat} {Z X : World} (h : Fr (fun j => j = G) Z X) :
    (∀ b o, b < Z.heap.size → ¬ b = G → X.cell? ⟨b, o, none⟩ = Z.cell? ⟨b, o, none⟩) ∧ (∀ b o, b < Z.heap.size → ¬ b = G → X.frozen? ⟨b, o, none⟩ = Z.frozen? ⟨b, o, none⟩) ∧ (∀ b, b < Z.heap.size → b < X.heap.size) ∧ (∀ b, b < Z.heap.size → ¬ b = X.heap.size) ∧ (∀ b, b < Z.heap.size → ¬ X.heap.size = b) := by
  have hs := h.size
  exact ⟨fun b o hb hg => h.cell hb hg, fun b o hb hg => h.frozen hb hg, fun b hb => by omega, fun b hb => by omega, fun b hb => by omega⟩
end Go.Proofs.Ytmphmpfeeiipgaa
