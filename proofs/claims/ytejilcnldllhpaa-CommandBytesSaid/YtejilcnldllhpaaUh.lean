import Derived.WalkKit
import Derived.Below
import Derived.Test.YtejilcnldllhpaaProg
import Derived.OneCell
import Derived.Laws.Rows
import Derived.Deep.RegionHeld3
import Derived.Test.YtejilcnldllhpaaUa
import Derived.Test.YtejilcnldllhpaaUb
/- Rules by which a walk reads old cells in a later world. -/
namespace Go.Proofs.Ytejilcnldllhpaa
open Go.RowKit
theorem kw_rules {N : Nat} {W X : World} (h : Below N W X) (hN : N ≤ W.heap.size) :
    (∀ b o, b < N → X.cell? ⟨b, o, none⟩ = W.cell? ⟨b, o, none⟩) ∧ (∀ b o, b < N → X.frozen? ⟨b, o, none⟩ = W.frozen? ⟨b, o, none⟩) ∧ (∀ b, b < N → b < X.heap.size) ∧ (∀ b, b < N → ¬ b = X.heap.size) ∧ (∀ b, b < N → ¬ X.heap.size = b) := by
  have hs := h.size
  exact ⟨fun b o hb => h.cell (p := ⟨b, o, none⟩) hb, fun b o hb => h.frozen (p := ⟨b, o, none⟩) hb, fun b hb => by omega, fun b hb => by omega, fun b hb => by omega⟩
theorem kw_step {N : Nat} {W X Y : World} (h : Below N W X) (hN : N ≤ W.heap.size) (hb : Below X.heap.size X Y) : Below N W Y := h.trans (hb.mono (Nat.le_trans hN h.size))
theorem kw_drew {N : Nat} {W X : World} (h : Below N W X) : Below N W X.drew := h.drew
theorem bset {B : Nat} {w X : World} (h : Below B w X) {b : Nat} (off : Nat) (hb : B ≤ b) (v : Value) : Below B w (X.setCell ⟨b, off, none⟩ v) := Below.setCell (p := ⟨b, off, none⟩) h hb v
theorem kw_S {N : Nat} {W X : World} (h : Below N W X) : (∀ b o, b < N → X.cell? ⟨b, o, none⟩ = W.cell? ⟨b, o, none⟩) ∧ Below N W X := ⟨fun b o hb => h.cell (p := ⟨b, o, none⟩) hb, h⟩
theorem kw_size {N : Nat} {W X : World} (h : Below N W X) (hN : N ≤ W.heap.size) : N ≤ X.heap.size := Nat.le_trans hN h.size
end Go.Proofs.Ytejilcnldllhpaa
/- Regions whose orders meet: states are merged; blocks that the region itself makes are known whole. -/
namespace Go.Proofs.Ytejilcnldllhpaa
open Go.RowKit
theorem reg_merge {p q : Prop} (f : Hk p → q) (x : p) : q := f ⟨x⟩
theorem reg_cast {P : Program} {md : Region.Mode} {ops : Array Oper} {Q : Exit → Act → World → Prop} {S : World → Prop} {n : Nat} {l l' : Array Bool} {a : Act} {w : World} (h : l = l') (k : wpAnyH P md ops Q S n l' a w) : wpAnyH P md ops Q S n l a w := h ▸ k
/-- The block holds just these cells, and may be written. -/
structure Bk (w : World) (P : Nat) (cs : Array Value) : Prop where
  bl : ∃ T, w.heap[P]? = some (.cells cs T (0, 0))
theorem Bk.lt {w : World} {P : Nat} {cs : Array Value} (h : Bk w P cs) : P < w.heap.size := by
  obtain ⟨T, h⟩ := h.bl; exact lt_of_block h
theorem Bk.c {w : World} {P : Nat} {cs : Array Value} (h : Bk w P cs) (i : Nat) : w.cell? ⟨P, i, none⟩ = cs[i]? := by
  obtain ⟨T, h⟩ := h.bl; simp [World.cell?, h]
theorem Bk.f {w : World} {P : Nat} {cs : Array Value} (h : Bk w P cs) (i : Nat) : w.frozen? ⟨P, i, none⟩ = false := by
  obtain ⟨T, h⟩ := h.bl; simp [World.frozen?, h]
theorem Bk.new (w : World) (cs : Array Value) (T : TypeId) : Bk (w.alloc (.cells cs T)) w.heap.size cs := ⟨T, heap_alloc_new w _⟩
theorem Bk.al {w : World} {P : Nat} {cs : Array Value} (h : Bk w P cs) (o : Obj) : Bk (w.alloc o) P cs := by
  have hlt := h.lt
  obtain ⟨T, h⟩ := h.bl; exact ⟨T, by rw [Below.heap_alloc w o P hlt]; exact h⟩
theorem Bk.below {w w' : World} {P : Nat} {cs : Array Value} (h : Bk w P cs) (hb : Below w.heap.size w w') : Bk w' P cs := by
  have hlt := h.lt
  obtain ⟨T, h⟩ := h.bl; exact ⟨T, by rw [hb.block P hlt]; exact h⟩
theorem Bk.drew {w : World} {P : Nat} {cs : Array Value} (h : Bk w P cs) : Bk w.drew P cs := ⟨h.bl⟩
theorem Bk.drewN {w : World} {P : Nat} {cs : Array Value} (h : Bk w P cs) (n : Nat) : Bk (w.drewN n) P cs := ⟨h.bl⟩
theorem Bk.oth {w : World} {P Q : Nat} {cs : Array Value} (h : Bk w P cs) (hn : ¬ P = Q) (i : Nat) (v : Value) : Bk (w.setCell ⟨Q, i, none⟩ v) P cs := by
  obtain ⟨T, h⟩ := h.bl; exact ⟨T, by rw [Below.heap_setCell _ _ _ _ (by simpa using hn)]; exact h⟩
theorem Bk.set {w : World} {P : Nat} {cs : Array Value} (h : Bk w P cs) (i : Nat) (v : Value) : Bk (w.setCell ⟨P, i, none⟩ v) P (cs.setIfInBounds i v) := by
  have hlt := h.lt
  obtain ⟨T, h⟩ := h.bl
  refine ⟨T, ?_⟩
  have h' : w.heap[P] = .cells cs T (0, 0) := by simpa [Array.getElem?_eq_getElem hlt] using h
  show (w.heap.modify P _)[P]? = _
  rw [Array.getElem?_eq_getElem (by simpa using hlt), Array.getElem_modify_self, h']
  rfl
theorem Bk.ne {w : World} {P : Nat} {cs : Array Value} (h : Bk w P cs) : ¬ P = w.heap.size := by have := h.lt; omega
theorem Bk.ne' {w : World} {P : Nat} {cs : Array Value} (h : Bk w P cs) : ¬ w.heap.size = P := by have := h.lt; omega
theorem kw_al {N : Nat} {W X : World} (h : Below N W X) (hN : N ≤ W.heap.size) (o : Obj) : Below N W (X.alloc o) := h.alloc (Nat.le_trans hN h.size) o
theorem kw_le {N : Nat} {W X : World} (h : Below N W X) (hN : N ≤ W.heap.size) : N ≤ X.heap.size := Nat.le_trans hN h.size
theorem kw_s {N : Nat} {W X : World} (h : Below N W X) : ∀ b o, b < N → X.cell? ⟨b, o, none⟩ = W.cell? ⟨b, o, none⟩ := fun b o hb => h.cell (p := ⟨b, o, none⟩) hb
end Go.Proofs.Ytejilcnldllhpaa
/- What type a block is of: so two blocks are told apart. -/
namespace Go.Proofs.Ytejilcnldllhpaa
open Go.RowKit
/-- The block is one of cells of this type. -/
structure Ty (w : World) (P : Nat) (T : TypeId) : Prop where
  ex : ∃ cs fr, w.heap[P]? = some (.cells cs T fr)
theorem Ty.lt {w : World} {P : Nat} {T : TypeId} (h : Ty w P T) : P < w.heap.size := by
  obtain ⟨cs, fr, h⟩ := h.ex; exact lt_of_block h
theorem Ty.new (w : World) (cs : Array Value) (T : TypeId) : Ty (w.alloc (.cells cs T)) w.heap.size T := ⟨cs, _, heap_alloc_new w _⟩
theorem Ty.of_block {w w' : World} {P : Nat} {T : TypeId} (h : Ty w P T) (e : w'.heap[P]? = w.heap[P]?) : Ty w' P T := by
  obtain ⟨cs, fr, h⟩ := h.ex; exact ⟨cs, fr, by rw [e]; exact h⟩
theorem Ty.al {w : World} {P : Nat} {T : TypeId} (h : Ty w P T) (o : Obj) : Ty (w.alloc o) P T := h.of_block (Below.heap_alloc w o P h.lt)
theorem Ty.below {w w' : World} {P : Nat} {T : TypeId} (h : Ty w P T) (hb : Below w.heap.size w w') : Ty w' P T := h.of_block (hb.block P h.lt)
theorem Ty.set {w : World} {P : Nat} {T : TypeId} (h : Ty w P T) (p : Addr) (v : Value) : Ty (w.setCell p v) P T := by
  by_cases e : P = p.block
  · subst e
    have hlt := h.lt
    obtain ⟨cs, fr, h⟩ := h.ex
    have h' : w.heap[p.block] = .cells cs T fr := by simpa [Array.getElem?_eq_getElem hlt] using h
    refine ⟨(if p.spot.isSome then cs else cs.setIfInBounds p.off v), fr, ?_⟩
    show (w.heap.modify p.block _)[p.block]? = _
    rw [Array.getElem?_eq_getElem (by simpa using hlt), Array.getElem_modify_self, h']
  · exact h.of_block (Below.heap_setCell _ _ _ _ e)
theorem Ty.grown {w w' : World} {P : Nat} {T : TypeId} {row : Option Nat} (h : Ty w P T) (hg : w.grownBy w' row) (hne : row ≠ some P) : Ty w' P T := h.of_block (hg.block P h.lt (fun e => hne e.symm))
theorem Bk.grown {w w' : World} {P : Nat} {cs : Array Value} {row : Option Nat} (h : Bk w P cs) (hg : w.grownBy w' row) (hne : row ≠ some P) : Bk w' P cs := by
  have hlt := h.lt
  obtain ⟨T, h⟩ := h.bl; exact ⟨T, by rw [hg.block P hlt (fun e => hne e.symm)]; exact h⟩
/-- A row of the call's own lies in a block of its own type. -/
theorem row_ty_ne {w : World} {base size n P : Nat} {e T : TypeId} {v : Value} {xs : List Value} (h : w.ownsRow base e size v n xs) (ht : Ty w P T) (hT : T ≠ e) : v.ownBlock ≠ some P := by
  intro hb
  rcases h.2 with ⟨rfl, _⟩ | ⟨g, cap, cur, rfl, _, hh, _⟩
  · cases hb
  · simp [Value.ownBlock] at hb
    subst hb
    obtain ⟨cs, fr, h2⟩ := ht.ex
    rw [hh] at h2
    simp at h2
    exact hT h2.2.1.symm
end Go.Proofs.Ytejilcnldllhpaa
