/- Layer 3: an array of sums that a statement fills. -/
import Derived.Test.YtmkehmeoglpkeaaFnvb
namespace Go.Proofs.Ytmkehmeoglpkeaa
open Go.RowKit
set_option linter.unusedVariables false
/-- Block G holds m cells, the first j of which are these numbers. -/
def Arr (w : World) (G : Nat) (t : TypeId) (m j : Nat) (k : IntKind) (f : Nat → Int) : Prop := ∃ cs : Array Value, w.heap[G]? = some (.cells cs t (0, 0)) ∧ cs.size = m ∧ ∀ i, i < j → cs[i]? = some (.int k (f i))
section
variable {w w' : World} {G m j : Nat} {t : TypeId} {k : IntKind} {f : Nat → Int}
theorem Arr.lt (h : Arr w G t m j k f) : G < w.heap.size := by obtain ⟨cs, h1, _⟩ := h; exact lt_of_block h1
theorem Arr.cell (h : Arr w G t m j k f) {i : Nat} (hi : i < j) : w.cell? ⟨G, i, none⟩ = some (.int k (f i)) := by
  obtain ⟨cs, h1, _, h3⟩ := h
  rw [cell_of_row w G i cs t (0, 0) h1]; exact h3 i hi
theorem Arr.ex (h : Arr w G t m j k f) {i : Nat} (hi : i < m) : ∃ v, w.cell? ⟨G, i, none⟩ = some v := by
  obtain ⟨cs, h1, h2, _⟩ := h
  rw [cell_of_row w G i cs t (0, 0) h1]; exact ⟨_, Array.getElem?_eq_getElem (by omega)⟩
theorem Arr.free (h : Arr w G t m j k f) (i : Nat) : w.frozen? ⟨G, i, none⟩ = false := by
  obtain ⟨cs, h1, _⟩ := h; simp [World.frozen?, h1]
theorem Arr.below {B : Nat} (h : Arr w G t m j k f) (hb : Below B w w') (hG : G < B) : Arr w' G t m j k f := by
  obtain ⟨cs, h1, h2⟩ := h; exact ⟨cs, (hb.block G hG).trans h1, h2⟩
theorem Arr.drewN (h : Arr w G t m j k f) (q : Nat) : Arr (w.drewN q) G t m j k f := h
theorem Arr.set_ (h : Arr w G t m j k f) (hj : j < m) : Arr (w.setCell ⟨G, j, none⟩ (.int k (f j))) G t m (j + 1) k f := by
  obtain ⟨cs, h1, h2, h3⟩ := h
  refine ⟨cs.setIfInBounds j (.int k (f j)), by simp [World.setCell, Array.getElem?_modify, h1], by simpa using h2, fun i hi => ?_⟩
  by_cases e : i = j
  · subst e; simp [h2, hj]
  · rw [Array.getElem?_setIfInBounds_ne (fun h => e h.symm)]; exact h3 i (by omega)
theorem Arr.new (w : World) (cs : Array Value) (t : TypeId) (m : Nat) (k : IntKind) (f : Nat → Int) (h : cs.size = m) : Arr (w.alloc (.cells cs t)) w.heap.size t m 0 k f := ⟨cs, heap_alloc_new w _, h, fun i hi => absurd hi (by omega)⟩
end
theorem By.lit1 (w : World) (x : Int) (t : TypeId) (fr : Nat × Nat) (hx : Fn.Byt x) : By (w.alloc (.cells #[.int .u8 x] t fr)) (w.alloc (.cells #[.int .u8 x] t fr)).heap.size (some ⟨w.heap.size, 0, none⟩) 1 [x] :=
  By.lit w [x] t fr _ 1 rfl (by intro b hb; simp at hb; subst hb; exact hx) (by simp)
theorem By.lit2 (w : World) (x y : Int) (t : TypeId) (fr : Nat × Nat) (hx : Fn.Byt x) (hy : Fn.Byt y) : By (w.alloc (.cells #[.int .u8 x, .int .u8 y] t fr)) (w.alloc (.cells #[.int .u8 x, .int .u8 y] t fr)).heap.size (some ⟨w.heap.size, 0, none⟩) 2 [x, y] :=
  By.lit w [x, y] t fr _ 2 rfl (by intro b hb; simp at hb; rcases hb with rfl | rfl; exact hx; exact hy) (by simp)
theorem By.at1 (w : World) (x : Int) (t : TypeId) (fr : Nat × Nat) (H : Nat) (hH : H = w.heap.size) (hx : Fn.Byt x) : By (w.alloc (.cells #[.int .u8 x] t fr)) (w.alloc (.cells #[.int .u8 x] t fr)).heap.size (some ⟨H, 0, none⟩) 1 [x] := by
  subst hH; exact By.lit1 w x t fr hx
theorem By.at2 (w : World) (x y : Int) (t : TypeId) (fr : Nat × Nat) (H : Nat) (hH : H = w.heap.size) (hx : Fn.Byt x) (hy : Fn.Byt y) : By (w.alloc (.cells #[.int .u8 x, .int .u8 y] t fr)) (w.alloc (.cells #[.int .u8 x, .int .u8 y] t fr)).heap.size (some ⟨H, 0, none⟩) 2 [x, y] := by
  subst hH; exact By.lit2 w x y t fr hx hy
theorem start_as (r : Int) (w : World) (h : Hk (r = 14695981039346656037)) : Calls Try.prog 45 #[] w fun e w' => e = .returned (.int .u64 r) ∧ w = w' := by
  rw [h.out]; exact start_any w
theorem ones : Fn.sumS 14695981039346656037 [0] ≠ 14695981039346656037 ∧ Fn.sumS 14695981039346656037 [0, 0] ≠ Fn.sumS 14695981039346656037 [0] ∧ Fn.sumS 14695981039346656037 [1, 2] ≠ Fn.sumS 14695981039346656037 [2, 1] := by decide +kernel
theorem ones_ex : ∃ ST A1 A2 A3 A4 : Int, Hk (ST = 14695981039346656037) ∧ Hk (Fn.sumS ST [0] = A1) ∧ Hk (Fn.sumS ST [0, 0] = A2) ∧ Hk (Fn.sumS ST [1, 2] = A3) ∧ Hk (Fn.sumS ST [2, 1] = A4) ∧ (A1 == ST) = false ∧ (A2 == A1) = false ∧ (A3 == A4) = false :=
  ⟨14695981039346656037, _, _, _, _, ⟨rfl⟩, ⟨rfl⟩, ⟨rfl⟩, ⟨rfl⟩, ⟨rfl⟩, beq_eq_false_iff_ne.2 ones.1, beq_eq_false_iff_ne.2 ones.2.1, beq_eq_false_iff_ne.2 ones.2.2⟩
theorem sum_asE (s : Int) (a : Option Addr) (n c : Nat) (xs : List Int) (r : Int) (w : World) (h : By w w.heap.size a n xs) (hn : n ≤ 1099511627776) (hr : Hk (Fn.sumS s xs = r)) :
    Calls Try.prog 46 #[.int .u64 s, .slice a n c] w fun e w' => e = .returned (.int .u64 r) ∧ w = w' := by
  rw [← hr.out]; exact sum_any s a n c xs w h hn
end Go.Proofs.Ytmkehmeoglpkeaa
