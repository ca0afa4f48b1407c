/- A block that holds an array: what its cells are, whole. -/
import Derived.Test.YtjjodfdmbiebnaaDoorFr
import Derived.Test.YtjjodfdmbiebnaaDoorKw
import Derived.OwnWalk
namespace Go.Proofs.YtjjodfdmbiebnaaDoor
open Go.RowKit
set_option linter.unusedVariables false
/-- Block g is n cells of type T; cell k holds f k. -/
structure Arr (w : World) (g n : Nat) (T : TypeId) (f : Nat → Value) : Prop where
  ex : ∃ cur : Array Value, w.heap[g]? = some (.cells cur T (0, 0)) ∧ cur.size = n ∧ ∀ k, k < n → cur[k]? = some (f k)
theorem Arr.lt {w : World} {g n : Nat} {T : TypeId} {f : Nat → Value} (h : Arr w g n T f) : g < w.heap.size := by
  obtain ⟨cur, e, _⟩ := h.ex
  exact (Array.getElem?_eq_some_iff.1 e).1
theorem Arr.cell {w : World} {g n : Nat} {T : TypeId} {f : Nat → Value} (h : Arr w g n T f) {k : Nat} (hk : k < n) : w.cell? ⟨g, k, none⟩ = some (f k) := by
  obtain ⟨cur, e, hs, hc⟩ := h.ex
  simp [World.cell?, e, hc k hk]
theorem Arr.frozen {w : World} {g n : Nat} {T : TypeId} {f : Nat → Value} (h : Arr w g n T f) (k : Nat) : w.frozen? ⟨g, k, none⟩ = false := by
  obtain ⟨cur, e, hs, hc⟩ := h.ex
  simp [World.frozen?, e]
theorem Arr.of_block {w w' : World} {g n : Nat} {T : TypeId} {f : Nat → Value} (h : Arr w g n T f) (e : w'.heap[g]? = w.heap[g]?) : Arr w' g n T f := by
  obtain ⟨cur, e', hs, hc⟩ := h.ex
  exact ⟨cur, by rw [e]; exact e', hs, hc⟩
theorem Arr.below {w w' : World} {B g n : Nat} {T : TypeId} {f : Nat → Value} (h : Arr w g n T f) (k : Below B w w') (hg : g < B) : Arr w' g n T f := h.of_block (k.block g hg)
theorem Arr.later {w w' : World} {g n : Nat} {T : TypeId} {f : Nat → Value} (h : Arr w g n T f) (k : Below w.heap.size w w') : Arr w' g n T f := h.below k h.lt
theorem Arr.fr {M : Nat → Prop} {w w' : World} {g n : Nat} {T : TypeId} {f : Nat → Value} (h : Arr w g n T f) (k : Fr M w w') (hm : ¬ M g) : Arr w' g n T f := h.of_block (k.block g h.lt hm)
theorem Arr.drewN {w : World} {g n : Nat} {T : TypeId} {f : Nat → Value} (h : Arr w g n T f) (m : Nat) : Arr (w.drewN m) g n T f := h.of_block rfl
theorem Arr.drew {w : World} {g n : Nat} {T : TypeId} {f : Nat → Value} (h : Arr w g n T f) : Arr w.drew g n T f := h.of_block rfl
theorem Arr.alloc {w : World} {g n : Nat} {T : TypeId} {f : Nat → Value} (h : Arr w g n T f) (o : Obj) : Arr (w.alloc o) g n T f := h.later ((Below.refl _ _).alloc (Nat.le_refl _) o)
theorem Arr.congr {w : World} {g n : Nat} {T : TypeId} {f f' : Nat → Value} (h : Arr w g n T f) (e : ∀ k, k < n → f' k = f k) : Arr w g n T f' := by
  obtain ⟨cur, e', hs, hc⟩ := h.ex
  exact ⟨cur, e', hs, fun k hk => by rw [e k hk]; exact hc k hk⟩
theorem Arr.far {w : World} {g n : Nat} {T : TypeId} {f : Nat → Value} (h : Arr w g n T f) (p : Addr) (v : Value) (hp : g ≠ p.block) : Arr (w.setCell p v) g n T f :=
  h.of_block (Go.heap_setCell_other _ _ _ _ hp)
theorem Arr.set {w : World} {g n : Nat} {T : TypeId} {f : Nat → Value} (h : Arr w g n T f) {k : Nat} (hk : k < n) (v : Value) : Arr (w.setCell ⟨g, k, none⟩ v) g n T (fun j => if j = k then v else f j) := by
  obtain ⟨cur, e, hs, hc⟩ := h.ex
  have hg := (Array.getElem?_eq_some_iff.1 e).1
  refine ⟨cur.setIfInBounds k v, ?_, by simp [hs], fun j hj => ?_⟩
  · have hge : w.heap[g] = .cells cur T (0, 0) := by simpa [hg] using e
    simp [World.setCell, hg, Array.getElem_modify, hge]
  · by_cases ej : j = k
    · subst ej; simp [hs, hj]
    · rw [Array.getElem?_setIfInBounds_ne (Ne.symm ej), if_neg ej]; exact hc j hj
theorem Arr.new (w : World) (cs : Array Value) (T : TypeId) (f : Nat → Value) (n : Nat) (hs : cs.size = n) (h : ∀ k, k < n → cs[k]? = some (f k)) : Arr (w.alloc (.cells cs T)) w.heap.size n T f :=
  ⟨cs, Go.heap_alloc_new _ _, hs, h⟩
theorem Arr.rd {w : World} {g n B : Nat} {T : TypeId} {f : Nat → Value} (h : Arr w g n T f) (hg : g < B) : Rd w B (some ⟨g, 0, none⟩) n f :=
  fun _ => ⟨g, 0, rfl, hg, fun k hk => by rw [Nat.zero_add]; exact h.cell hk⟩
theorem Arr.own {w : World} {base g n : Nat} {T : TypeId} {xs : List Value} (h : w.ownsRow base T 1 (.slice (some ⟨g, 0, none⟩) n n) n xs) (f : Nat → Value) (e : ∀ k, k < n → xs[k]? = some (f k)) : Arr w g n T f := by
  rcases h.2 with ⟨hv, _⟩ | ⟨g', cap, cur, hv, hb, hg, h1, h2, h3, h4⟩
  · simp at hv
  · simp at hv
    obtain ⟨rfl, rfl⟩ := hv
    refine ⟨cur, hg, by omega, fun k hk => ?_⟩
    have := e k hk
    rw [← h4, List.getElem?_take, if_pos (by omega)] at this
    simpa using this
theorem made_at (z : Value) (n k : Nat) (hk : k < n) : ((madeCells #[z] (n * 1)).toList)[k]? = some z := by
  unfold madeCells
  simp [hk]
  rw [Nat.mod_one]; rfl
theorem Arr.made {w : World} {base g n : Nat} {T : TypeId} {z : Value} (h : w.ownsRow base T 1 (.slice (some ⟨g, 0, none⟩) n n) n (madeCells z.cells (n * 1)).toList) (hz : z.cells = #[z]) : Arr w g n T (fun _ => z) :=
  Arr.own h _ fun k hk => by rw [hz]; exact made_at z n k hk
theorem below_grown {w w' : World} (h : w.grownBy w' none) : Below w.heap.size w w' := (Below.refl _ _).grown h (Nat.le_refl _) (fun _ h => by cases h)
end Go.Proofs.YtjjodfdmbiebnaaDoor
