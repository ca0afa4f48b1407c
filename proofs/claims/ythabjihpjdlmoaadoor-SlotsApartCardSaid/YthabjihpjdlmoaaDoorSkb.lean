import Derived.OwnWalk
import Derived.Test.YthabjihpjdlmoaaDoorSka
import Derived.ProofKit
import Derived.OpenShut
import Derived.ShutString
import Derived.ChangeOld
import Derived.Below
import Derived.Deep.Slices
import Derived.Deep.Fields
import Derived.ChangeSame
import Derived.Test.YthabjihpjdlmoaaDoorRows
import Derived.Test.YthabjihpjdlmoaaDoorChecked
import Derived.Deep.QuietTactic
import Derived.BigQuiet
import Derived.Deep.RegionWith
import Derived.Deep.RegionHeld3
import Derived.Deep.DeepCutAuto
import Derived.Deep.DeepFit
import Derived.Outline
import Derived.IntWalk
/- A block that holds an array: what its cells are, whole. -/
namespace Go.Proofs.YthabjihpjdlmoaaDoor
open Go.RowKit
set_option linter.unusedVariables false
/-- Block g is n cells of type T; cell k holds f k. -/
structure Arr (w : World) (g n : Nat) (T : TypeId) (f : Nat → Value) : Prop where
  ex : ∃ cur : Array Value, w.heap[g]? = some (.cells cur T (0, 0)) ∧ cur.size = n ∧ ∀ k, k < n → cur[k]? = some (f k)
theorem Arr.lt {w : World} {g n : Nat} {T : TypeId} {f : Nat → Value} (h : Arr w g n T f) : g < w.heap.size := by
  obtain ⟨cur, e, _⟩ := h.ex
  exact (Array.getElem?_eq_some_iff.1 e).1
theorem Arr.cell {w : World} {g n : Nat} {T : TypeId} {f : Nat → Value} (h : Arr w g n T f) {k : Nat} (hk : k < n) : w.cell? ⟨g, k, none⟩ = some (f k) := by
  obtain ⟨cur, e, hs, hc⟩ := h.ex
  simp [World.cell?, e, hc k hk]
theorem Arr.frozen {w : World} {g n : Nat} {T : TypeId} {f : Nat → Value} (h : Arr w g n T f) (k : Nat) : w.frozen? ⟨g, k, none⟩ = false := by
  obtain ⟨cur, e, hs, hc⟩ := h.ex
  simp [World.frozen?, e]
theorem Arr.of_block {w w' : World} {g n : Nat} {T : TypeId} {f : Nat → Value} (h : Arr w g n T f) (e : w'.heap[g]? = w.heap[g]?) : Arr w' g n T f := by
  obtain ⟨cur, e', hs, hc⟩ := h.ex
  exact ⟨cur, by rw [e]; exact e', hs, hc⟩
theorem Arr.below {w w' : World} {B g n : Nat} {T : TypeId} {f : Nat → Value} (h : Arr w g n T f) (k : Below B w w') (hg : g < B) : Arr w' g n T f := h.of_block (k.block g hg)
theorem Arr.later {w w' : World} {g n : Nat} {T : TypeId} {f : Nat → Value} (h : Arr w g n T f) (k : Below w.heap.size w w') : Arr w' g n T f := h.below k h.lt
theorem Arr.fr {M : Nat → Prop} {w w' : World} {g n : Nat} {T : TypeId} {f : Nat → Value} (h : Arr w g n T f) (k : Fr M w w') (hm : ¬ M g) : Arr w' g n T f := h.of_block (k.block g h.lt hm)
theorem Arr.drewN {w : World} {g n : Nat} {T : TypeId} {f : Nat → Value} (h : Arr w g n T f) (m : Nat) : Arr (w.drewN m) g n T f := h.of_block rfl
theorem Arr.drew {w : World} {g n : Nat} {T : TypeId} {f : Nat → Value} (h : Arr w g n T f) : Arr w.drew g n T f := h.of_block rfl
theorem Arr.alloc {w : World} {g n : Nat} {T : TypeId} {f : Nat → Value} (h : Arr w g n T f) (o : Obj) : Arr (w.alloc o) g n T f := h.later ((Below.refl _ _).alloc (Nat.le_refl _) o)
theorem Arr.congr {w : World} {g n : Nat} {T : TypeId} {f f' : Nat → Value} (h : Arr w g n T f) (e : ∀ k, k < n → f' k = f k) : Arr w g n T f' := by
  obtain ⟨cur, e', hs, hc⟩ := h.ex
  exact ⟨cur, e', hs, fun k hk => by rw [e k hk]; exact hc k hk⟩
theorem Arr.far {w : World} {g n : Nat} {T : TypeId} {f : Nat → Value} (h : Arr w g n T f) (p : Addr) (v : Value) (hp : g ≠ p.block) : Arr (w.setCell p v) g n T f :=
  h.of_block (Go.heap_setCell_other _ _ _ _ hp)
theorem Arr.set {w : World} {g n : Nat} {T : TypeId} {f : Nat → Value} (h : Arr w g n T f) {k : Nat} (hk : k < n) (v : Value) : Arr (w.setCell ⟨g, k, none⟩ v) g n T (fun j => if j = k then v else f j) := by
  obtain ⟨cur, e, hs, hc⟩ := h.ex
  have hg := (Array.getElem?_eq_some_iff.1 e).1
  refine ⟨cur.setIfInBounds k v, ?_, by simp [hs], fun j hj => ?_⟩
  · have hge : w.heap[g] = .cells cur T (0, 0) := by simpa [hg] using e
    simp [World.setCell, hg, Array.getElem_modify, hge]
  · by_cases ej : j = k
    · subst ej; simp [hs, hj]
    · rw [Array.getElem?_setIfInBounds_ne (Ne.symm ej), if_neg ej]; exact hc j hj
theorem Arr.new (w : World) (cs : Array Value) (T : TypeId) (f : Nat → Value) (n : Nat) (hs : cs.size = n) (h : ∀ k, k < n → cs[k]? = some (f k)) : Arr (w.alloc (.cells cs T)) w.heap.size n T f :=
  ⟨cs, Go.heap_alloc_new _ _, hs, h⟩
theorem Arr.rd {w : World} {g n B : Nat} {T : TypeId} {f : Nat → Value} (h : Arr w g n T f) (hg : g < B) : Rd w B (some ⟨g, 0, none⟩) n f :=
  fun _ => ⟨g, 0, rfl, hg, fun k hk => by rw [Nat.zero_add]; exact h.cell hk⟩
theorem Arr.own {w : World} {base g n : Nat} {T : TypeId} {xs : List Value} (h : w.ownsRow base T 1 (.slice (some ⟨g, 0, none⟩) n n) n xs) (f : Nat → Value) (e : ∀ k, k < n → xs[k]? = some (f k)) : Arr w g n T f := by
  rcases h.2 with ⟨hv, _⟩ | ⟨g', cap, cur, hv, hb, hg, h1, h2, h3, h4⟩
  · simp at hv
  · simp at hv
    obtain ⟨rfl, rfl⟩ := hv
    refine ⟨cur, hg, by omega, fun k hk => ?_⟩
    have := e k hk
    rw [← h4, List.getElem?_take, if_pos (by omega)] at this
    simpa using this
theorem made_at (z : Value) (n k : Nat) (hk : k < n) : ((madeCells #[z] (n * 1)).toList)[k]? = some z := by
  unfold madeCells
  simp [hk]
  rw [Nat.mod_one]; rfl
theorem Arr.made {w : World} {base g n : Nat} {T : TypeId} {z : Value} (h : w.ownsRow base T 1 (.slice (some ⟨g, 0, none⟩) n n) n (madeCells z.cells (n * 1)).toList) (hz : z.cells = #[z]) : Arr w g n T (fun _ => z) :=
  Arr.own h _ fun k hk => by rw [hz]; exact made_at z n k hk
theorem below_grown {w w' : World} (h : w.grownBy w' none) : Below w.heap.size w w' := (Below.refl _ _).grown h (Nat.le_refl _) (fun _ h => by cases h)
end Go.Proofs.YthabjihpjdlmoaaDoor
/- Arguments that hold slices of bytes: what is known of them. -/
namespace Go.Proofs.YthabjihpjdlmoaaDoor
open Go.ChangeShapes Go.WideShapes Go.ChangeAt Go.RowKit Go.Deep
set_option linter.unusedVariables false
theorem add_plus {b off : Nat} (j : Nat) : (⟨b, off, none⟩ : Addr).add j = ⟨b, off + j, none⟩ := by
  unfold Addr.add; split <;> simp_all
theorem by_of {H : Type} {enc : TypeId × Value → H} {w : World} {base : Nat} {spare : Nat → Bool} {held : Bool} {fuel : Nat} {x : DataW H × List MemPlace} {v : Value}
    (hf : DataW.trod enc Tryd.prog w base spare held fuel 22 [v] = some x) : ∃ a n c xs, v = .slice a n c ∧ n ≤ c ∧ c ≤ 9223372036854775807 ∧ By w w.heap.size a n xs := by
  rcases open_ints Tryd.underlying22 Tryd.underlying5 (by kernel_rfl) hf with ⟨hcs, _⟩ | ⟨a, l, c, zs, hcs, _, hl, hm, hz, _, hc, hwf⟩
  · simp at hcs; subst hcs
    exact ⟨none, 0, 0, [], rfl, by omega, by omega, By.nil _ _ _⟩
  · simp at hcs; subst hcs
    have hzl : l ≤ zs.length := by rw [hz]; split <;> omega
    refine ⟨_, _, _, zs.take l, rfl, hl, hm, by simp; omega, fun b hb => ?_, fun hn => ?_⟩
    · have := bounds_u8 (hwf b (List.mem_of_mem_take hb)); exact this
    · obtain ⟨b, off, spot⟩ := a
      have hs : spot = none := by
        have h0 := World.cell?_spot (hc 0 (by omega))
        simpa [Addr.add] using h0
      subst hs
      refine ⟨b, off, rfl, ?_, fun k hk => ?_⟩
      · have := hc 0 (by omega); rw [add_plus] at this; exact World.block_lt_of_cell? _ _ this
      · have := hc k (by omega)
        rw [add_plus] at this
        rw [this]
        simp [List.getD, hk]
end Go.Proofs.YthabjihpjdlmoaaDoor
/- Slices of numbers: what is known of them. -/
namespace Go.Proofs.YthabjihpjdlmoaaDoor
open Go.ChangeShapes Go.WideShapes Go.ChangeAt Go.RowKit Go.Deep
set_option linter.unusedVariables false
/-- The slice reads as these numbers. -/
structure Nq (w : World) (B : Nat) (a : Option Addr) (n : Nat) (xs : List Int) : Prop where
  len : xs.length = n
  rd : 0 < n → ∃ b off, a = some ⟨b, off, none⟩ ∧ b < B ∧ ∀ k, k < n → w.cell? ⟨b, off + k, none⟩ = some (.int .i64 (xs.getD k 0))
theorem Nq.below {w w' : World} {B B' n : Nat} {a : Option Addr} {xs : List Int} (h : Nq w B a n xs) (hb : Below B' w w') (hB : B ≤ B') : Nq w' B a n xs := ⟨h.len, fun hn => by
  obtain ⟨b, off, e, hlt, hc⟩ := h.rd hn
  exact ⟨b, off, e, hlt, fun k hk => (hb.cell (p := ⟨b, off + k, none⟩) (Nat.lt_of_lt_of_le hlt hB)).trans (hc k hk)⟩⟩
theorem Nq.mono {w : World} {B B' n : Nat} {a : Option Addr} {xs : List Int} (h : Nq w B a n xs) (hB : B ≤ B') : Nq w B' a n xs := ⟨h.len, fun hn => by
  obtain ⟨b, off, e, hlt, hc⟩ := h.rd hn
  exact ⟨b, off, e, by omega, hc⟩⟩
theorem Nq.drewN {w : World} {B n : Nat} {a : Option Addr} {xs : List Int} (h : Nq w B a n xs) (m : Nat) : Nq (w.drewN m) B a n xs := ⟨h.len, h.rd⟩
theorem Nq.nil (w : World) (B : Nat) (a : Option Addr) : Nq w B a 0 [] := ⟨rfl, fun h => absurd h (by omega)⟩
theorem aq_plus {b off : Nat} (j : Nat) : (⟨b, off, none⟩ : Addr).add j = ⟨b, off + j, none⟩ := by
  unfold Addr.add; split <;> simp_all
theorem nq_of {H : Type} {enc : TypeId × Value → H} {w : World} {base : Nat} {spare : Nat → Bool} {held : Bool} {fuel : Nat} {x : DataW H × List MemPlace} {v : Value}
    (hf : DataW.trod enc Tryd.prog w base spare held fuel 26 [v] = some x) : ∃ a0 len0 cap0 xs, v = .slice a0 len0 cap0 ∧ len0 ≤ 9223372036854775807 ∧ Nq w w.heap.size a0 len0 xs := by
  rcases open_ints Tryd.underlying26 Tryd.underlying3 (by kernel_rfl) hf with ⟨hcs, _⟩ | ⟨a, l, c, zs, hcs, _, hl, hm, hz, _, hc, hwf⟩
  · simp at hcs; subst hcs
    exact ⟨none, 0, 0, [], rfl, by omega, rfl, fun h => absurd h (by omega)⟩
  · simp at hcs; subst hcs
    have hzl : l ≤ zs.length := by rw [hz]; split <;> omega
    refine ⟨_, _, _, zs.take l, rfl, by unfold maxLen at hm; omega, by simp; omega, fun hn => ?_⟩
    obtain ⟨b, off, spot⟩ := a
    have hs : spot = none := by
      have h0 := World.cell?_spot (hc 0 (by omega))
      simpa [Addr.add] using h0
    subst hs
    refine ⟨b, off, rfl, ?_, fun k hk => ?_⟩
    · have := hc 0 (by omega); rw [aq_plus] at this; exact World.block_lt_of_cell? _ _ this
    · have := hc k (by omega)
      rw [aq_plus] at this
      rw [this]
      simp [List.getD, hk]
end Go.Proofs.YthabjihpjdlmoaaDoor
/- Layer 13: two lists of one's own that grow side by side: rows of numbers, their goals. -/
namespace Go.Proofs.YthabjihpjdlmoaaDoor
open Go.ChangeShapes Go.WideShapes Go.ChangeAt Go.RowKit Go.Deep
set_option linter.unusedVariables false
set_option linter.unusedSimpArgs false
def lFq (J : Nat → Nat) (n m : Nat) : List Value := (List.range m).map fun j => .slice (some ⟨J j, 0, none⟩) n n
def lTq (G : Nat → Nat) (m : Nat) : List Value := (List.range m).map fun j => .int .i64 (G j)
def setF {α : Type} (F : Nat → α) (k : Nat) (x : α) (j : Nat) : α := if j = k then x else F j
theorem setF_at {α : Type} (F : Nat → α) (k : Nat) (x : α) : setF F k x k = x := if_pos rfl
theorem setF_far {α : Type} {F : Nat → α} {k j : Nat} {x : α} (h : j ≠ k) : setF F k x j = F j := if_neg h
theorem lFq_set (J : Nat → Nat) (n m x : Nat) : lFq (setF J m x) n (m + 1) = lFq J n m ++ [.slice (some ⟨x, 0, none⟩) n n] := by
  unfold lFq
  rw [List.range_succ, List.map_append]
  congr 1
  · exact List.map_congr_left fun j hj => by rw [setF_far (by have := List.mem_range.1 hj; omega)]
  · simp [setF_at]
theorem lTq_set (G : Nat → Nat) (m x : Nat) : lTq (setF G m x) (m + 1) = lTq G m ++ [.int .i64 x] := by
  unfold lTq
  rw [List.range_succ, List.map_append]
  congr 1
  · exact List.map_congr_left fun j hj => by rw [setF_far (by have := List.mem_range.1 hj; omega)]
  · simp [setF_at]
/-- m rows of n numbers, and k goals. -/
structure Fq (w : World) (S n : Nat) (v v' : Value) (m k : Nat) (G J : Nat → Nat) (D : Nat → Nat → Int) : Prop where
  rf : w.ownsRow S 26 1 v m (lFq J n m)
  rt : w.ownsRow S 3 1 v' k (lTq G k)
  ap : v.ownBlock = none ∨ v'.ownBlock = none ∨ v.ownBlock ≠ v'.ownBlock
  ar : ∀ j, j < m → v.ownBlock ≠ some (J j) ∧ v'.ownBlock ≠ some (J j) ∧ Arr w (J j) n 3 (fun t => .int .i64 (D j t))
theorem Fq.nil (w : World) (S n : Nat) (G J : Nat → Nat) (D : Nat → Nat → Int) : Fq w S n (.slice none 0 0) (.slice none 0 0) 0 0 G J D :=
  ⟨⟨rfl, Or.inl ⟨rfl, rfl⟩⟩, ⟨rfl, Or.inl ⟨rfl, rfl⟩⟩, Or.inl rfl, fun j hj => absurd hj (by omega)⟩
theorem Fq.drew {w : World} {S n m k : Nat} {v v' : Value} {G J : Nat → Nat} {D : Nat → Nat → Int} (h : Fq w S n v v' m k G J D) : Fq w.drew S n v v' m k G J D := ⟨h.rf, h.rt, h.ap, fun j hj => ⟨(h.ar j hj).1, (h.ar j hj).2.1, (h.ar j hj).2.2.drew⟩⟩
theorem Fq.drewN {w : World} {S n m k : Nat} {v v' : Value} {G J : Nat → Nat} {D : Nat → Nat → Int} (h : Fq w S n v v' m k G J D) (q : Nat) : Fq (w.drewN q) S n v v' m k G J D := ⟨h.rf, h.rt, h.ap, fun j hj => ⟨(h.ar j hj).1, (h.ar j hj).2.1, (h.ar j hj).2.2.drewN q⟩⟩
theorem Fq.later {w w' : World} {S n m k : Nat} {v v' : Value} {G J : Nat → Nat} {D : Nat → Nat → Int} (h : Fq w S n v v' m k G J D) (hb : Below w.heap.size w w') : Fq w' S n v v' m k G J D :=
  ⟨(Fr.of_below hb).row h.rf (fun j hj hm => by have := (h.rf.lt j hj).2; omega), (Fr.of_below hb).row h.rt (fun j hj hm => by have := (h.rt.lt j hj).2; omega), h.ap, fun j hj => ⟨(h.ar j hj).1, (h.ar j hj).2.1, (h.ar j hj).2.2.later hb⟩⟩
theorem arr_grown {w w' : World} {g n : Nat} {T : TypeId} {f : Nat → Value} {row : Option Nat} (h : Arr w g n T f) (k : w.grownBy w' row) (hg : row ≠ some g) : Arr w' g n T f :=
  h.of_block (k.block g h.lt (fun e => hg e.symm))
theorem ne_fresh {u : Option Nat} {B I : Nat} (h : u = some B) (hB : I < B) : u ≠ some I := by
  rw [h]
  intro e
  injection e with e
  omega
/-- A row more. -/
theorem Fq.step1 {w z : World} {S n m k I : Nat} {v v' u : Value} {G J : Nat → Nat} {D : Nat → Nat → Int} {E : Nat → Int} (h : Fq w S n v v' m k G J D) (hI : Arr w I n 3 (fun t => .int .i64 (E t))) (h1 : v.ownBlock ≠ some I) (h2 : v'.ownBlock ≠ some I)
    (hown : z.ownsRow S 26 1 u (m + 1) (lFq J n m ++ [.slice (some ⟨I, 0, none⟩) n n])) (hg : w.grownBy z v.ownBlock) (hat : u.ownBlock = v.ownBlock ∨ u.ownBlock = some w.heap.size) : Fq z S n u v' (m + 1) k G (setF J m I) (setF D m E) := by
  refine ⟨by rw [lFq_set]; exact hown, h.rt.kept hg ?_, ?_, fun j hj => ?_⟩
  · rcases h.ap with e | e | e
    · by_cases c : v'.ownBlock = none
      · exact Or.inl c
      · right; rw [e]; exact c
    · exact Or.inl e
    · exact Or.inr fun e' => e e'.symm
  · rcases hat with e | e
    · rw [e]; exact h.ap
    · right
      by_cases c : v'.ownBlock = none
      · exact Or.inl c
      right
      rw [e]
      intro e'
      have := (h.rt.lt _ e'.symm).2
      omega
  · by_cases e : j = m
    · subst e
      rw [setF_at, setF_at]
      refine ⟨?_, h2, arr_grown hI hg h1⟩
      rcases hat with e | e
      · rw [e]; exact h1
      · exact ne_fresh e hI.lt
    · rw [setF_far e, setF_far e]
      obtain ⟨a1, a2, a3⟩ := h.ar j (by omega)
      refine ⟨?_, a2, arr_grown a3 hg a1⟩
      rcases hat with e | e
      · rw [e]; exact a1
      · exact ne_fresh e a3.lt
/-- A goal more. -/
theorem Fq.step2 {w z : World} {S n m k g : Nat} {v v' u : Value} {G J : Nat → Nat} {D : Nat → Nat → Int} (h : Fq w S n v v' m k G J D)
    (hown : z.ownsRow S 3 1 u (k + 1) (lTq G k ++ [.int .i64 g])) (hg : w.grownBy z v'.ownBlock) (hat : u.ownBlock = v'.ownBlock ∨ u.ownBlock = some w.heap.size) : Fq z S n v u m (k + 1) (setF G k g) J D := by
  refine ⟨h.rf.kept hg ?_, by rw [lTq_set]; exact hown, ?_, fun j hj => ?_⟩
  · rcases h.ap with e | e | e
    · exact Or.inl e
    · by_cases c : v.ownBlock = none
      · exact Or.inl c
      · right; rw [e]; exact c
    · exact Or.inr e
  · rcases hat with e | e
    · rw [e]; exact h.ap
    · by_cases c : v.ownBlock = none
      · exact Or.inl c
      right
      right
      rw [e]
      intro e'
      have := (h.rf.lt _ e').2
      omega
  · obtain ⟨a1, a2, a3⟩ := h.ar j hj
    refine ⟨a1, ?_, arr_grown a3 hg a2⟩
    rcases hat with e | e
    · rw [e]; exact a2
    · exact ne_fresh e a3.lt
/-- A row waits to be put in. -/
structure FqI (w : World) (S n : Nat) (v v' : Value) (m k : Nat) (G J : Nat → Nat) (D : Nat → Nat → Int) (I : Nat) (E : Nat → Int) : Prop extends Fq w S n v v' m k G J D where
  ai : Arr w I n 3 (fun t => .int .i64 (E t))
  n1 : v.ownBlock ≠ some I
  n2 : v'.ownBlock ≠ some I
section
variable {w w' z : World} {S n m k I g : Nat} {v v' u : Value} {G J : Nat → Nat} {D : Nat → Nat → Int} {E : Nat → Int}
theorem FqI.later (h : FqI w S n v v' m k G J D I E) (hb : Below w.heap.size w w') : FqI w' S n v v' m k G J D I E := ⟨h.toFq.later hb, h.ai.later hb, h.n1, h.n2⟩
theorem FqI.of (h : Fq w S n v v' m k G J D) (hb : Below w.heap.size w w') (hI : w.heap.size ≤ I) (ha : Arr w' I n 3 (fun t => .int .i64 (E t))) : FqI w' S n v v' m k G J D I E :=
  ⟨h.later hb, ha, fun e => by have := (h.rf.lt _ e).2; omega, fun e => by have := (h.rt.lt _ e).2; omega⟩
theorem FqI.step1 (h : FqI w S n v v' m k G J D I E) (hown : z.ownsRow S 26 1 u (m + 1) (lFq J n m ++ [.slice (some ⟨I, 0, none⟩) n n])) (hg : w.grownBy z v.ownBlock) (hat : u.ownBlock = v.ownBlock ∨ u.ownBlock = some w.heap.size) : Fq z S n u v' (m + 1) k G (setF J m I) (setF D m E) :=
  h.toFq.step1 h.ai h.n1 h.n2 hown hg hat
theorem FqI.step2 (h : FqI w S n v v' m k G J D I E) (hown : z.ownsRow S 3 1 u (k + 1) (lTq G k ++ [.int .i64 g])) (hg : w.grownBy z v'.ownBlock) (hat : u.ownBlock = v'.ownBlock ∨ u.ownBlock = some w.heap.size) : FqI z S n v u m (k + 1) (setF G k g) J D I E := by
  refine ⟨h.toFq.step2 hown hg hat, arr_grown h.ai hg h.n2, h.n1, ?_⟩
  rcases hat with e | e
  · rw [e]; exact h.n2
  · exact ne_fresh e h.ai.lt
end
theorem Fq.form {w : World} {S n m : Nat} {v v' : Value} {G J : Nat → Nat} {D : Nat → Nat → Int} (h : Fq w S n v v' m m G J D) : ∃ a c a' c', v = .slice a m c ∧ v' = .slice a' m c' ∧ (0 < m → ∃ g g', a = some ⟨g, 0, none⟩ ∧ a' = some ⟨g', 0, none⟩) := by
  rcases h.rf.2 with ⟨e, h0⟩ | ⟨g, cap, cur, e, _⟩
  · rcases h.rt.2 with ⟨e', _⟩ | ⟨g', cap', cur', e', _⟩
    · subst h0; exact ⟨_, _, _, _, e, e', fun h => absurd h (by omega)⟩
    · subst h0; exact ⟨_, _, _, _, e, e', fun h => absurd h (by omega)⟩
  · rcases h.rt.2 with ⟨e', h0⟩ | ⟨g', cap', cur', e', _⟩
    · subst h0; exact ⟨_, _, _, _, e, e', fun h => absurd h (by omega)⟩
    · exact ⟨_, _, _, _, e, e', fun h => ⟨g, g', rfl, rfl⟩⟩
theorem Fq.c1 {w : World} {S n m g c j : Nat} {v' : Value} {G J : Nat → Nat} {D : Nat → Nat → Int} (h : Fq w S n (.slice (some ⟨g, 0, none⟩) m c) v' m m G J D) (hj : j < m) : w.cell? ⟨g, j, none⟩ = some (.slice (some ⟨J j, 0, none⟩) n n) := by
  rw [h.rf.cellAt j (by omega)]
  simp [lFq, hj]
theorem Fq.c2 {w : World} {S n m g c j : Nat} {v : Value} {G J : Nat → Nat} {D : Nat → Nat → Int} (h : Fq w S n v (.slice (some ⟨g, 0, none⟩) m c) m m G J D) (hj : j < m) : w.cell? ⟨g, j, none⟩ = some (.int .i64 (G j)) := by
  rw [h.rt.cellAt j (by omega)]
  simp [lTq, hj]
theorem Fq.c3 {w : World} {S n m j t : Nat} {v v' : Value} {G J : Nat → Nat} {D : Nat → Nat → Int} (h : Fq w S n v v' m m G J D) (hj : j < m) (ht : t < n) : w.cell? ⟨J j, t, none⟩ = some (.int .i64 (D j t)) := (h.ar j hj).2.2.cell ht
theorem one_sl (a : Option Addr) (n c : Nat) : ∀ u ∈ ([.slice a n c] : List Value), u.oneCell' = true := fun u hu => by simp at hu; subst hu; rfl
theorem one_it (x : Int) : ∀ u ∈ ([.int .i64 x] : List Value), u.oneCell' = true := fun u hu => by simp at hu; subst hu; rfl
theorem info_sl : (Tryd.prog.info? 26).map (fun i => (i.zero, i.size, i.bytes)) = some (some (.slice none 0 0), 1, 24) := by kernel_rfl
end Go.Proofs.YthabjihpjdlmoaaDoor
/- Plain words of layer 6: grounds. -/
namespace Go.Proofs.YthabjihpjdlmoaaDoor
/-- May this be a ground? -/
def gB (W H : Int) (n : Nat) (xs : List Int) : Bool := decide (1 ≤ W ∧ W ≤ 128 ∧ 1 ≤ H ∧ H ≤ 128 ∧ (n : Int) = W * H ∧ ∀ x ∈ xs, x ≤ 5)
def gE (W H : Int) (n : Nat) (xs : List Int) : Int := if gB W H n xs = true then 0 else 1
structure GOk (W H : Int) (n : Nat) (xs : List Int) : Prop where
  w1 : 1 ≤ W
  w2 : W ≤ 128
  h1 : 1 ≤ H
  h2 : H ≤ 128
  nn : (n : Int) = W * H
  ts : ∀ x ∈ xs, x ≤ 5
theorem gB_iff {W H : Int} {n : Nat} {xs : List Int} : gB W H n xs = true ↔ GOk W H n xs := by
  unfold gB
  rw [decide_eq_true_iff]
  exact ⟨fun ⟨a, b, c, d, e, f⟩ => ⟨a, b, c, d, e, f⟩, fun ⟨a, b, c, d, e, f⟩ => ⟨a, b, c, d, e, f⟩⟩
theorem gE_yes {W H : Int} {n : Nat} {xs : List Int} (h : GOk W H n xs) : gE W H n xs = 0 := by unfold gE; rw [if_pos (gB_iff.2 h)]
theorem gE_no {W H : Int} {n : Nat} {xs : List Int} (h : ¬ GOk W H n xs) : gE W H n xs = 1 := by unfold gE; rw [if_neg (fun g => h (gB_iff.1 g))]
theorem gB_yes {W H : Int} {n : Nat} {xs : List Int} (h : GOk W H n xs) : gB W H n xs = true := gB_iff.2 h
theorem gB_no {W H : Int} {n : Nat} {xs : List Int} (h : ¬ GOk W H n xs) : gB W H n xs = false := by
  cases e : gB W H n xs
  · rfl
  · exact absurd (gB_iff.1 e) h
theorem mul_bd {W H : Int} (w1 : 1 ≤ W) (w2 : W ≤ 128) (h1 : 1 ≤ H) (h2 : H ≤ 128) : 1 ≤ W * H ∧ W * H ≤ 16384 := by
  have a := Int.mul_le_mul w2 h2 (by omega) (by omega)
  have b := Int.mul_le_mul w1 h1 (by omega) (by omega)
  omega
/-- What stands of a ground before its tiles are looked at. -/
structure GHd (W H : Int) (n : Nat) : Prop where
  w1 : 1 ≤ W
  w2 : W ≤ 128
  h1 : 1 ≤ H
  h2 : H ≤ 128
  nn : (n : Int) = W * H
end Go.Proofs.YthabjihpjdlmoaaDoor
/- The contracts of package ground: whether it may be; of the program and of the reference. -/
namespace Go.Proofs.YthabjihpjdlmoaaDoor
open Go.RowKit
set_option linter.unusedVariables false
def I64' (x : Int) : Prop := -9223372036854775808 ≤ x ∧ x ≤ 9223372036854775807
theorem check_hd (W H : Int) (a : Option Addr) (n c B : Nat) (xs : List Int) (w : World) (h : By w B a n xs) (hB : B ≤ w.heap.size) (g : GHd W H n) (hn : n ≤ 16384) :
    Calls Tryd.prog 128 #[.agg #[.int .i64 W, .int .i64 H, .slice a n c]] w fun e w' => e = .returned (.int .i64 (gE W H n xs)) ∧ Below w.heap.size w w' := by
  obtain ⟨w1, w2, h1, h2, nn⟩ := g
  obtain ⟨m1, m2⟩ := mul_bd w1 w2 h1 h2
  have b1 : decide (W < 1) = false := by simp; omega
  have b2 : decide (128 < W) = false := by simp; omega
  have b3 : decide (H < 1) = false := by simp; omega
  have b4 : decide (128 < H) = false := by simp; omega
  have b5 : ((n : Int) != W * H) = false := by rw [bne_eq_false_iff_eq]; exact nn
  have NN := Hk.mk nn
  have HH := Hk.mk (h.alloc hB (.cells #[.int .i64 W, .int .i64 H, .slice a n c] 24))
  clear nn h
  go_enter Tryd.func128, Tryd.ntmps128
  go_wp2
  go_loop [37] (fun i => ∃ k : Nat, k ≤ n ∧ i = .int .i64 k ∧ Hk (∀ j, j < k → xs.getD j 0 ≤ 5)) (fun i => n - (intOf i).toNat)
  case atStart => exact ⟨0, Nat.zero_le _, rfl, ⟨fun j hj => absurd hj (by omega)⟩⟩
  case round =>
    obtain ⟨k, hk, rfl, HJ⟩ := hrel
    by_cases hlt : k < n
    · obtain ⟨b, off, rfl, hbl, hc⟩ := HH.out.at_ (by omega)
      have hcx := hc k hlt
      have hx := HH.out.bd hlt
      have hmem : xs.getD k 0 ∈ xs := getD_mem (by rw [HH.out.len]; exact hlt)
      have HM := Hk.mk hmem
      clear hc hmem
      generalize hX : xs.getD k 0 = x at *
      have HX := Hk.mk hX
      clear hX
      by_cases h5 : 5 < x
      · have d5 : decide (5 < x) = true := by simp; omega
        go_wp2
        go_ret
        exact ⟨ri (gE_no (fun g => by have := g.ts x HM.out; omega)).symm, (Below.refl _ _).alloc (Nat.le_refl _) _⟩
      · have d5 : decide (5 < x) = false := by simp; omega
        go_wp2
        go_round
        case rel => exact ⟨k + 1, by omega, by go_num, ⟨fun j hj => by
          by_cases e : j = k
          · subst e; rw [HX.out]; omega
          · exact HJ.out j (by omega)⟩⟩
        case measure => simp [intOf]; omega
    · have hkn : k = n := by omega
      subst hkn
      go_wp2
      go_ret
      exact ⟨ri (gE_yes ⟨w1, w2, h1, h2, NN.out, fun x hx => by
        obtain ⟨j, hj, rfl⟩ := List.mem_iff_getElem.1 hx
        have := HJ.out j (by rw [← HH.out.len]; exact hj)
        simpa [List.getD, List.getElem?_eq_getElem hj] using this⟩).symm, (Below.refl _ _).alloc (Nat.le_refl _) _⟩
theorem check_bad (W H : Int) (a : Option Addr) (n c : Nat) (xs : List Int) (w : World) (g : ¬ GHd W H n) (hn : n ≤ 140737488355328) :
    Calls Tryd.prog 128 #[.agg #[.int .i64 W, .int .i64 H, .slice a n c]] w fun e w' => e = .returned (.int .i64 (gE W H n xs)) ∧ Below w.heap.size w w' := by
  have NO := Hk.mk g
  have hno : ¬ GOk W H n xs := fun h => NO.out ⟨h.w1, h.w2, h.h1, h.h2, h.nn⟩
  have R := Hk.mk (gE_no hno)
  clear g hno
  by_cases c1 : W < 1
  · have b1 : decide (W < 1) = true := by simp; omega
    go_enter Tryd.func128, Tryd.ntmps128
    go_wp2
    go_ret
    exact ⟨ri R.out.symm, (Below.refl _ _).alloc (Nat.le_refl _) _⟩
  have b1 : decide (W < 1) = false := by simp; omega
  by_cases c2 : 128 < W
  · have b2 : decide (128 < W) = true := by simp; omega
    go_enter Tryd.func128, Tryd.ntmps128
    go_wp2
    go_ret
    exact ⟨ri R.out.symm, (Below.refl _ _).alloc (Nat.le_refl _) _⟩
  have b2 : decide (128 < W) = false := by simp; omega
  by_cases c3 : H < 1
  · have b3 : decide (H < 1) = true := by simp; omega
    go_enter Tryd.func128, Tryd.ntmps128
    go_wp2
    go_ret
    exact ⟨ri R.out.symm, (Below.refl _ _).alloc (Nat.le_refl _) _⟩
  have b3 : decide (H < 1) = false := by simp; omega
  by_cases c4 : 128 < H
  · have b4 : decide (128 < H) = true := by simp; omega
    go_enter Tryd.func128, Tryd.ntmps128
    go_wp2
    go_ret
    exact ⟨ri R.out.symm, (Below.refl _ _).alloc (Nat.le_refl _) _⟩
  have b4 : decide (128 < H) = false := by simp; omega
  obtain ⟨m1, m2⟩ := mul_bd (W := W) (H := H) (by omega) (by omega) (by omega) (by omega)
  have b5 : ((n : Int) != W * H) = true := by rw [bne_iff_ne]; exact fun e => NO.out ⟨by omega, by omega, by omega, by omega, e⟩
  go_enter Tryd.func128, Tryd.ntmps128
  go_wp2
  go_ret
  exact ⟨ri R.out.symm, (Below.refl _ _).alloc (Nat.le_refl _) _⟩
theorem check_any (W H : Int) (a : Option Addr) (n c B : Nat) (xs : List Int) (w : World) (h : By w B a n xs) (hB : B ≤ w.heap.size) (hn : n ≤ 140737488355328) :
    Calls Tryd.prog 128 #[.agg #[.int .i64 W, .int .i64 H, .slice a n c]] w fun e w' => e = .returned (.int .i64 (gE W H n xs)) ∧ Below w.heap.size w w' := by
  by_cases g : GHd W H n
  · exact check_hd W H a n c B xs w h hB g (by have := mul_bd g.w1 g.w2 g.h1 g.h2; have := g.nn; omega)
  · exact check_bad W H a n c xs w g hn
theorem rbo {a b : Bool} (h : a = b) : Ending.returned (.bool a) = .returned (.bool b) := by rw [h]
theorem rgr_hd (W H : Int) (a : Option Addr) (n c B : Nat) (xs : List Int) (w : World) (h : By w B a n xs) (hB : B ≤ w.heap.size) (g : GHd W H n) (hn : n ≤ 16384) :
    Calls Tryd.prog 83 #[.agg #[.int .i64 W, .int .i64 H, .slice a n c]] w fun e w' => e = .returned (.bool (gB W H n xs)) ∧ Below w.heap.size w w' := by
  obtain ⟨w1, w2, h1, h2, nn⟩ := g
  obtain ⟨m1, m2⟩ := mul_bd w1 w2 h1 h2
  have b1 : decide (W < 1) = false := by simp; omega
  have b2 : decide (128 < W) = false := by simp; omega
  have b3 : decide (H < 1) = false := by simp; omega
  have b4 : decide (128 < H) = false := by simp; omega
  have b5 : ((n : Int) != W * H) = false := by rw [bne_eq_false_iff_eq]; exact nn
  have NN := Hk.mk nn
  have HH := Hk.mk (h.alloc hB (.cells #[.int .i64 W, .int .i64 H, .slice a n c] 24))
  clear nn h
  go_enter Tryd.func83, Tryd.ntmps83
  go_wp2
  go_loop [3] (fun i => ∃ k : Nat, k ≤ n ∧ i = .int .i64 k ∧ Hk (∀ j, j < k → xs.getD j 0 ≤ 5)) (fun i => n - (intOf i).toNat)
  case atStart => exact ⟨0, Nat.zero_le _, rfl, ⟨fun j hj => absurd hj (by omega)⟩⟩
  case round =>
    obtain ⟨k, hk, rfl, HJ⟩ := hrel
    by_cases hlt : k < n
    · obtain ⟨b, off, rfl, hbl, hc⟩ := HH.out.at_ (by omega)
      have hcx := hc k hlt
      have hx := HH.out.bd hlt
      have hmem : xs.getD k 0 ∈ xs := getD_mem (by rw [HH.out.len]; exact hlt)
      have HM := Hk.mk hmem
      clear hc hmem
      generalize hX : xs.getD k 0 = x at *
      have HX := Hk.mk hX
      clear hX
      by_cases h5 : 5 < x
      · have d5 : decide (5 < x) = true := by simp; omega
        go_wp2
        go_ret
        exact ⟨rbo (gB_no (fun g => by have := g.ts x HM.out; omega)).symm, (Below.refl _ _).alloc (Nat.le_refl _) _⟩
      · have d5 : decide (5 < x) = false := by simp; omega
        go_wp2
        go_round
        case rel => exact ⟨k + 1, by omega, by go_num, ⟨fun j hj => by
          by_cases e : j = k
          · subst e; rw [HX.out]; omega
          · exact HJ.out j (by omega)⟩⟩
        case measure => simp [intOf]; omega
    · have hkn : k = n := by omega
      subst hkn
      go_wp2
      go_ret
      exact ⟨rbo (gB_yes ⟨w1, w2, h1, h2, NN.out, fun x hx => by
        obtain ⟨j, hj, rfl⟩ := List.mem_iff_getElem.1 hx
        have := HJ.out j (by rw [← HH.out.len]; exact hj)
        simpa [List.getD, List.getElem?_eq_getElem hj] using this⟩).symm, (Below.refl _ _).alloc (Nat.le_refl _) _⟩
theorem rgr_bad (W H : Int) (a : Option Addr) (n c : Nat) (xs : List Int) (w : World) (g : ¬ GHd W H n) (hn : n ≤ 140737488355328) :
    Calls Tryd.prog 83 #[.agg #[.int .i64 W, .int .i64 H, .slice a n c]] w fun e w' => e = .returned (.bool (gB W H n xs)) ∧ Below w.heap.size w w' := by
  have NO := Hk.mk g
  have hno : ¬ GOk W H n xs := fun h => NO.out ⟨h.w1, h.w2, h.h1, h.h2, h.nn⟩
  have R := Hk.mk (gB_no hno)
  clear g hno
  by_cases c1 : W < 1
  · have b1 : decide (W < 1) = true := by simp; omega
    go_enter Tryd.func83, Tryd.ntmps83
    go_wp2
    go_ret
    exact ⟨rbo R.out.symm, (Below.refl _ _).alloc (Nat.le_refl _) _⟩
  have b1 : decide (W < 1) = false := by simp; omega
  by_cases c2 : 128 < W
  · have b2 : decide (128 < W) = true := by simp; omega
    go_enter Tryd.func83, Tryd.ntmps83
    go_wp2
    go_ret
    exact ⟨rbo R.out.symm, (Below.refl _ _).alloc (Nat.le_refl _) _⟩
  have b2 : decide (128 < W) = false := by simp; omega
  by_cases c3 : H < 1
  · have b3 : decide (H < 1) = true := by simp; omega
    go_enter Tryd.func83, Tryd.ntmps83
    go_wp2
    go_ret
    exact ⟨rbo R.out.symm, (Below.refl _ _).alloc (Nat.le_refl _) _⟩
  have b3 : decide (H < 1) = false := by simp; omega
  by_cases c4 : 128 < H
  · have b4 : decide (128 < H) = true := by simp; omega
    go_enter Tryd.func83, Tryd.ntmps83
    go_wp2
    go_ret
    exact ⟨rbo R.out.symm, (Below.refl _ _).alloc (Nat.le_refl _) _⟩
  have b4 : decide (128 < H) = false := by simp; omega
  obtain ⟨m1, m2⟩ := mul_bd (W := W) (H := H) (by omega) (by omega) (by omega) (by omega)
  have b5 : ((n : Int) != W * H) = true := by rw [bne_iff_ne]; exact fun e => NO.out ⟨by omega, by omega, by omega, by omega, e⟩
  go_enter Tryd.func83, Tryd.ntmps83
  go_wp2
  go_ret
  exact ⟨rbo R.out.symm, (Below.refl _ _).alloc (Nat.le_refl _) _⟩
theorem rgr_any (W H : Int) (a : Option Addr) (n c B : Nat) (xs : List Int) (w : World) (h : By w B a n xs) (hB : B ≤ w.heap.size) (hn : n ≤ 140737488355328) :
    Calls Tryd.prog 83 #[.agg #[.int .i64 W, .int .i64 H, .slice a n c]] w fun e w' => e = .returned (.bool (gB W H n xs)) ∧ Below w.heap.size w w' := by
  by_cases g : GHd W H n
  · exact rgr_hd W H a n c B xs w h hB g (by have := mul_bd g.w1 g.w2 g.h1 g.h2; have := g.nn; omega)
  · exact rgr_bad W H a n c xs w g hn
theorem check_as (e : Int) (W H : Int) (a : Option Addr) (n c B : Nat) (xs : List Int) (w : World) (h : By w B a n xs) (hB : B ≤ w.heap.size) (hn : n ≤ 140737488355328) (E : Hk (gE W H n xs = e)) :
    Calls Tryd.prog 128 #[.agg #[.int .i64 W, .int .i64 H, .slice a n c]] w fun e' w' => e' = .returned (.int .i64 e) ∧ Below w.heap.size w w' := by
  obtain ⟨rfl⟩ := E; exact check_any W H a n c B xs w h hB hn
theorem rgr_as (e : Bool) (W H : Int) (a : Option Addr) (n c B : Nat) (xs : List Int) (w : World) (h : By w B a n xs) (hB : B ≤ w.heap.size) (hn : n ≤ 140737488355328) (E : Hk (gB W H n xs = e)) :
    Calls Tryd.prog 83 #[.agg #[.int .i64 W, .int .i64 H, .slice a n c]] w fun e' w' => e' = .returned (.bool e) ∧ Below w.heap.size w w' := by
  obtain ⟨rfl⟩ := E; exact rgr_any W H a n c B xs w h hB hn
end Go.Proofs.YthabjihpjdlmoaaDoor
