import Derived.OneCell
import Derived.Laws.Rows
import Derived.Deep.RegionHeld3
import Derived.Test.YtifnmgbeepgfiaaDj
import Derived.Test.YtifnmgbeepgfiaaDb
import Derived.Deep.QuietTactic
import Derived.BigQuiet
import Derived.Deep.RegionWith
import Derived.Deep.DeepCutAuto
import Derived.Deep.DeepFit
import Derived.Outline
import Derived.Test.YtifnmgbeepgfiaaDg
import Derived.Test.YtifnmgbeepgfiaaDh
/- Regions whose orders meet: states are merged; blocks that the region itself makes are known whole. -/
namespace Go.Proofs.Ytifnmgbeepgfiaa
open Go.RowKit
theorem reg_merge {p q : Prop} (f : Hk p → q) (x : p) : q := f ⟨x⟩
theorem reg_cast {P : Program} {md : Region.Mode} {ops : Array Oper} {Q : Exit → Act → World → Prop} {S : World → Prop} {n : Nat} {l l' : Array Bool} {a : Act} {w : World} (h : l = l') (k : wpAnyH P md ops Q S n l' a w) : wpAnyH P md ops Q S n l a w := h ▸ k
/-- The block holds just these cells, and may be written. -/
structure Bk (w : World) (P : Nat) (cs : Array Value) : Prop where
  bl : ∃ T, w.heap[P]? = some (.cells cs T (0, 0))
theorem Bk.lt {w : World} {P : Nat} {cs : Array Value} (h : Bk w P cs) : P < w.heap.size := by
  obtain ⟨T, h⟩ := h.bl; exact lt_of_block h
theorem Bk.c {w : World} {P : Nat} {cs : Array Value} (h : Bk w P cs) (i : Nat) : w.cell? ⟨P, i, none⟩ = cs[i]? := by
  obtain ⟨T, h⟩ := h.bl; simp [World.cell?, h]
theorem Bk.f {w : World} {P : Nat} {cs : Array Value} (h : Bk w P cs) (i : Nat) : w.frozen? ⟨P, i, none⟩ = false := by
  obtain ⟨T, h⟩ := h.bl; simp [World.frozen?, h]
theorem Bk.new (w : World) (cs : Array Value) (T : TypeId) : Bk (w.alloc (.cells cs T)) w.heap.size cs := ⟨T, heap_alloc_new w _⟩
theorem Bk.al {w : World} {P : Nat} {cs : Array Value} (h : Bk w P cs) (o : Obj) : Bk (w.alloc o) P cs := by
  have hlt := h.lt
  obtain ⟨T, h⟩ := h.bl; exact ⟨T, by rw [Below.heap_alloc w o P hlt]; exact h⟩
theorem Bk.below {w w' : World} {P : Nat} {cs : Array Value} (h : Bk w P cs) (hb : Below w.heap.size w w') : Bk w' P cs := by
  have hlt := h.lt
  obtain ⟨T, h⟩ := h.bl; exact ⟨T, by rw [hb.block P hlt]; exact h⟩
theorem Bk.drew {w : World} {P : Nat} {cs : Array Value} (h : Bk w P cs) : Bk w.drew P cs := ⟨h.bl⟩
theorem Bk.drewN {w : World} {P : Nat} {cs : Array Value} (h : Bk w P cs) (n : Nat) : Bk (w.drewN n) P cs := ⟨h.bl⟩
theorem Bk.oth {w : World} {P Q : Nat} {cs : Array Value} (h : Bk w P cs) (hn : ¬ P = Q) (i : Nat) (v : Value) : Bk (w.setCell ⟨Q, i, none⟩ v) P cs := by
  obtain ⟨T, h⟩ := h.bl; exact ⟨T, by rw [Below.heap_setCell _ _ _ _ (by simpa using hn)]; exact h⟩
theorem Bk.set {w : World} {P : Nat} {cs : Array Value} (h : Bk w P cs) (i : Nat) (v : Value) : Bk (w.setCell ⟨P, i, none⟩ v) P (cs.setIfInBounds i v) := by
  have hlt := h.lt
  obtain ⟨T, h⟩ := h.bl
  refine ⟨T, ?_⟩
  have h' : w.heap[P] = .cells cs T (0, 0) := by simpa [Array.getElem?_eq_getElem hlt] using h
  show (w.heap.modify P _)[P]? = _
  rw [Array.getElem?_eq_getElem (by simpa using hlt), Array.getElem_modify_self, h']
  rfl
theorem Bk.ne {w : World} {P : Nat} {cs : Array Value} (h : Bk w P cs) : ¬ P = w.heap.size := by have := h.lt; omega
theorem Bk.ne' {w : World} {P : Nat} {cs : Array Value} (h : Bk w P cs) : ¬ w.heap.size = P := by have := h.lt; omega
theorem kw_al {N : Nat} {W X : World} (h : Below N W X) (hN : N ≤ W.heap.size) (o : Obj) : Below N W (X.alloc o) := h.alloc (Nat.le_trans hN h.size) o
theorem kw_le {N : Nat} {W X : World} (h : Below N W X) (hN : N ≤ W.heap.size) : N ≤ X.heap.size := Nat.le_trans hN h.size
theorem kw_s {N : Nat} {W X : World} (h : Below N W X) : ∀ b o, b < N → X.cell? ⟨b, o, none⟩ = W.cell? ⟨b, o, none⟩ := fun b o hb => h.cell (p := ⟨b, o, none⟩) hb
end Go.Proofs.Ytifnmgbeepgfiaa
/- Layer 13: two lists of one's own that grow side by side: rows of numbers, their goals. -/
namespace Go.Proofs.Ytifnmgbeepgfiaa
open Go.ChangeShapes Go.WideShapes Go.ChangeAt Go.RowKit Go.Deep
set_option linter.unusedVariables false
set_option linter.unusedSimpArgs false
def lFq (J : Nat → Nat) (n m : Nat) : List Value := (List.range m).map fun j => .slice (some ⟨J j, 0, none⟩) n n
def lTq (G : Nat → Nat) (m : Nat) : List Value := (List.range m).map fun j => .int .i64 (G j)
def setF {α : Type} (F : Nat → α) (k : Nat) (x : α) (j : Nat) : α := if j = k then x else F j
theorem setF_at {α : Type} (F : Nat → α) (k : Nat) (x : α) : setF F k x k = x := if_pos rfl
theorem setF_far {α : Type} {F : Nat → α} {k j : Nat} {x : α} (h : j ≠ k) : setF F k x j = F j := if_neg h
theorem lFq_set (J : Nat → Nat) (n m x : Nat) : lFq (setF J m x) n (m + 1) = lFq J n m ++ [.slice (some ⟨x, 0, none⟩) n n] := by
  unfold lFq
  rw [List.range_succ, List.map_append]
  congr 1
  · exact List.map_congr_left fun j hj => by rw [setF_far (by have := List.mem_range.1 hj; omega)]
  · simp [setF_at]
theorem lTq_set (G : Nat → Nat) (m x : Nat) : lTq (setF G m x) (m + 1) = lTq G m ++ [.int .i64 x] := by
  unfold lTq
  rw [List.range_succ, List.map_append]
  congr 1
  · exact List.map_congr_left fun j hj => by rw [setF_far (by have := List.mem_range.1 hj; omega)]
  · simp [setF_at]
/-- m rows of n numbers, and k goals. -/
structure Fq (w : World) (S n : Nat) (v v' : Value) (m k : Nat) (G J : Nat → Nat) (D : Nat → Nat → Int) : Prop where
  rf : w.ownsRow S 23 1 v m (lFq J n m)
  rt : w.ownsRow S 3 1 v' k (lTq G k)
  ap : v.ownBlock = none ∨ v'.ownBlock = none ∨ v.ownBlock ≠ v'.ownBlock
  ar : ∀ j, j < m → v.ownBlock ≠ some (J j) ∧ v'.ownBlock ≠ some (J j) ∧ Arr w (J j) n 3 (fun t => .int .i64 (D j t))
theorem Fq.nil (w : World) (S n : Nat) (G J : Nat → Nat) (D : Nat → Nat → Int) : Fq w S n (.slice none 0 0) (.slice none 0 0) 0 0 G J D :=
  ⟨⟨rfl, Or.inl ⟨rfl, rfl⟩⟩, ⟨rfl, Or.inl ⟨rfl, rfl⟩⟩, Or.inl rfl, fun j hj => absurd hj (by omega)⟩
theorem Fq.drew {w : World} {S n m k : Nat} {v v' : Value} {G J : Nat → Nat} {D : Nat → Nat → Int} (h : Fq w S n v v' m k G J D) : Fq w.drew S n v v' m k G J D := ⟨h.rf, h.rt, h.ap, fun j hj => ⟨(h.ar j hj).1, (h.ar j hj).2.1, (h.ar j hj).2.2.drew⟩⟩
theorem Fq.drewN {w : World} {S n m k : Nat} {v v' : Value} {G J : Nat → Nat} {D : Nat → Nat → Int} (h : Fq w S n v v' m k G J D) (q : Nat) : Fq (w.drewN q) S n v v' m k G J D := ⟨h.rf, h.rt, h.ap, fun j hj => ⟨(h.ar j hj).1, (h.ar j hj).2.1, (h.ar j hj).2.2.drewN q⟩⟩
theorem Fq.later {w w' : World} {S n m k : Nat} {v v' : Value} {G J : Nat → Nat} {D : Nat → Nat → Int} (h : Fq w S n v v' m k G J D) (hb : Below w.heap.size w w') : Fq w' S n v v' m k G J D :=
  ⟨(Fr.of_below hb).row h.rf (fun j hj hm => by have := (h.rf.lt j hj).2; omega), (Fr.of_below hb).row h.rt (fun j hj hm => by have := (h.rt.lt j hj).2; omega), h.ap, fun j hj => ⟨(h.ar j hj).1, (h.ar j hj).2.1, (h.ar j hj).2.2.later hb⟩⟩
theorem arr_grown {w w' : World} {g n : Nat} {T : TypeId} {f : Nat → Value} {row : Option Nat} (h : Arr w g n T f) (k : w.grownBy w' row) (hg : row ≠ some g) : Arr w' g n T f :=
  h.of_block (k.block g h.lt (fun e => hg e.symm))
theorem ne_fresh {u : Option Nat} {B I : Nat} (h : u = some B) (hB : I < B) : u ≠ some I := by
  rw [h]
  intro e
  injection e with e
  omega
/-- A row more. -/
theorem Fq.step1 {w z : World} {S n m k I : Nat} {v v' u : Value} {G J : Nat → Nat} {D : Nat → Nat → Int} {E : Nat → Int} (h : Fq w S n v v' m k G J D) (hI : Arr w I n 3 (fun t => .int .i64 (E t))) (h1 : v.ownBlock ≠ some I) (h2 : v'.ownBlock ≠ some I)
    (hown : z.ownsRow S 23 1 u (m + 1) (lFq J n m ++ [.slice (some ⟨I, 0, none⟩) n n])) (hg : w.grownBy z v.ownBlock) (hat : u.ownBlock = v.ownBlock ∨ u.ownBlock = some w.heap.size) : Fq z S n u v' (m + 1) k G (setF J m I) (setF D m E) := by
  refine ⟨by rw [lFq_set]; exact hown, h.rt.kept hg ?_, ?_, fun j hj => ?_⟩
  · rcases h.ap with e | e | e
    · by_cases c : v'.ownBlock = none
      · exact Or.inl c
      · right; rw [e]; exact c
    · exact Or.inl e
    · exact Or.inr fun e' => e e'.symm
  · rcases hat with e | e
    · rw [e]; exact h.ap
    · right
      by_cases c : v'.ownBlock = none
      · exact Or.inl c
      right
      rw [e]
      intro e'
      have := (h.rt.lt _ e'.symm).2
      omega
  · by_cases e : j = m
    · subst e
      rw [setF_at, setF_at]
      refine ⟨?_, h2, arr_grown hI hg h1⟩
      rcases hat with e | e
      · rw [e]; exact h1
      · exact ne_fresh e hI.lt
    · rw [setF_far e, setF_far e]
      obtain ⟨a1, a2, a3⟩ := h.ar j (by omega)
      refine ⟨?_, a2, arr_grown a3 hg a1⟩
      rcases hat with e | e
      · rw [e]; exact a1
      · exact ne_fresh e a3.lt
/-- A goal more. -/
theorem Fq.step2 {w z : World} {S n m k g : Nat} {v v' u : Value} {G J : Nat → Nat} {D : Nat → Nat → Int} (h : Fq w S n v v' m k G J D)
    (hown : z.ownsRow S 3 1 u (k + 1) (lTq G k ++ [.int .i64 g])) (hg : w.grownBy z v'.ownBlock) (hat : u.ownBlock = v'.ownBlock ∨ u.ownBlock = some w.heap.size) : Fq z S n v u m (k + 1) (setF G k g) J D := by
  refine ⟨h.rf.kept hg ?_, by rw [lTq_set]; exact hown, ?_, fun j hj => ?_⟩
  · rcases h.ap with e | e | e
    · exact Or.inl e
    · by_cases c : v.ownBlock = none
      · exact Or.inl c
      · right; rw [e]; exact c
    · exact Or.inr e
  · rcases hat with e | e
    · rw [e]; exact h.ap
    · by_cases c : v.ownBlock = none
      · exact Or.inl c
      right
      right
      rw [e]
      intro e'
      have := (h.rf.lt _ e').2
      omega
  · obtain ⟨a1, a2, a3⟩ := h.ar j hj
    refine ⟨a1, ?_, arr_grown a3 hg a2⟩
    rcases hat with e | e
    · rw [e]; exact a2
    · exact ne_fresh e a3.lt
/-- A row waits to be put in. -/
structure FqI (w : World) (S n : Nat) (v v' : Value) (m k : Nat) (G J : Nat → Nat) (D : Nat → Nat → Int) (I : Nat) (E : Nat → Int) : Prop extends Fq w S n v v' m k G J D where
  ai : Arr w I n 3 (fun t => .int .i64 (E t))
  n1 : v.ownBlock ≠ some I
  n2 : v'.ownBlock ≠ some I
section
variable {w w' z : World} {S n m k I g : Nat} {v v' u : Value} {G J : Nat → Nat} {D : Nat → Nat → Int} {E : Nat → Int}
theorem FqI.later (h : FqI w S n v v' m k G J D I E) (hb : Below w.heap.size w w') : FqI w' S n v v' m k G J D I E := ⟨h.toFq.later hb, h.ai.later hb, h.n1, h.n2⟩
theorem FqI.of (h : Fq w S n v v' m k G J D) (hb : Below w.heap.size w w') (hI : w.heap.size ≤ I) (ha : Arr w' I n 3 (fun t => .int .i64 (E t))) : FqI w' S n v v' m k G J D I E :=
  ⟨h.later hb, ha, fun e => by have := (h.rf.lt _ e).2; omega, fun e => by have := (h.rt.lt _ e).2; omega⟩
theorem FqI.step1 (h : FqI w S n v v' m k G J D I E) (hown : z.ownsRow S 23 1 u (m + 1) (lFq J n m ++ [.slice (some ⟨I, 0, none⟩) n n])) (hg : w.grownBy z v.ownBlock) (hat : u.ownBlock = v.ownBlock ∨ u.ownBlock = some w.heap.size) : Fq z S n u v' (m + 1) k G (setF J m I) (setF D m E) :=
  h.toFq.step1 h.ai h.n1 h.n2 hown hg hat
theorem FqI.step2 (h : FqI w S n v v' m k G J D I E) (hown : z.ownsRow S 3 1 u (k + 1) (lTq G k ++ [.int .i64 g])) (hg : w.grownBy z v'.ownBlock) (hat : u.ownBlock = v'.ownBlock ∨ u.ownBlock = some w.heap.size) : FqI z S n v u m (k + 1) (setF G k g) J D I E := by
  refine ⟨h.toFq.step2 hown hg hat, arr_grown h.ai hg h.n2, h.n1, ?_⟩
  rcases hat with e | e
  · rw [e]; exact h.n2
  · exact ne_fresh e h.ai.lt
end
theorem Fq.form {w : World} {S n m : Nat} {v v' : Value} {G J : Nat → Nat} {D : Nat → Nat → Int} (h : Fq w S n v v' m m G J D) : ∃ a c a' c', v = .slice a m c ∧ v' = .slice a' m c' ∧ (0 < m → ∃ g g', a = some ⟨g, 0, none⟩ ∧ a' = some ⟨g', 0, none⟩) := by
  rcases h.rf.2 with ⟨e, h0⟩ | ⟨g, cap, cur, e, _⟩
  · rcases h.rt.2 with ⟨e', _⟩ | ⟨g', cap', cur', e', _⟩
    · subst h0; exact ⟨_, _, _, _, e, e', fun h => absurd h (by omega)⟩
    · subst h0; exact ⟨_, _, _, _, e, e', fun h => absurd h (by omega)⟩
  · rcases h.rt.2 with ⟨e', h0⟩ | ⟨g', cap', cur', e', _⟩
    · subst h0; exact ⟨_, _, _, _, e, e', fun h => absurd h (by omega)⟩
    · exact ⟨_, _, _, _, e, e', fun h => ⟨g, g', rfl, rfl⟩⟩
theorem Fq.c1 {w : World} {S n m g c j : Nat} {v' : Value} {G J : Nat → Nat} {D : Nat → Nat → Int} (h : Fq w S n (.slice (some ⟨g, 0, none⟩) m c) v' m m G J D) (hj : j < m) : w.cell? ⟨g, j, none⟩ = some (.slice (some ⟨J j, 0, none⟩) n n) := by
  rw [h.rf.cellAt j (by omega)]
  simp [lFq, hj]
theorem Fq.c2 {w : World} {S n m g c j : Nat} {v : Value} {G J : Nat → Nat} {D : Nat → Nat → Int} (h : Fq w S n v (.slice (some ⟨g, 0, none⟩) m c) m m G J D) (hj : j < m) : w.cell? ⟨g, j, none⟩ = some (.int .i64 (G j)) := by
  rw [h.rt.cellAt j (by omega)]
  simp [lTq, hj]
theorem Fq.c3 {w : World} {S n m j t : Nat} {v v' : Value} {G J : Nat → Nat} {D : Nat → Nat → Int} (h : Fq w S n v v' m m G J D) (hj : j < m) (ht : t < n) : w.cell? ⟨J j, t, none⟩ = some (.int .i64 (D j t)) := (h.ar j hj).2.2.cell ht
theorem one_sl (a : Option Addr) (n c : Nat) : ∀ u ∈ ([.slice a n c] : List Value), u.oneCell' = true := fun u hu => by simp at hu; subst hu; rfl
theorem one_it (x : Int) : ∀ u ∈ ([.int .i64 x] : List Value), u.oneCell' = true := fun u hu => by simp at hu; subst hu; rfl
theorem info_sl : (Try.prog.info? 23).map (fun i => (i.zero, i.size, i.bytes)) = some (some (.slice none 0 0), 1, 24) := by kernel_rfl
end Go.Proofs.Ytifnmgbeepgfiaa
/- Package sector: the tiles beside one, in its sector. -/
namespace Go.Proofs.Ytifnmgbeepgfiaa
open Go.ChangeShapes Go.WideShapes Go.ChangeAt Go.RowKit Go.Deep
set_option linter.unusedVariables false
set_option linter.unusedSimpArgs false
def intsV (l : List Int) : List Value := l.map (Value.int .i64)
def bes1 (W t y : Int) : List Int := if (0 < y % 8) then [t - W] else []
def bes2 (W t x y : Int) : List Int := bes1 W t y ++ (if (x + 1 < W ∧ 0 < (x + 1) % 8) then [t + 1] else [])
def bes3 (W H t x y : Int) : List Int := bes2 W t x y ++ (if (y + 1 < H ∧ 0 < (y + 1) % 8) then [t + W] else [])
def bes4 (W H t x y : Int) : List Int := bes3 W H t x y ++ (if (0 < x % 8) then [t - 1] else [])
theorem bes1_len (W t y : Int) : (bes1 W t y).length ≤ 1 := by unfold bes1; split <;> simp
theorem bes2_len (W t x y : Int) : (bes2 W t x y).length ≤ 2 := by
  have := bes1_len W t y
  unfold bes2; rw [List.length_append]; split <;> simp <;> omega
theorem bes3_len (W H t x y : Int) : (bes3 W H t x y).length ≤ 3 := by
  have := bes2_len W t x y
  unfold bes3; rw [List.length_append]; split <;> simp <;> omega
set_option maxRecDepth 100000 in
set_option maxHeartbeats 3200000 in
theorem sbeside_any (W H t : Int) (w : World) (w1 : 1 ≤ W) (w2 : W ≤ 128) (h1 : 1 ≤ H) (h2 : H ≤ 128) (t0 : 0 ≤ t) (t1 : t < W * H) :
    Calls Try.prog 29 #[.int .i64 W, .int .i64 H, .int .i64 t] w fun e w' => ∃ v, e = .returned v ∧ w'.ownsRow w.heap.size 3 1 v (bes4 W H t (t % W) (t / W)).length (intsV (bes4 W H t (t % W) (t / W))) ∧ Below w.heap.size w w' := by
  obtain ⟨ii, hii, hiz0, hiz1, hiz2⟩ := info_parts info_int
  have hW0 : ¬ W = 0 := by omega
  have tm : t.tmod W = t % W := Int.tmod_eq_emod_of_nonneg (by omega)
  have td : t.tdiv W = t / W := Int.tdiv_eq_ediv_of_nonneg (by omega)
  have hmb := mul_bd w1 w2 h1 h2
  have x0 := Int.emod_nonneg t (show W ≠ 0 by omega)
  have x1 := Int.emod_lt_of_pos t (show 0 < W by omega)
  have y0 : 0 ≤ t / W := Int.ediv_nonneg t0 (by omega)
  have y1 : t / W < H := Int.ediv_lt_of_lt_mul (by omega) (by rw [Int.mul_comm]; exact t1)
  have tb : t ≤ 16384 := by omega
  have hem := Int.emod_add_mul_ediv t W
  have hyw : t / W = 0 ∨ W ≤ t := by
    by_cases c : t / W = 0
    · exact Or.inl c
    · right
      have := Int.mul_le_mul_of_nonneg_left (show 1 ≤ t / W by omega) (show 0 ≤ W by omega)
      omega
  clear hem hmb
  generalize t % W = x at *
  generalize t / W = y at *
  have ry : y.tmod 8 = y % 8 := Int.tmod_eq_emod_of_nonneg y0
  have rx : x.tmod 8 = x % 8 := Int.tmod_eq_emod_of_nonneg x0
  have ry1 : (y + 1).tmod 8 = (y + 1) % 8 := Int.tmod_eq_emod_of_nonneg (by omega)
  have rx1 : (x + 1).tmod 8 = (x + 1) % 8 := Int.tmod_eq_emod_of_nonneg (by omega)
  have HB : Hk (Below w.heap.size w w) := ⟨Below.refl _ _⟩
  go_enter Try.func29, Try.ntmps29
  go_upto_region 1 with fail
  go_quiet (fail)
  replace HB := Hk.mk (below_drewN HB.out nq)
  generalize World.drewN w nq = VR at *
  have wy : wrap64 y = y := by unfold wrap64; omega
  have wy1 : IntKind.i64.wrap (y + 1) = y + 1 := by rw [IntKind.wrap_i64]; omega
  have wx1 : IntKind.i64.wrap (x + 1) = x + 1 := by rw [IntKind.wrap_i64]; omega
  obtain ⟨bI, hbI⟩ : ∃ b : Bool, decide (0 < y % 8) = b := ⟨_, rfl⟩
  have HBI := Hk.mk hbI
  go_upto_if 19 with (at_make; go_must (refine wpList_make_own _ rfl _ _ 23 rfl w.heap.size 3 ii (.int .i64 0) 1 Try.underlying23 hii hiz0 hiz1 .i64 .i64 _ 4 rfl rfl rfl (by rw [hiz2]; omega) (by unfold maxLen; omega) HB.out.size ?_); intro z1 hown hgrow; have HO := Hk.mk hown; have HB1 := Hk.mk (HB.out.trans ((below_grown hgrow).mono HB.out.size)); clear hown hgrow)
  clear HB
  have HB := HB1
  clear HB1
  obtain ⟨WX, hWX⟩ : ∃ WX : World, WX = z1 := ⟨z1, rfl⟩
  subst hWX
  obtain ⟨LP, hLP⟩ : ∃ LP : List Int, [] = LP := ⟨_, rfl⟩
  have hLl : LP.length ≤ 4 := by rw [← hLP]; simp
  have HLP := Hk.mk hLP
  have HO2 : Hk (World.ownsRow WX w.heap.size 3 1 (.slice (some ⟨VR.heap.size, 0, none⟩) 0 4) LP.length (intsV LP)) := ⟨by rw [← hLP]; exact HO.out⟩
  clear HO hLP
  have HO := HO2
  clear HO2
  go_cut [9] (fun v wx => Hk (World.ownsRow wx w.heap.size 3 1 v ((bes1 W t y)).length (intsV ((bes1 W t y)))) ∧ Hk (Below w.heap.size w wx))
  case first =>
    cases bI
    · have hno := of_decide_eq_false HBI.out
      have hL : (bes1 W t y) = LP := by rw [← HLP.out]; simp only [bes1, bes2, bes3, bes4, if_neg hno, List.append_nil]
      go_wp2_with fail
      go_meet
      case rel => exact ⟨by rw [hL]; exact HO, HB⟩
    · have hyes := of_decide_eq_true HBI.out
      have hL : (bes1 W t y) = LP ++ [t - W] := by rw [← HLP.out]; simp only [bes1, bes2, bes3, bes4, if_pos hyes, List.nil_append]
      have we : IntKind.i64.wrap (t - W) = t - W := by rw [IntKind.wrap_i64]; omega
      go_wp2_with (at_builtin; go_must (refine wpList_append_own_at _ rfl _ _ 23 rfl w.heap.size 3 ii (.int .i64 0) 1 8 Try.underlying23 hii hiz0 hiz1 hiz2 rfl (by decide) _ _ _ rfl (HO.out.alloc _) ⟨(WX).heap.size, 0, none⟩ 1 1 [.int .i64 (t - W)] rfl rfl (one_new WX _ _) (one_it _) (by unfold maxLen; omega) (by omega) (by have := HB.out.size; simp; omega) ?_); intro v8 z8 hown hgrow hnil hat; have HO8 := Hk.mk hown; have HB8 := Hk.mk ((HB.out.alloc HB.out.size _).grown hgrow (by have := HB.out.size; simp; omega) (fun j hj => (HO.out.lt j hj).1)); clear hown hgrow hnil hat)
      go_meet
      case rel => exact ⟨⟨by rw [hL]; have := HO8.out; simpa [intsV] using this⟩, HB8⟩
  case rest =>
  obtain ⟨HO, HB⟩ := hcut
  clear hbI HBI HLP hLl
  obtain ⟨WX, hWX⟩ : ∃ WX : World, WX = wc := ⟨wc, rfl⟩
  subst hWX
  obtain ⟨bI, hbI⟩ : ∃ b : Bool, decide (x + 1 < W ∧ 0 < (x + 1) % 8) = b := ⟨_, rfl⟩
  have HBI := Hk.mk hbI
  go_upto_region 5 with fail
  go_cut [35] (fun v wx => v = .bool bI ∧ WX = wx)
  case first =>
    by_cases e2 : x + 1 < W
    · have d1 : decide (x + 1 < W) = true := decide_eq_true e2
      by_cases e3 : 0 < (x + 1) % 8
      · have d2 : decide (0 < (x + 1) % 8) = true := decide_eq_true e3
        have e4 : bI = true := by rw [← hbI]; exact decide_eq_true ⟨e2, e3⟩
        subst e4
        clear hbI HBI
        go_wp2_with fail
        go_meet
        case rel => exact ⟨rfl, rfl⟩
      · have d2 : decide (0 < (x + 1) % 8) = false := decide_eq_false e3
        have e4 : bI = false := by rw [← hbI]; exact decide_eq_false (fun h => e3 h.2)
        subst e4
        clear hbI HBI
        go_wp2_with fail
        go_meet
        case rel => exact ⟨rfl, rfl⟩
    · have d1 : decide (x + 1 < W) = false := decide_eq_false e2
      have e4 : bI = false := by rw [← hbI]; exact decide_eq_false (fun h => e2 h.1)
      subst e4
      clear hbI HBI
      go_wp2_with fail
      go_meet
      case rel => exact ⟨rfl, rfl⟩
  case rest =>
  obtain ⟨rfl, hwx⟩ := hcut
  subst hwx
  go_upto_if 35 with fail
  obtain ⟨LP, hLP⟩ : ∃ LP : List Int, bes1 W t y = LP := ⟨_, rfl⟩
  have hLl : LP.length ≤ 4 := by rw [← hLP]; exact Nat.le_trans (bes1_len _ _ _) (by omega)
  have HLP := Hk.mk hLP
  rw [hLP] at HO
  clear hLP
  go_cut [9] (fun v wx => Hk (World.ownsRow wx w.heap.size 3 1 v ((bes2 W t x y)).length (intsV ((bes2 W t x y)))) ∧ Hk (Below w.heap.size w wx))
  case first =>
    cases bI
    · have hno := of_decide_eq_false HBI.out
      have hL : (bes2 W t x y) = LP := by rw [← HLP.out]; simp only [bes1, bes2, bes3, bes4, if_neg hno, List.append_nil]
      go_wp2_with fail
      go_meet
      case rel => exact ⟨by rw [hL]; exact HO, HB⟩
    · have hyes := of_decide_eq_true HBI.out
      have hL : (bes2 W t x y) = LP ++ [t + 1] := by rw [← HLP.out]; simp only [bes1, bes2, bes3, bes4, if_pos hyes, List.nil_append]
      have we : IntKind.i64.wrap (t + 1) = t + 1 := by rw [IntKind.wrap_i64]; omega
      go_wp2_with (at_builtin; go_must (refine wpList_append_own_at _ rfl _ _ 23 rfl w.heap.size 3 ii (.int .i64 0) 1 8 Try.underlying23 hii hiz0 hiz1 hiz2 rfl (by decide) _ _ _ rfl (HO.out.alloc _) ⟨(WX).heap.size, 0, none⟩ 1 1 [.int .i64 (t + 1)] rfl rfl (one_new WX _ _) (one_it _) (by unfold maxLen; omega) (by omega) (by have := HB.out.size; simp; omega) ?_); intro v8 z8 hown hgrow hnil hat; have HO8 := Hk.mk hown; have HB8 := Hk.mk ((HB.out.alloc HB.out.size _).grown hgrow (by have := HB.out.size; simp; omega) (fun j hj => (HO.out.lt j hj).1)); clear hown hgrow hnil hat)
      go_meet
      case rel => exact ⟨⟨by rw [hL]; have := HO8.out; simpa [intsV] using this⟩, HB8⟩
  case rest =>
  obtain ⟨HO, HB⟩ := hcut
  clear hbI HBI HLP hLl
  obtain ⟨WX, hWX⟩ : ∃ WX : World, WX = wc := ⟨wc, rfl⟩
  subst hWX
  obtain ⟨bI, hbI⟩ : ∃ b : Bool, decide (y + 1 < H ∧ 0 < (y + 1) % 8) = b := ⟨_, rfl⟩
  have HBI := Hk.mk hbI
  go_upto_region 7 with fail
  go_cut [50] (fun v wx => v = .bool bI ∧ WX = wx)
  case first =>
    by_cases e2 : y + 1 < H
    · have d1 : decide (y + 1 < H) = true := decide_eq_true e2
      by_cases e3 : 0 < (y + 1) % 8
      · have d2 : decide (0 < (y + 1) % 8) = true := decide_eq_true e3
        have e4 : bI = true := by rw [← hbI]; exact decide_eq_true ⟨e2, e3⟩
        subst e4
        clear hbI HBI
        go_wp2_with fail
        go_meet
        case rel => exact ⟨rfl, rfl⟩
      · have d2 : decide (0 < (y + 1) % 8) = false := decide_eq_false e3
        have e4 : bI = false := by rw [← hbI]; exact decide_eq_false (fun h => e3 h.2)
        subst e4
        clear hbI HBI
        go_wp2_with fail
        go_meet
        case rel => exact ⟨rfl, rfl⟩
    · have d1 : decide (y + 1 < H) = false := decide_eq_false e2
      have e4 : bI = false := by rw [← hbI]; exact decide_eq_false (fun h => e2 h.1)
      subst e4
      clear hbI HBI
      go_wp2_with fail
      go_meet
      case rel => exact ⟨rfl, rfl⟩
  case rest =>
  obtain ⟨rfl, hwx⟩ := hcut
  subst hwx
  go_upto_if 50 with fail
  obtain ⟨LP, hLP⟩ : ∃ LP : List Int, bes2 W t x y = LP := ⟨_, rfl⟩
  have hLl : LP.length ≤ 4 := by rw [← hLP]; exact Nat.le_trans (bes2_len _ _ _ _) (by omega)
  have HLP := Hk.mk hLP
  rw [hLP] at HO
  clear hLP
  go_cut [9] (fun v wx => Hk (World.ownsRow wx w.heap.size 3 1 v ((bes3 W H t x y)).length (intsV ((bes3 W H t x y)))) ∧ Hk (Below w.heap.size w wx))
  case first =>
    cases bI
    · have hno := of_decide_eq_false HBI.out
      have hL : (bes3 W H t x y) = LP := by rw [← HLP.out]; simp only [bes1, bes2, bes3, bes4, if_neg hno, List.append_nil]
      go_wp2_with fail
      go_meet
      case rel => exact ⟨by rw [hL]; exact HO, HB⟩
    · have hyes := of_decide_eq_true HBI.out
      have hL : (bes3 W H t x y) = LP ++ [t + W] := by rw [← HLP.out]; simp only [bes1, bes2, bes3, bes4, if_pos hyes, List.nil_append]
      have we : IntKind.i64.wrap (t + W) = t + W := by rw [IntKind.wrap_i64]; omega
      go_wp2_with (at_builtin; go_must (refine wpList_append_own_at _ rfl _ _ 23 rfl w.heap.size 3 ii (.int .i64 0) 1 8 Try.underlying23 hii hiz0 hiz1 hiz2 rfl (by decide) _ _ _ rfl (HO.out.alloc _) ⟨(WX).heap.size, 0, none⟩ 1 1 [.int .i64 (t + W)] rfl rfl (one_new WX _ _) (one_it _) (by unfold maxLen; omega) (by omega) (by have := HB.out.size; simp; omega) ?_); intro v8 z8 hown hgrow hnil hat; have HO8 := Hk.mk hown; have HB8 := Hk.mk ((HB.out.alloc HB.out.size _).grown hgrow (by have := HB.out.size; simp; omega) (fun j hj => (HO.out.lt j hj).1)); clear hown hgrow hnil hat)
      go_meet
      case rel => exact ⟨⟨by rw [hL]; have := HO8.out; simpa [intsV] using this⟩, HB8⟩
  case rest =>
  obtain ⟨HO, HB⟩ := hcut
  clear hbI HBI HLP hLl
  obtain ⟨WX, hWX⟩ : ∃ WX : World, WX = wc := ⟨wc, rfl⟩
  subst hWX
  obtain ⟨bI, hbI⟩ : ∃ b : Bool, decide (0 < x % 8) = b := ⟨_, rfl⟩
  have HBI := Hk.mk hbI
  go_upto_if 59 with fail
  obtain ⟨LP, hLP⟩ : ∃ LP : List Int, bes3 W H t x y = LP := ⟨_, rfl⟩
  have hLl : LP.length ≤ 4 := by rw [← hLP]; exact Nat.le_trans (bes3_len _ _ _ _ _) (by omega)
  have HLP := Hk.mk hLP
  rw [hLP] at HO
  clear hLP
  go_cut [9] (fun v wx => Hk (World.ownsRow wx w.heap.size 3 1 v ((bes4 W H t x y)).length (intsV ((bes4 W H t x y)))) ∧ Hk (Below w.heap.size w wx))
  case first =>
    cases bI
    · have hno := of_decide_eq_false HBI.out
      have hL : (bes4 W H t x y) = LP := by rw [← HLP.out]; simp only [bes1, bes2, bes3, bes4, if_neg hno, List.append_nil]
      go_wp2_with fail
      go_meet
      case rel => exact ⟨by rw [hL]; exact HO, HB⟩
    · have hyes := of_decide_eq_true HBI.out
      have hL : (bes4 W H t x y) = LP ++ [t - 1] := by rw [← HLP.out]; simp only [bes1, bes2, bes3, bes4, if_pos hyes, List.nil_append]
      have we : IntKind.i64.wrap (t - 1) = t - 1 := by rw [IntKind.wrap_i64]; omega
      go_wp2_with (at_builtin; go_must (refine wpList_append_own_at _ rfl _ _ 23 rfl w.heap.size 3 ii (.int .i64 0) 1 8 Try.underlying23 hii hiz0 hiz1 hiz2 rfl (by decide) _ _ _ rfl (HO.out.alloc _) ⟨(WX).heap.size, 0, none⟩ 1 1 [.int .i64 (t - 1)] rfl rfl (one_new WX _ _) (one_it _) (by unfold maxLen; omega) (by omega) (by have := HB.out.size; simp; omega) ?_); intro v8 z8 hown hgrow hnil hat; have HO8 := Hk.mk hown; have HB8 := Hk.mk ((HB.out.alloc HB.out.size _).grown hgrow (by have := HB.out.size; simp; omega) (fun j hj => (HO.out.lt j hj).1)); clear hown hgrow hnil hat)
      go_meet
      case rel => exact ⟨⟨by rw [hL]; have := HO8.out; simpa [intsV] using this⟩, HB8⟩
  case rest =>
  obtain ⟨HO, HB⟩ := hcut
  clear hbI HBI HLP hLl
  go_wp2_with fail
  go_ret
  exact ⟨_, rfl, HO.out, HB.out⟩
end Go.Proofs.Ytifnmgbeepgfiaa
/- Plain words of layer 10: parts of a map: who can be come to, the least number of those. -/
namespace Go.Proofs.Ytifnmgbeepgfiaa
open Go.RowKit
set_option linter.unusedVariables false
set_option linter.unusedSimpArgs false
/-- Whoever can be come to over neighbours. -/
inductive Rch (N : Nat → Nat → Prop) (t : Nat) : Nat → Prop
  | refl : Rch N t t
  | step {u v : Nat} : Rch N t u → N u v → Rch N t v
theorem Rch.trans {N : Nat → Nat → Prop} {a b c : Nat} (h : Rch N a b) (k : Rch N b c) : Rch N a c := by
  induction k with
  | refl => exact h
  | step _ hn ih => exact ih.step hn
theorem Rch.symm {N : Nat → Nat → Prop} (hs : ∀ a b, N a b → N b a) {a b : Nat} (h : Rch N a b) : Rch N b a := by
  induction h with
  | refl => exact .refl
  | step _ hn ih => exact (Rch.step .refl (hs _ _ hn)).trans ih
theorem Rch.lt {N : Nat → Nat → Prop} {n a b : Nat} (hb : ∀ a b, N a b → b < n) (ha : a < n) (h : Rch N a b) : b < n := by
  cases h with
  | refl => exact ha
  | step _ hn => exact hb _ _ hn
theorem Rch.free {N : Nat → Nat → Prop} {fr : Nat → Bool} (hf : ∀ a b, N a b → fr a = true ∧ fr b = true) {a b : Nat} (h : Rch N a b) (ha : fr a = true) : fr b = true := by
  cases h with
  | refl => exact ha
  | step _ hn => exact (hf _ _ hn).2
/-- Each free tile is called by the least one that it can come to. -/
structure IsPart (n : Nat) (N : Nat → Nat → Prop) (fr : Nat → Bool) (P : Nat → Int) : Prop where
  no : ∀ t, t < n → fr t = false → P t = -1
  yes : ∀ t, t < n → fr t = true → ∃ m : Nat, P t = (m : Int) ∧ Rch N t m ∧ ∀ u, Rch N t u → m ≤ u
theorem IsPart.eq {n : Nat} {N : Nat → Nat → Prop} {fr : Nat → Bool} {P P' : Nat → Int} (h : IsPart n N fr P) (h' : IsPart n N fr P') {t : Nat} (ht : t < n) : P t = P' t := by
  cases e : fr t
  · rw [h.no t ht e, h'.no t ht e]
  · obtain ⟨m, e1, r1, l1⟩ := h.yes t ht e
    obtain ⟨k, e2, r2, l2⟩ := h'.yes t ht e
    have := l1 k r2
    have := l2 m r1
    omega
/-- Between two fills: all parts that begin below s are done, the others are not begun. -/
structure Upto (n : Nat) (N : Nat → Nat → Prop) (fr : Nat → Bool) (s : Nat) (P : Nat → Int) : Prop where
  no : ∀ t, t < n → fr t = false → P t = -1
  yes : ∀ t, t < n → fr t = true → (∃ m : Nat, m < s ∧ P t = (m : Int) ∧ Rch N t m ∧ ∀ u, Rch N t u → m ≤ u) ∨ (P t = -1 ∧ ∀ u, Rch N t u → s ≤ u)
theorem Upto.start {n : Nat} {N : Nat → Nat → Prop} {fr : Nat → Bool} {P : Nat → Int} (h : ∀ t, t < n → P t = -1) : Upto n N fr 0 P :=
  ⟨fun t ht _ => h t ht, fun t ht _ => Or.inr ⟨h t ht, fun u _ => Nat.zero_le u⟩⟩
theorem Upto.all {n : Nat} {N : Nat → Nat → Prop} {fr : Nat → Bool} {P : Nat → Int} (h : Upto n N fr n P) (hs : ∀ a b, N a b → N b a) : IsPart n N fr P := by
  refine ⟨h.no, fun t ht e => ?_⟩
  rcases h.yes t ht e with ⟨m, _, e1, r, l⟩ | ⟨_, l⟩
  · exact ⟨m, e1, r, l⟩
  · exact absurd (l t .refl) (by omega)
/-- Nothing is to be filled from s. -/
theorem Upto.skip {n s : Nat} {N : Nat → Nat → Prop} {fr : Nat → Bool} {P : Nat → Int} (h : Upto n N fr s P) (hs : ∀ a b, N a b → N b a) (hf : ∀ a b, N a b → fr a = true ∧ fr b = true) (hlt : s < n) (hk : fr s = false ∨ 0 ≤ P s) : Upto n N fr (s + 1) P := by
  refine ⟨h.no, fun t ht e => ?_⟩
  rcases h.yes t ht e with ⟨m, hm, e1, r, l⟩ | ⟨e1, l⟩
  · exact Or.inl ⟨m, by omega, e1, r, l⟩
  · refine Or.inr ⟨e1, fun u hu => ?_⟩
    have h1 := l u hu
    by_cases c : u = s
    · subst c
      exfalso
      have hfu := hu.free hf e
      rcases hk with hk | hk
      · rw [hk] at hfu; cases hfu
      · rcases h.yes u hlt hfu with ⟨m, hm, e2, r2, l2⟩ | ⟨e2, l2⟩
        · have := l m (hu.trans r2)
          omega
        · omega
    · omega
/-- While it is filled from s: what waits, what is done. -/
structure Fil (n : Nat) (N : Nat → Nat → Prop) (s : Nat) (P0 P : Nat → Int) (wait : Nat → Prop) : Prop where
  old : ∀ t, t < n → P t = P0 t ∨ (P t = (s : Int) ∧ Rch N s t)
  at0 : P s = (s : Int)
  keep : ∀ t, t < n → 0 ≤ P0 t → P t = P0 t
  rel : ∀ t, t < n → Rch N s t → P t = (s : Int) → wait t ∨ ∀ u, N t u → 0 ≤ P u
theorem Upto.fill {n s : Nat} {N : Nat → Nat → Prop} {fr : Nat → Bool} {P0 P : Nat → Int} {wait : Nat → Prop} (h : Upto n N fr s P0) (hs : ∀ a b, N a b → N b a) (hb : ∀ a b, N a b → b < n) (hf : ∀ a b, N a b → fr a = true ∧ fr b = true) (hlt : s < n) (hfs : fr s = true) (h0 : P0 s < 0)
    (k : Fil n N s P0 P wait) (hw : ∀ t, ¬ wait t) : Upto n N fr (s + 1) P := by
  -- all that s can come to is called by s
  have hl : ∀ u, Rch N s u → s ≤ u := by
    rcases h.yes s hlt hfs with ⟨m, _, e, _⟩ | ⟨_, l⟩
    · omega
    · exact l
  have hm1 : ∀ t, Rch N s t → P0 t = -1 := fun t ht => by
    have htn := ht.lt hb hlt
    rcases h.yes t htn (ht.free hf hfs) with ⟨m, hm, e, r, l⟩ | ⟨e, _⟩
    · have := hl m (ht.trans r)
      omega
    · exact e
  have hall : ∀ t, Rch N s t → P t = (s : Int) := fun t ht => by
    induction ht with
    | refl => exact k.at0
    | @step u v hu hn ih =>
      have hun := hu.lt hb hlt
      have hvn := hb _ _ hn
      rcases k.rel u hun hu ih with hw' | hr
      · exact absurd hw' (hw u)
      · have h1 := hr v hn
        rcases k.old v hvn with e | ⟨e, _⟩
        · rw [e, hm1 v (hu.step hn)] at h1
          omega
        · exact e
  refine ⟨fun t ht e => ?_, fun t ht e => ?_⟩
  · rcases k.old t ht with q | ⟨_, r⟩
    · rw [q]; exact h.no t ht e
    · have := r.free hf hfs
      rw [e] at this
      cases this
  · by_cases c : Rch N s t
    · exact Or.inl ⟨s, by omega, hall t c, c.symm hs, fun u hu => hl u (c.trans hu)⟩
    · have hq : P t = P0 t := by
        rcases k.old t ht with q | ⟨_, r⟩
        · exact q
        · exact absurd r c
      rw [hq]
      rcases h.yes t ht e with ⟨m, hm, e1, r, l⟩ | ⟨e1, l⟩
      · exact Or.inl ⟨m, by omega, e1, r, l⟩
      · refine Or.inr ⟨e1, fun u hu => ?_⟩
        have h1 := l u hu
        by_cases d : u = s
        · subst d
          exact absurd (hu.symm hs) c
        · omega
/-- The least numbers spread till nothing changes: that is it, too. -/
structure Spr (n : Nat) (N : Nat → Nat → Prop) (fr : Nat → Bool) (P : Nat → Int) : Prop where
  no : ∀ t, t < n → fr t = false → P t = -1
  yes : ∀ t, t < n → fr t = true → ∃ m : Nat, P t = (m : Int) ∧ Rch N t m ∧ m ≤ t
theorem Spr.done {n : Nat} {N : Nat → Nat → Prop} {fr : Nat → Bool} {P : Nat → Int} (h : Spr n N fr P) (hs : ∀ a b, N a b → N b a) (hb : ∀ a b, N a b → b < n) (hf : ∀ a b, N a b → fr a = true ∧ fr b = true) (hd : ∀ t u, t < n → N t u → P t ≤ P u) : IsPart n N fr P := by
  have hle : ∀ t u, t < n → Rch N t u → P t ≤ P u := fun t u ht r => by
    induction r with
    | refl => exact Int.le_refl _
    | @step u v hu hn ih => exact Int.le_trans ih (hd u v (hu.lt hb ht) hn)
  refine ⟨h.no, fun t ht e => ?_⟩
  obtain ⟨m, e1, r, hm⟩ := h.yes t ht e
  refine ⟨m, e1, r, fun u hu => ?_⟩
  have hun := hu.lt hb ht
  obtain ⟨k, e2, _, hk⟩ := h.yes u hun (hu.free hf e)
  have := hle t u ht hu
  omega
theorem Spr.start {n : Nat} {N : Nat → Nat → Prop} {fr : Nat → Bool} : Spr n N fr (fun t => if fr t = true then (t : Int) else -1) :=
  ⟨fun t _ e => by simp [e], fun t _ e => ⟨t, by simp [e], .refl, Nat.le_refl _⟩⟩
theorem Spr.take {n t u : Nat} {N : Nat → Nat → Prop} {fr : Nat → Bool} {P : Nat → Int} (h : Spr n N fr P) (hf : ∀ a b, N a b → fr a = true ∧ fr b = true) (hn : N t u) (hu : u < n) (hl : P u < P t) : Spr n N fr (fun k => if k = t then P u else P k) := by
  refine ⟨fun k hk e => ?_, fun k hk e => ?_⟩
  · by_cases c : k = t
    · subst c
      rw [(hf _ _ hn).1] at e
      cases e
    · simp only [if_neg c]; exact h.no k hk e
  · by_cases c : k = t
    · subst c
      simp only [if_pos rfl]
      obtain ⟨m, e1, r1, _⟩ := h.yes u hu (hf _ _ hn).2
      obtain ⟨j, e2, _, hj⟩ := h.yes k hk e
      exact ⟨m, e1, (Rch.step .refl hn).trans r1, by omega⟩
    · simp only [if_neg c]; exact h.yes k hk e
end Go.Proofs.Ytifnmgbeepgfiaa
/- Plain words of layer 10: filling, neighbour by neighbour. -/
namespace Go.Proofs.Ytifnmgbeepgfiaa
open Go.RowKit
set_option linter.unusedVariables false
set_option linter.unusedSimpArgs false
def updP (P : Nat → Int) (v : Nat) (x : Int) (k : Nat) : Int := if k = v then x else P k
theorem updP_at (P : Nat → Int) (v : Nat) (x : Int) : updP P v x v = x := if_pos rfl
theorem updP_far {P : Nat → Int} {v k : Nat} {x : Int} (h : k ≠ v) : updP P v x k = P k := if_neg h
/-- In a tile u, j of its neighbours done (M u is their list). -/
structure FilJ (n : Nat) (N : Nat → Nat → Prop) (M : Nat → List Nat) (fr : Nat → Bool) (s : Nat) (P0 P : Nat → Int) (L : List Nat) (u j : Nat) : Prop where
  old : ∀ t, t < n → P t = P0 t ∨ (P t = (s : Int) ∧ Rch N s t)
  at0 : P s = (s : Int)
  keep : ∀ t, t < n → 0 ≤ P0 t → P t = P0 t
  rel : ∀ t, t < n → Rch N s t → P t = (s : Int) → t ∈ L ∨ (t = u ∧ ∀ i (h : i < j) (h' : i < (M u).length), fr ((M u)[i]) = true → 0 ≤ P ((M u)[i])) ∨ ∀ v, N t v → 0 ≤ P v
  ru : Rch N s u
  wl : ∀ t, t ∈ L → t < n ∧ Rch N s t
/-- Between two tiles. -/
structure FilL (n : Nat) (N : Nat → Nat → Prop) (s : Nat) (P0 P : Nat → Int) (L : List Nat) : Prop where
  f : Fil n N s P0 P (fun t => t ∈ L)
  wl : ∀ t, t ∈ L → t < n ∧ Rch N s t
section
variable {n s u j : Nat} {N : Nat → Nat → Prop} {M : Nat → List Nat} {fr : Nat → Bool} {P0 P : Nat → Int} {L : List Nat}
theorem FilL.start (h : P0 s < 0) (hn : ∀ t, t < n → Rch N s t → P0 t ≠ (s : Int)) (hs : s < n) : FilL n N s P0 (updP P0 s s) [s] := by
  refine ⟨⟨fun t ht => ?_, updP_at _ _ _, fun t ht hk => ?_, fun t ht hr hp => ?_⟩, fun t ht => ?_⟩
  · by_cases e : t = s
    · subst e; exact Or.inr ⟨updP_at _ _ _, .refl⟩
    · exact Or.inl (updP_far e)
  · by_cases e : t = s
    · subst e; omega
    · exact updP_far e
  · by_cases e : t = s
    · subst e; exact Or.inl (List.mem_singleton.2 rfl)
    · rw [updP_far e] at hp
      exact absurd hp (hn t ht hr)
  · have := List.mem_singleton.1 ht
    subst this
    exact ⟨hs, .refl⟩
theorem FilL.pop (h : FilL n N s P0 P (L ++ [u])) : FilJ n N M fr s P0 P L u 0 := by
  refine ⟨h.f.old, h.f.at0, h.f.keep, fun t ht hr hp => ?_, (h.wl u (by simp)).2, fun t ht => h.wl t (List.mem_append_left _ ht)⟩
  rcases h.f.rel t ht hr hp with q | q
  · rcases List.mem_append.1 q with q | q
    · exact Or.inl q
    · exact Or.inr (Or.inl ⟨List.mem_singleton.1 q, fun i hi => by omega⟩)
  · exact Or.inr (Or.inr q)
theorem FilJ.put (h : FilJ n N M fr s P0 P L u j) (hj : j < (M u).length) (hv : (M u)[j] < n) (hN : N u ((M u)[j])) (hp : P ((M u)[j]) < 0) : FilJ n N M fr s P0 (updP P ((M u)[j]) s) (L ++ [(M u)[j]]) u (j + 1) := by
  generalize hx : (M u)[j] = x at *
  have hup : ∀ k, 0 ≤ P k → 0 ≤ updP P x s k := fun k hk => by
    by_cases e : k = x
    · subst e; omega
    · rw [updP_far e]; exact hk
  refine ⟨fun t ht => ?_, ?_, fun t ht hk => ?_, fun t ht hr hp2 => ?_, h.ru, fun t ht => ?_⟩
  · by_cases e : t = x
    · subst e; exact Or.inr ⟨updP_at _ _ _, h.ru.step hN⟩
    · rw [updP_far e]; exact h.old t ht
  · by_cases e : s = x
    · rw [← e]; exact updP_at _ _ _
    · rw [updP_far e]; exact h.at0
  · have h1 := h.keep t ht hk
    by_cases e : t = x
    · subst e; omega
    · rw [updP_far e]; exact h1
  · by_cases e : t = x
    · subst e; exact Or.inl (List.mem_append_right _ (List.mem_singleton.2 rfl))
    · rw [updP_far e] at hp2
      rcases h.rel t ht hr hp2 with q | ⟨q, q2⟩ | q
      · exact Or.inl (List.mem_append_left _ q)
      · refine Or.inr (Or.inl ⟨q, fun i hi hi' hf => ?_⟩)
        by_cases c : i < j
        · exact hup _ (q2 i c hi' hf)
        · have : i = j := by omega
          subst this
          rw [hx, updP_at]
          omega
      · exact Or.inr (Or.inr fun v hv2 => hup v (q v hv2))
  · rcases List.mem_append.1 ht with q | q
    · exact h.wl t q
    · have := List.mem_singleton.1 q
      subst this
      exact ⟨hv, h.ru.step hN⟩
theorem FilJ.skip (h : FilJ n N M fr s P0 P L u j) (hk : ∀ hj : j < (M u).length, fr ((M u)[j]) = false ∨ 0 ≤ P ((M u)[j])) : FilJ n N M fr s P0 P L u (j + 1) := by
  refine ⟨h.old, h.at0, h.keep, fun t ht hr hp => ?_, h.ru, h.wl⟩
  rcases h.rel t ht hr hp with q | ⟨q, q2⟩ | q
  · exact Or.inl q
  · refine Or.inr (Or.inl ⟨q, fun i hi hi' hf => ?_⟩)
    by_cases c : i < j
    · exact q2 i c hi' hf
    · have : i = j := by omega
      subst this
      rcases hk hi' with e | e
      · rw [e] at hf; cases hf
      · exact e
  · exact Or.inr (Or.inr q)
theorem FilJ.done (h : FilJ n N M fr s P0 P L u j) (hj : (M u).length ≤ j) (hN : ∀ v, N u v → v ∈ M u ∧ fr v = true) : FilL n N s P0 P L := by
  refine ⟨⟨h.old, h.at0, h.keep, fun t ht hr hp => ?_⟩, h.wl⟩
  rcases h.rel t ht hr hp with q | ⟨q, q2⟩ | q
  · exact Or.inl q
  · subst q
    refine Or.inr fun v hv => ?_
    obtain ⟨hm, hf⟩ := hN v hv
    obtain ⟨i, hi, he⟩ := List.getElem_of_mem hm
    have := q2 i (by omega) hi (by rw [he]; exact hf)
    rw [he] at this
    exact this
  · exact Or.inr q
theorem FilL.end_ (h : FilL n N s P0 P []) : Fil n N s P0 P (fun _ => False) :=
  ⟨h.f.old, h.f.at0, h.f.keep, fun t ht hr hp => by
    rcases h.f.rel t ht hr hp with q | q
    · cases q
    · exact Or.inr q⟩
/-- How many are not called yet. -/
def negP (P : Nat → Int) : Nat → Nat
  | 0 => 0
  | k + 1 => negP P k + (if P k < 0 then 1 else 0)
theorem negP_le (P : Nat → Int) : ∀ n, negP P n ≤ n
  | 0 => Nat.le_refl _
  | k + 1 => by
    have := negP_le P k
    unfold negP
    split <;> omega
theorem negP_far {P : Nat → Int} {v : Nat} {x : Int} : ∀ {n}, n ≤ v → negP (updP P v x) n = negP P n
  | 0, _ => rfl
  | k + 1, h => by
    show negP (updP P v x) k + _ = negP P k + _
    rw [negP_far (n := k) (by omega), updP_far (by omega)]
theorem negP_put {P : Nat → Int} {v : Nat} {x : Int} (hx : 0 ≤ x) (hv : P v < 0) : ∀ {n}, v < n → negP (updP P v x) n + 1 = negP P n
  | 0, h => by omega
  | k + 1, h => by
    show negP (updP P v x) k + _ + 1 = negP P k + _
    by_cases e : k = v
    · subst e
      rw [negP_far (Nat.le_refl _), updP_at, if_neg (by omega), if_pos hv]
    · have := negP_put (P := P) hx hv (n := k) (by omega)
      rw [updP_far e]
      omega
end
end Go.Proofs.Ytifnmgbeepgfiaa
/- Plain words of layer 10: neighbours within a sector. -/
namespace Go.Proofs.Ytifnmgbeepgfiaa
open Go.RowKit
set_option linter.unusedVariables false
set_option linter.unusedSimpArgs false
/-- Side by side. -/
def adjS (W : Int) (a b : Nat) : Prop := ((a : Int) % W = (b : Int) % W ∧ ((a : Int) / W = (b : Int) / W + 1 ∨ (b : Int) / W = (a : Int) / W + 1)) ∨ ((a : Int) / W = (b : Int) / W ∧ ((a : Int) % W = (b : Int) % W + 1 ∨ (b : Int) % W = (a : Int) % W + 1))
/-- Of one sector. -/
def secS (W : Int) (a b : Nat) : Prop := (a : Int) % W / 8 = (b : Int) % W / 8 ∧ (a : Int) / W / 8 = (b : Int) / W / 8
/-- Free, side by side, of one sector. -/
def nbN (W : Int) (n : Nat) (fr : Nat → Bool) (a b : Nat) : Prop := (a < n ∧ b < n) ∧ (fr a = true ∧ fr b = true) ∧ secS W a b ∧ adjS W a b
theorem nbN_symm {W : Int} {n : Nat} {fr : Nat → Bool} : ∀ a b, nbN W n fr a b → nbN W n fr b a := fun a b h => by
  obtain ⟨⟨h1, h2⟩, ⟨h3, h4⟩, ⟨h5, h6⟩, h7⟩ := h
  refine ⟨⟨h2, h1⟩, ⟨h4, h3⟩, ⟨h5.symm, h6.symm⟩, ?_⟩
  unfold adjS at *
  omega
theorem nbN_lt {W : Int} {n : Nat} {fr : Nat → Bool} : ∀ a b, nbN W n fr a b → b < n := fun a b h => h.1.2
theorem nbN_free {W : Int} {n : Nat} {fr : Nat → Bool} : ∀ a b, nbN W n fr a b → fr a = true ∧ fr b = true := fun a b h => h.2.1
theorem mem_if {α : Type} {x y : α} {p : Prop} [Decidable p] : x ∈ (if p then [y] else []) ↔ p ∧ x = y := by
  by_cases h : p
  · simp [h]
  · simp [h]
theorem bes4_iff {W H t x y u : Int} : u ∈ bes4 W H t x y ↔ (0 < y % 8 ∧ u = t - W) ∨ ((x + 1 < W ∧ 0 < (x + 1) % 8) ∧ u = t + 1) ∨ ((y + 1 < H ∧ 0 < (y + 1) % 8) ∧ u = t + W) ∨ (0 < x % 8 ∧ u = t - 1) := by
  unfold bes4 bes3 bes2 bes1
  simp only [List.mem_append, mem_if]
  constructor
  · rintro (((h | h) | h) | h)
    · exact Or.inl h
    · exact Or.inr (Or.inl h)
    · exact Or.inr (Or.inr (Or.inl h))
    · exact Or.inr (Or.inr (Or.inr h))
  · rintro (h | h | h | h)
    · exact Or.inl (Or.inl (Or.inl h))
    · exact Or.inl (Or.inl (Or.inr h))
    · exact Or.inl (Or.inr h)
    · exact Or.inr h
theorem at_uniq {W x y x' y' : Int} (hW : 1 ≤ W) (x0 : 0 ≤ x) (x1 : x < W) (x2 : 0 ≤ x') (x3 : x' < W) (h : x + W * y = x' + W * y') : x = x' ∧ y = y' := by
  have a : (x + W * y) % W = x := by rw [Int.add_mul_emod_self_left, Int.emod_eq_of_lt x0 x1]
  have b : (x' + W * y') % W = x' := by rw [Int.add_mul_emod_self_left, Int.emod_eq_of_lt x2 x3]
  have c : (x + W * y) / W = y := by rw [Int.add_mul_ediv_left _ _ (by omega), Int.ediv_eq_zero_of_lt x0 x1]; omega
  have d : (x' + W * y') / W = y' := by rw [Int.add_mul_ediv_left _ _ (by omega), Int.ediv_eq_zero_of_lt x2 x3]; omega
  rw [h] at a c
  exact ⟨by omega, by omega⟩
theorem xy_of20 {W x y : Int} {j : Nat} (h : (j : Int) = x + W * y) (x0 : 0 ≤ x) (x1 : x < W) : (j : Int) % W = x ∧ (j : Int) / W = y := by
  rw [h, Int.add_mul_emod_self_left, Int.add_mul_ediv_left _ _ (by omega), Int.emod_eq_of_lt x0 x1, Int.ediv_eq_zero_of_lt x0 x1]
  exact ⟨rfl, by omega⟩
/-- The list of a tile's neighbours holds just those of its sector. -/
theorem bes_mem {W H : Int} {n t : Nat} (hW : 1 ≤ W) (hn : (n : Int) = W * H) (ht : t < n) {u : Int} : u ∈ bes4 W H t ((t : Int) % W) ((t : Int) / W) ↔ ∃ b : Nat, u = (b : Int) ∧ b < n ∧ secS W t b ∧ adjS W t b := by
  have x0 := Int.emod_nonneg (t : Int) (show W ≠ 0 by omega)
  have x1 := Int.emod_lt_of_pos (t : Int) (show 0 < W by omega)
  have y0 : 0 ≤ (t : Int) / W := Int.ediv_nonneg (by omega) (by omega)
  have y1 : (t : Int) / W < H := Int.ediv_lt_of_lt_mul (by omega) (by rw [Int.mul_comm]; omega)
  have em := Int.emod_add_mul_ediv (t : Int) W
  rw [bes4_iff]
  constructor
  · have key : ∀ x y : Int, u = x + W * y → 0 ≤ x → x < W → 0 ≤ y → y < H → ((t : Int) % W / 8 = x / 8 ∧ (t : Int) / W / 8 = y / 8) → (((t : Int) % W = x ∧ ((t : Int) / W = y + 1 ∨ y = (t : Int) / W + 1)) ∨ ((t : Int) / W = y ∧ ((t : Int) % W = x + 1 ∨ x = (t : Int) % W + 1))) → ∃ b : Nat, u = (b : Int) ∧ b < n ∧ secS W t b ∧ adjS W t b := by
      intro x y hu a b c d e f
      have q : W * (y + 1) ≤ W * H := Int.mul_le_mul_of_nonneg_left (by omega) (by omega)
      have q2 : 0 ≤ W * y := Int.mul_nonneg (by omega) c
      rw [Int.mul_add] at q
      obtain ⟨b', hb⟩ : ∃ b' : Nat, u = (b' : Int) := ⟨u.toNat, by omega⟩
      have hb2 : (b' : Int) = x + W * y := by omega
      obtain ⟨bx, by'⟩ := xy_of20 hb2 a b
      refine ⟨b', hb, by omega, ?_, ?_⟩
      · unfold secS; rw [bx, by']; exact e
      · unfold adjS; rw [bx, by']; exact f
    generalize (t : Int) % W = x at *
    generalize (t : Int) / W = y at *
    rintro (⟨h, e⟩ | ⟨⟨h, h2⟩, e⟩ | ⟨⟨h, h2⟩, e⟩ | ⟨h, e⟩)
    · exact key x (y - 1) (by rw [e, Int.mul_sub]; omega) x0 x1 (by omega) (by omega) (by omega) (by omega)
    · exact key (x + 1) y (by omega) (by omega) (by omega) y0 y1 (by omega) (by omega)
    · exact key x (y + 1) (by rw [e, Int.mul_add]; omega) x0 x1 (by omega) (by omega) (by omega) (by omega)
    · exact key (x - 1) y (by omega) (by omega) (by omega) y0 y1 (by omega) (by omega)
  · rintro ⟨b, rfl, hb, ⟨s1, s2⟩, ha⟩
    have bx0 := Int.emod_nonneg (b : Int) (show W ≠ 0 by omega)
    have bx1 := Int.emod_lt_of_pos (b : Int) (show 0 < W by omega)
    have by0 : 0 ≤ (b : Int) / W := Int.ediv_nonneg (by omega) (by omega)
    have by1 : (b : Int) / W < H := Int.ediv_lt_of_lt_mul (by omega) (by rw [Int.mul_comm]; omega)
    have eb := Int.emod_add_mul_ediv (b : Int) W
    unfold adjS at ha
    generalize (t : Int) % W = x at *
    generalize (t : Int) / W = y at *
    generalize (b : Int) % W = bx at *
    generalize (b : Int) / W = by' at *
    rcases ha with ⟨e, e2 | e2⟩ | ⟨e, e2 | e2⟩
    · left
      subst e e2
      rw [Int.mul_add] at em
      exact ⟨by omega, by omega⟩
    · right; right; left
      subst e e2
      rw [Int.mul_add] at eb
      exact ⟨⟨by omega, by omega⟩, by omega⟩
    · right; right; right
      subst e e2
      exact ⟨by omega, by omega⟩
    · right; left
      subst e e2
      exact ⟨⟨by omega, by omega⟩, by omega⟩
/-- Two numbers of sectors are one where the sectors are. -/
theorem ofS_iff {W : Int} {a b : Nat} (hW : 1 ≤ W) : Fx.ofS W a = Fx.ofS W b ↔ secS W a b := by
  have a0 := Int.emod_nonneg (a : Int) (show W ≠ 0 by omega)
  have a1 := Int.emod_lt_of_pos (a : Int) (show 0 < W by omega)
  have b0 := Int.emod_nonneg (b : Int) (show W ≠ 0 by omega)
  have b1 := Int.emod_lt_of_pos (b : Int) (show 0 < W by omega)
  unfold Fx.ofS secS
  constructor
  · intro h
    exact at_uniq (by unfold Fx.acS; omega) (by omega) (by unfold Fx.acS; omega) (by omega) (by unfold Fx.acS; omega) h
  · rintro ⟨e1, e2⟩
    rw [e1, e2]
end Go.Proofs.Ytifnmgbeepgfiaa
