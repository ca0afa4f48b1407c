import Derived.Deep.QuietTactic
import Derived.BigQuiet
import Derived.Deep.RegionWith
import Derived.Deep.RegionHeld3
import Derived.Deep.DeepCutAuto
import Derived.Deep.DeepFit
import Derived.Outline
import Derived.Test.YtdpblimhfmfbnaaZtd
import Derived.Test.YtdpblimhfmfbnaaZtf
import Derived.Test.YtdpblimhfmfbnaaZta
import Derived.Test.YtdpblimhfmfbnaaZtt
import Derived.Test.YtdpblimhfmfbnaaZth
import Derived.Test.YtdpblimhfmfbnaaZto
import Derived.Shelf.SlSortCmp.WholeK
/- Layer 13: two lists of one's own that grow side by side: rows of numbers, their goals. -/
namespace Go.Proofs.Ytdpblimhfmfbnaa
open Go.ChangeShapes Go.WideShapes Go.ChangeAt Go.RowKit Go.Deep
set_option linter.unusedVariables false
set_option linter.unusedSimpArgs false
def lFq (J : Nat → Nat) (n m : Nat) : List Value := (List.range m).map fun j => .slice (some ⟨J j, 0, none⟩) n n
def lTq (G : Nat → Nat) (m : Nat) : List Value := (List.range m).map fun j => .int .i64 (G j)
def setF {α : Type} (F : Nat → α) (k : Nat) (x : α) (j : Nat) : α := if j = k then x else F j
theorem setF_at {α : Type} (F : Nat → α) (k : Nat) (x : α) : setF F k x k = x := if_pos rfl
theorem setF_far {α : Type} {F : Nat → α} {k j : Nat} {x : α} (h : j ≠ k) : setF F k x j = F j := if_neg h
theorem lFq_set (J : Nat → Nat) (n m x : Nat) : lFq (setF J m x) n (m + 1) = lFq J n m ++ [.slice (some ⟨x, 0, none⟩) n n] := by
  unfold lFq
  rw [List.range_succ, List.map_append]
  congr 1
  · exact List.map_congr_left fun j hj => by rw [setF_far (by have := List.mem_range.1 hj; omega)]
  · simp [setF_at]
theorem lTq_set (G : Nat → Nat) (m x : Nat) : lTq (setF G m x) (m + 1) = lTq G m ++ [.int .i64 x] := by
  unfold lTq
  rw [List.range_succ, List.map_append]
  congr 1
  · exact List.map_congr_left fun j hj => by rw [setF_far (by have := List.mem_range.1 hj; omega)]
  · simp [setF_at]
/-- m rows of n numbers, and k goals. -/
structure Fq (w : World) (S n : Nat) (v v' : Value) (m k : Nat) (G J : Nat → Nat) (D : Nat → Nat → Int) : Prop where
  rf : w.ownsRow S 25 1 v m (lFq J n m)
  rt : w.ownsRow S 3 1 v' k (lTq G k)
  ap : v.ownBlock = none ∨ v'.ownBlock = none ∨ v.ownBlock ≠ v'.ownBlock
  ar : ∀ j, j < m → v.ownBlock ≠ some (J j) ∧ v'.ownBlock ≠ some (J j) ∧ Arr w (J j) n 3 (fun t => .int .i64 (D j t))
theorem Fq.nil (w : World) (S n : Nat) (G J : Nat → Nat) (D : Nat → Nat → Int) : Fq w S n (.slice none 0 0) (.slice none 0 0) 0 0 G J D :=
  ⟨⟨rfl, Or.inl ⟨rfl, rfl⟩⟩, ⟨rfl, Or.inl ⟨rfl, rfl⟩⟩, Or.inl rfl, fun j hj => absurd hj (by omega)⟩
theorem Fq.drew {w : World} {S n m k : Nat} {v v' : Value} {G J : Nat → Nat} {D : Nat → Nat → Int} (h : Fq w S n v v' m k G J D) : Fq w.drew S n v v' m k G J D := ⟨h.rf, h.rt, h.ap, fun j hj => ⟨(h.ar j hj).1, (h.ar j hj).2.1, (h.ar j hj).2.2.drew⟩⟩
theorem Fq.drewN {w : World} {S n m k : Nat} {v v' : Value} {G J : Nat → Nat} {D : Nat → Nat → Int} (h : Fq w S n v v' m k G J D) (q : Nat) : Fq (w.drewN q) S n v v' m k G J D := ⟨h.rf, h.rt, h.ap, fun j hj => ⟨(h.ar j hj).1, (h.ar j hj).2.1, (h.ar j hj).2.2.drewN q⟩⟩
theorem Fq.later {w w' : World} {S n m k : Nat} {v v' : Value} {G J : Nat → Nat} {D : Nat → Nat → Int} (h : Fq w S n v v' m k G J D) (hb : Below w.heap.size w w') : Fq w' S n v v' m k G J D :=
  ⟨(Fr.of_below hb).row h.rf (fun j hj hm => by have := (h.rf.lt j hj).2; omega), (Fr.of_below hb).row h.rt (fun j hj hm => by have := (h.rt.lt j hj).2; omega), h.ap, fun j hj => ⟨(h.ar j hj).1, (h.ar j hj).2.1, (h.ar j hj).2.2.later hb⟩⟩
theorem arr_grown {w w' : World} {g n : Nat} {T : TypeId} {f : Nat → Value} {row : Option Nat} (h : Arr w g n T f) (k : w.grownBy w' row) (hg : row ≠ some g) : Arr w' g n T f :=
  h.of_block (k.block g h.lt (fun e => hg e.symm))
theorem ne_fresh {u : Option Nat} {B I : Nat} (h : u = some B) (hB : I < B) : u ≠ some I := by
  rw [h]
  intro e
  injection e with e
  omega
/-- A row more. -/
theorem Fq.step1 {w z : World} {S n m k I : Nat} {v v' u : Value} {G J : Nat → Nat} {D : Nat → Nat → Int} {E : Nat → Int} (h : Fq w S n v v' m k G J D) (hI : Arr w I n 3 (fun t => .int .i64 (E t))) (h1 : v.ownBlock ≠ some I) (h2 : v'.ownBlock ≠ some I)
    (hown : z.ownsRow S 25 1 u (m + 1) (lFq J n m ++ [.slice (some ⟨I, 0, none⟩) n n])) (hg : w.grownBy z v.ownBlock) (hat : u.ownBlock = v.ownBlock ∨ u.ownBlock = some w.heap.size) : Fq z S n u v' (m + 1) k G (setF J m I) (setF D m E) := by
  refine ⟨by rw [lFq_set]; exact hown, h.rt.kept hg ?_, ?_, fun j hj => ?_⟩
  · rcases h.ap with e | e | e
    · by_cases c : v'.ownBlock = none
      · exact Or.inl c
      · right; rw [e]; exact c
    · exact Or.inl e
    · exact Or.inr fun e' => e e'.symm
  · rcases hat with e | e
    · rw [e]; exact h.ap
    · right
      by_cases c : v'.ownBlock = none
      · exact Or.inl c
      right
      rw [e]
      intro e'
      have := (h.rt.lt _ e'.symm).2
      omega
  · by_cases e : j = m
    · subst e
      rw [setF_at, setF_at]
      refine ⟨?_, h2, arr_grown hI hg h1⟩
      rcases hat with e | e
      · rw [e]; exact h1
      · exact ne_fresh e hI.lt
    · rw [setF_far e, setF_far e]
      obtain ⟨a1, a2, a3⟩ := h.ar j (by omega)
      refine ⟨?_, a2, arr_grown a3 hg a1⟩
      rcases hat with e | e
      · rw [e]; exact a1
      · exact ne_fresh e a3.lt
/-- A goal more. -/
theorem Fq.step2 {w z : World} {S n m k g : Nat} {v v' u : Value} {G J : Nat → Nat} {D : Nat → Nat → Int} (h : Fq w S n v v' m k G J D)
    (hown : z.ownsRow S 3 1 u (k + 1) (lTq G k ++ [.int .i64 g])) (hg : w.grownBy z v'.ownBlock) (hat : u.ownBlock = v'.ownBlock ∨ u.ownBlock = some w.heap.size) : Fq z S n v u m (k + 1) (setF G k g) J D := by
  refine ⟨h.rf.kept hg ?_, by rw [lTq_set]; exact hown, ?_, fun j hj => ?_⟩
  · rcases h.ap with e | e | e
    · exact Or.inl e
    · by_cases c : v.ownBlock = none
      · exact Or.inl c
      · right; rw [e]; exact c
    · exact Or.inr e
  · rcases hat with e | e
    · rw [e]; exact h.ap
    · by_cases c : v.ownBlock = none
      · exact Or.inl c
      right
      right
      rw [e]
      intro e'
      have := (h.rf.lt _ e').2
      omega
  · obtain ⟨a1, a2, a3⟩ := h.ar j hj
    refine ⟨a1, ?_, arr_grown a3 hg a2⟩
    rcases hat with e | e
    · rw [e]; exact a2
    · exact ne_fresh e a3.lt
/-- A row waits to be put in. -/
structure FqI (w : World) (S n : Nat) (v v' : Value) (m k : Nat) (G J : Nat → Nat) (D : Nat → Nat → Int) (I : Nat) (E : Nat → Int) : Prop extends Fq w S n v v' m k G J D where
  ai : Arr w I n 3 (fun t => .int .i64 (E t))
  n1 : v.ownBlock ≠ some I
  n2 : v'.ownBlock ≠ some I
section
variable {w w' z : World} {S n m k I g : Nat} {v v' u : Value} {G J : Nat → Nat} {D : Nat → Nat → Int} {E : Nat → Int}
theorem FqI.later (h : FqI w S n v v' m k G J D I E) (hb : Below w.heap.size w w') : FqI w' S n v v' m k G J D I E := ⟨h.toFq.later hb, h.ai.later hb, h.n1, h.n2⟩
theorem FqI.of (h : Fq w S n v v' m k G J D) (hb : Below w.heap.size w w') (hI : w.heap.size ≤ I) (ha : Arr w' I n 3 (fun t => .int .i64 (E t))) : FqI w' S n v v' m k G J D I E :=
  ⟨h.later hb, ha, fun e => by have := (h.rf.lt _ e).2; omega, fun e => by have := (h.rt.lt _ e).2; omega⟩
theorem FqI.step1 (h : FqI w S n v v' m k G J D I E) (hown : z.ownsRow S 25 1 u (m + 1) (lFq J n m ++ [.slice (some ⟨I, 0, none⟩) n n])) (hg : w.grownBy z v.ownBlock) (hat : u.ownBlock = v.ownBlock ∨ u.ownBlock = some w.heap.size) : Fq z S n u v' (m + 1) k G (setF J m I) (setF D m E) :=
  h.toFq.step1 h.ai h.n1 h.n2 hown hg hat
theorem FqI.step2 (h : FqI w S n v v' m k G J D I E) (hown : z.ownsRow S 3 1 u (k + 1) (lTq G k ++ [.int .i64 g])) (hg : w.grownBy z v'.ownBlock) (hat : u.ownBlock = v'.ownBlock ∨ u.ownBlock = some w.heap.size) : FqI z S n v u m (k + 1) (setF G k g) J D I E := by
  refine ⟨h.toFq.step2 hown hg hat, arr_grown h.ai hg h.n2, h.n1, ?_⟩
  rcases hat with e | e
  · rw [e]; exact h.n2
  · exact ne_fresh e h.ai.lt
end
theorem Fq.form {w : World} {S n m : Nat} {v v' : Value} {G J : Nat → Nat} {D : Nat → Nat → Int} (h : Fq w S n v v' m m G J D) : ∃ a c a' c', v = .slice a m c ∧ v' = .slice a' m c' ∧ (0 < m → ∃ g g', a = some ⟨g, 0, none⟩ ∧ a' = some ⟨g', 0, none⟩) := by
  rcases h.rf.2 with ⟨e, h0⟩ | ⟨g, cap, cur, e, _⟩
  · rcases h.rt.2 with ⟨e', _⟩ | ⟨g', cap', cur', e', _⟩
    · subst h0; exact ⟨_, _, _, _, e, e', fun h => absurd h (by omega)⟩
    · subst h0; exact ⟨_, _, _, _, e, e', fun h => absurd h (by omega)⟩
  · rcases h.rt.2 with ⟨e', h0⟩ | ⟨g', cap', cur', e', _⟩
    · subst h0; exact ⟨_, _, _, _, e, e', fun h => absurd h (by omega)⟩
    · exact ⟨_, _, _, _, e, e', fun h => ⟨g, g', rfl, rfl⟩⟩
theorem Fq.c1 {w : World} {S n m g c j : Nat} {v' : Value} {G J : Nat → Nat} {D : Nat → Nat → Int} (h : Fq w S n (.slice (some ⟨g, 0, none⟩) m c) v' m m G J D) (hj : j < m) : w.cell? ⟨g, j, none⟩ = some (.slice (some ⟨J j, 0, none⟩) n n) := by
  rw [h.rf.cellAt j (by omega)]
  simp [lFq, hj]
theorem Fq.c2 {w : World} {S n m g c j : Nat} {v : Value} {G J : Nat → Nat} {D : Nat → Nat → Int} (h : Fq w S n v (.slice (some ⟨g, 0, none⟩) m c) m m G J D) (hj : j < m) : w.cell? ⟨g, j, none⟩ = some (.int .i64 (G j)) := by
  rw [h.rt.cellAt j (by omega)]
  simp [lTq, hj]
theorem Fq.c3 {w : World} {S n m j t : Nat} {v v' : Value} {G J : Nat → Nat} {D : Nat → Nat → Int} (h : Fq w S n v v' m m G J D) (hj : j < m) (ht : t < n) : w.cell? ⟨J j, t, none⟩ = some (.int .i64 (D j t)) := (h.ar j hj).2.2.cell ht
theorem one_sl (a : Option Addr) (n c : Nat) : ∀ u ∈ ([.slice a n c] : List Value), u.oneCell' = true := fun u hu => by simp at hu; subst hu; rfl
theorem one_it (x : Int) : ∀ u ∈ ([.int .i64 x] : List Value), u.oneCell' = true := fun u hu => by simp at hu; subst hu; rfl
theorem info_sl : (Try.prog.info? 25).map (fun i => (i.zero, i.size, i.bytes)) = some (some (.slice none 0 0), 1, 24) := by kernel_rfl
end Go.Proofs.Ytdpblimhfmfbnaa
/- Layer 20: one ring. -/
namespace Go.Proofs.Ytdpblimhfmfbnaa
open Go.ChangeShapes Go.WideShapes Go.ChangeAt Go.RowKit Go.Deep
set_option linter.unusedVariables false
set_option linter.unusedSimpArgs false
def natsL (l : List Nat) : List Value := l.map fun t => .int .i64 (t : Nat)
theorem befL_len (W : Int) (g n : Nat) (gap d row col : Int) : (befL W g n gap d row col).length ≤ n := by
  unfold befL
  exact Nat.le_trans (List.length_filter_le _ _) (by simp)
theorem own_le20 {w : World} {B B' s n : Nat} {e : TypeId} {v : Value} {xs : List Value} (h : w.ownsRow B e s v n xs) (hb : B' ≤ B) : w.ownsRow B' e s v n xs := by
  refine ⟨h.1, ?_⟩
  rcases h.2 with q | ⟨g, cap, cur, e1, hg, rest⟩
  · exact Or.inl q
  · exact Or.inr ⟨g, cap, cur, e1, Nat.le_trans hb hg, rest⟩
theorem gap_neg {gap d x : Int} (h : gap = 1 ∨ gap = 3 ∨ gap = 5 ∨ gap = 7) (hd : d % gap = 0) : (x - d - x) % gap = 0 := by
  rcases h with q | q | q | q <;> subst q <;> omega
theorem gap_add {gap x y : Int} (h : gap = 1 ∨ gap = 3 ∨ gap = 5 ∨ gap = 7) (hd : (y - x) % gap = 0) : (y + gap - x) % gap = 0 := by
  rcases h with q | q | q | q <;> subst q <;> omega
theorem gap_two {gap d x y : Int} (h : gap = 1 ∨ gap = 3 ∨ gap = 5 ∨ gap = 7) (hd : d % gap = 0) (hy : y = x - d ∨ y = x + d) : (y + 2 * d - x) % gap = 0 := by
  rcases h with q | q | q | q <;> subst q <;> omega
theorem SlAt.next {gx gy gap d row col nx : Int} (hg : gap = 1 ∨ gap = 3 ∨ gap = 5 ∨ gap = 7) (hd : d % gap = 0) (q : SlAt gx gy gap d row col nx) : gx + d < col + nx ∨ SlAt gx gy gap d row (col + nx) nx := by
  by_cases h : gx + d < col + nx
  · exact Or.inl h
  · obtain ⟨a, b, c, e, f, m, i⟩ := q
    right
    rcases i with ⟨i, rfl⟩ | ⟨i1, i2, rfl, i3⟩
    · exact ⟨a, b, c, by omega, by omega, gap_add hg m, Or.inl ⟨i, rfl⟩⟩
    · exact ⟨a, b, c, by omega, by omega, gap_two hg hd i3, Or.inr ⟨i1, i2, rfl, by omega⟩⟩
end Go.Proofs.Ytdpblimhfmfbnaa
/- Plain words of layer 20: the first N of them; two rows of one's own. -/
namespace Go.Proofs.Ytdpblimhfmfbnaa
open Go.ChangeShapes Go.WideShapes Go.ChangeAt Go.RowKit Go.Deep
set_option linter.unusedVariables false
set_option linter.unusedSimpArgs false
theorem take_more {α : Type} {l : List α} {N : Nat} {x : α} (h : (l.take N).length < N) : (l ++ [x]).take N = l.take N ++ [x] := by
  have hl : l.length < N := by rw [List.length_take] at h; omega
  rw [List.take_of_length_le (by simp; omega), List.take_of_length_le (by omega)]
theorem take_full {α : Type} {l : List α} {N : Nat} (r : List α) (h : ¬ (l.take N).length < N) : (l ++ r).take N = l.take N := by
  have hl : N ≤ l.length := by rw [List.length_take] at h; omega
  rw [List.take_append_of_le_length hl]
theorem filter_take_succ {α : Type} {l : List α} {p : α → Bool} {j : Nat} (h : j < l.length) : (l.take (j + 1)).filter p = (l.take j).filter p ++ (if p l[j] = true then [l[j]] else []) := by
  rw [List.take_succ_eq_append_getElem h, List.filter_append]
  congr 1
  by_cases e : p l[j] = true
  · rw [if_pos e, List.filter_cons_of_pos e]; rfl
  · rw [if_neg e, List.filter_cons_of_neg e]; rfl
theorem slL_pre (W : Int) (g n : Nat) (gd : Nat → Bool) (gap : Int) (f : Nat) : ∀ k, ∃ r, slL W g n gd gap (f + k) = slL W g n gd gap f ++ r
  | 0 => ⟨[], by simp⟩
  | k + 1 => by
    obtain ⟨r, hr⟩ := slL_pre W g n gd gap f k
    refine ⟨r ++ slF W g n gd gap ((f + k : Nat) : Int), ?_⟩
    show slL W g n gd gap (f + k) ++ _ = _
    rw [hr, List.append_assoc]
    rfl
theorem ring_far {W H : Int} {n g : Nat} {gap d : Int} (hW : 1 ≤ W) (hn : (n : Int) = W * H) (hg : g < n) (hd : W + H ≤ d) : ringL W g n gap d = [] := by
  unfold ringL
  rw [List.filter_eq_nil_iff]
  intro t ht hh
  have ht := List.mem_range.1 ht
  have h1 := (slX_iff _ _ _ _).1 hh
  have a0 := Int.emod_nonneg (t : Int) (show W ≠ 0 by omega)
  have a1 := Int.emod_lt_of_pos (t : Int) (show 0 < W by omega)
  have a2 : 0 ≤ (t : Int) / W := Int.ediv_nonneg (by omega) (by omega)
  have a3 : (t : Int) / W < H := Int.ediv_lt_of_lt_mul (by omega) (by rw [Int.mul_comm]; omega)
  have b0 := Int.emod_nonneg (g : Int) (show W ≠ 0 by omega)
  have b1 := Int.emod_lt_of_pos (g : Int) (show 0 < W by omega)
  have b2 : 0 ≤ (g : Int) / W := Int.ediv_nonneg (by omega) (by omega)
  have b3 : (g : Int) / W < H := Int.ediv_lt_of_lt_mul (by omega) (by rw [Int.mul_comm]; omega)
  omega
theorem slL_far {W H : Int} {n g : Nat} {gd : Nat → Bool} {gap : Int} (hW : 1 ≤ W) (hn : (n : Int) = W * H) (hg : g < n) {f : Nat} (hf : W + H ≤ (f : Int)) : ∀ k, slL W g n gd gap (f + k) = slL W g n gd gap f
  | 0 => rfl
  | k + 1 => by
    show slL W g n gd gap (f + k) ++ slF W g n gd gap ((f + k : Nat) : Int) = _
    rw [slL_far hW hn hg hf k]
    unfold slF
    rw [ring_far hW hn hg (by omega)]
    simp
/-- All places that are asked for. -/
def slA (W H : Int) (g n : Nat) (gd : Nat → Bool) (gap : Int) (N : Nat) : List Nat := (slL W g n gd gap (W + H + 1).toNat).take N
theorem slA_end {W H : Int} {n g : Nat} {gd : Nat → Bool} {gap : Int} {N f : Nat} (hW : 1 ≤ W) (hH : 1 ≤ H) (hn : (n : Int) = W * H) (hg : g < n) (h : ¬ ((f : Int) ≤ W + H ∧ ((slL W g n gd gap f).take N).length < N)) : (slL W g n gd gap f).take N = slA W H g n gd gap N := by
  unfold slA
  by_cases c : (f : Int) ≤ W + H
  · obtain ⟨r, hr⟩ := slL_pre W g n gd gap f ((W + H + 1).toNat - f)
    rw [show f + ((W + H + 1).toNat - f) = (W + H + 1).toNat by omega] at hr
    rw [hr, take_full r (fun q => h ⟨c, q⟩)]
  · have := slL_far (gd := gd) (gap := gap) (f := (W + H + 1).toNat) hW hn hg (by omega) (f - (W + H + 1).toNat)
    rw [show (W + H + 1).toNat + (f - (W + H + 1).toNat) = f by omega] at this
    rw [this]
theorem slA_len (W H : Int) (g n : Nat) (gd : Nat → Bool) (gap : Int) (N : Nat) : (slA W H g n gd gap N).length ≤ N := by
  unfold slA; rw [List.length_take]; omega
/-- Two rows of numbers of one's own, apart. -/
structure Sq (w : World) (S : Nat) (v v' : Value) (A R : List Nat) : Prop where
  rf : w.ownsRow S 3 1 v A.length (natsL A)
  rr : w.ownsRow S 3 1 v' R.length (natsL R)
  ap : v.ownBlock = none ∨ v'.ownBlock = none ∨ v.ownBlock ≠ v'.ownBlock
theorem Sq.later {w w' : World} {S : Nat} {v v' : Value} {A R : List Nat} (h : Sq w S v v' A R) (hb : Below w.heap.size w w') : Sq w' S v v' A R :=
  ⟨(Fr.of_below hb).row h.rf (fun j hj hm => by have := (h.rf.lt j hj).2; omega), (Fr.of_below hb).row h.rr (fun j hj hm => by have := (h.rr.lt j hj).2; omega), h.ap⟩
theorem Sq.of {w w' : World} {S : Nat} {v v' : Value} {A R : List Nat} (h : w.ownsRow S 3 1 v A.length (natsL A)) (hb : Below w.heap.size w w') (hS : S ≤ w.heap.size) (h' : w'.ownsRow w.heap.size 3 1 v' R.length (natsL R)) : Sq w' S v v' A R := by
  refine ⟨(Fr.of_below hb).row h (fun j hj hm => by have := (h.lt j hj).2; omega), own_le20 h' hS, ?_⟩
  by_cases c : v.ownBlock = none
  · exact Or.inl c
  · obtain ⟨j, hj⟩ := Option.ne_none_iff_exists'.1 c
    right
    right
    rw [hj]
    intro e
    have a := (h.lt j hj).2
    have b := (h'.lt j e.symm).1
    omega
theorem Sq.put {w z : World} {S t : Nat} {v v' u : Value} {A R : List Nat} (h : Sq w S v v' A R) (hown : z.ownsRow S 3 1 u (A.length + 1) (natsL A ++ [.int .i64 (t : Nat)])) (hg : w.grownBy z v.ownBlock) (hat : u.ownBlock = v.ownBlock ∨ u.ownBlock = some w.heap.size) : Sq z S u v' (A ++ [t]) R := by
  refine ⟨by simpa [natsL] using hown, h.rr.kept hg ?_, ?_⟩
  · rcases h.ap with e | e | e
    · by_cases c : v'.ownBlock = none
      · exact Or.inl c
      · right; rw [e]; exact c
    · exact Or.inl e
    · exact Or.inr fun e' => e e'.symm
  · rcases hat with e | e
    · rw [e]; exact h.ap
    · by_cases c : v'.ownBlock = none
      · exact Or.inr (Or.inl c)
      right
      right
      rw [e]
      intro e'
      have := (h.rr.lt _ e'.symm).2
      omega
theorem own_form20 {w : World} {S : Nat} {v : Value} {R : List Nat} (h : w.ownsRow S 3 1 v R.length (natsL R)) : ∃ a c, v = .slice a R.length c ∧ (0 < R.length → ∃ g, a = some ⟨g, 0, none⟩) := by
  rcases h.2 with ⟨e, h0⟩ | ⟨g, cap, cur, e, _⟩
  · exact ⟨none, 0, by rw [h0]; exact e, fun q => by omega⟩
  · exact ⟨_, _, e, fun _ => ⟨g, rfl⟩⟩
theorem own_at20 {w : World} {S g c j : Nat} {R : List Nat} (h : w.ownsRow S 3 1 (.slice (some ⟨g, 0, none⟩) R.length c) R.length (natsL R)) (hj : j < R.length) : w.cell? ⟨g, j, none⟩ = some (.int .i64 (R[j] : Nat)) := by
  rw [h.cellAt j (by omega)]
  simp [natsL, hj]
end Go.Proofs.Ytdpblimhfmfbnaa
/- Package portal: the portals along a border. -/
namespace Go.Proofs.Ytdpblimhfmfbnaa
open Go.ChangeShapes Go.WideShapes Go.ChangeAt Go.RowKit Go.Deep
set_option linter.unusedVariables false
set_option linter.unusedSimpArgs false
def c3 (p : Int × Int × Int) : List Value := [.int .i64 p.1, .int .i64 p.2.1, .int .i64 p.2.2]
def fl3 (l : List (Int × Int × Int)) : List Value := l.flatMap c3
theorem fl3_len (l : List (Int × Int × Int)) : (fl3 l).length = l.length * 3 := by
  induction l with
  | nil => rfl
  | cons a l ih => show (c3 a ++ fl3 l).length = _; rw [List.length_append, ih]; simp [c3]; omega
theorem fl3_app (l m : List (Int × Int × Int)) : fl3 (l ++ m) = fl3 l ++ fl3 m := List.flatMap_append
theorem fl3_one (l : List (Int × Int × Int)) : ∀ u ∈ fl3 l, u.oneCell' = true := fun u hu => by
  obtain ⟨p, _, h⟩ := List.mem_flatMap.1 hu
  simp [c3] at h
  rcases h with rfl | rfl | rfl <;> rfl
theorem fl3_at (l : List (Int × Int × Int)) (k : Nat) (h : k < l.length) : (fl3 l)[k * 3]? = some (.int .i64 l[k].1) ∧ (fl3 l)[k * 3 + 1]? = some (.int .i64 l[k].2.1) ∧ (fl3 l)[k * 3 + 2]? = some (.int .i64 l[k].2.2) := by
  induction l generalizing k with
  | nil => exact absurd h (by simp)
  | cons a l ih =>
    show (c3 a ++ fl3 l)[k * 3]? = _ ∧ (c3 a ++ fl3 l)[k * 3 + 1]? = _ ∧ (c3 a ++ fl3 l)[k * 3 + 2]? = _
    cases k with
    | zero => exact ⟨rfl, rfl, rfl⟩
    | succ k =>
      have := ih k (by simpa using h)
      rw [List.getElem?_append_right (by simp [c3]; omega), List.getElem?_append_right (by simp [c3]; omega), List.getElem?_append_right (by simp [c3]; omega)]
      rw [show (k + 1) * 3 - (c3 a).length = k * 3 by simp [c3]; omega, show (k + 1) * 3 + 1 - (c3 a).length = k * 3 + 1 by simp [c3]; omega, show (k + 1) * 3 + 2 - (c3 a).length = k * 3 + 2 by simp [c3]; omega]
      simpa using this
theorem three_at (w : World) (p : Int × Int × Int) (t : TypeId) : ∀ (j : Nat) (u : Value), (c3 p)[j]? = some u → (w.alloc (.cells #[.int .i64 p.1, .int .i64 p.2.1, .int .i64 p.2.2] t)).cell? ((⟨w.heap.size, 0, none⟩ : Addr).add j) = some u := by
  intro j u hj
  match j, hj with
  | 0, hj => simp [c3] at hj; subst hj; simp [Addr.add]
  | 1, hj => simp [c3] at hj; subst hj; simp [Addr.add]
  | 2, hj => simp [c3] at hj; subst hj; simp [Addr.add]
end Go.Proofs.Ytdpblimhfmfbnaa
/- Package portal: the portals along a border. -/
namespace Go.Proofs.Ytdpblimhfmfbnaa
open Go.ChangeShapes Go.WideShapes Go.ChangeAt Go.RowKit Go.Deep
set_option linter.unusedVariables false
set_option linter.unusedSimpArgs false
theorem c3_one (p : Int × Int × Int) : ∀ u ∈ c3 p, u.oneCell' = true := fun u hu => by
  simp [c3] at hu
  rcases hu with rfl | rfl | rfl <;> rfl
theorem wr_small {x : Int} (h : -1000000 ≤ x) (h' : x ≤ 1000000) : IntKind.i64.wrap x = x := wr_in' ⟨by omega, by omega⟩
theorem wr_nat {k : Nat} (h : k ≤ 1000000) : IntKind.i64.wrap (k : Int) = (k : Int) := wr_in' ⟨by omega, by omega⟩
theorem w64_nat {k : Nat} (h : k ≤ 1000000) : wrap64 (k : Int) = (k : Int) := by unfold wrap64; omega
theorem mul_le128 {i n : Nat} {al : Int} (h : i ≤ n) (hn : n ≤ 128) (a0 : 0 ≤ al) (a1 : al ≤ 128) : 0 ≤ (i : Int) * al ∧ (i : Int) * al ≤ 16384 := by
  refine ⟨Int.mul_nonneg (by omega) a0, ?_⟩
  have := Int.mul_le_mul (show (i : Int) ≤ 128 by omega) a1 a0 (by omega)
  omega
end Go.Proofs.Ytdpblimhfmfbnaa
/- Package portal: which of two comes first. -/
namespace Go.Proofs.Ytdpblimhfmfbnaa
open Go.ChangeShapes Go.WideShapes Go.ChangeAt Go.RowKit Go.Deep
set_option linter.unusedVariables false
set_option linter.unusedSimpArgs false
def cmpI (x y : Int) : Int := if x < y then -1 else if y < x then 1 else 0
theorem isnan_any (x : Int) (w : World) : Calls Try.prog 74 #[.int .i64 x] w fun e w' => e = .returned (.bool false) ∧ w' = w := by
  go_enter Try.func74, Try.ntmps74
  go_wp2
  go_ret
  simp
theorem cmpint_any (x y : Int) (w : World) : Calls Try.prog 65 #[.int .i64 x, .int .i64 y] w fun e w' => e = .returned (.int .i64 (cmpI x y)) ∧ w' = w := by
  have hn := fun z W => isnan_any z W
  by_cases h1 : x < y
  · have d1 : decide (x < y) = true := decide_eq_true h1
    have hc : cmpI x y = -1 := if_pos h1
    rw [hc]
    clear hc
    go_enter Try.func65, Try.ntmps65
    go_wp2_with (go_at_call 74; (with_reducible refine (isnan_any _ _).mono ?_); rintro e z ⟨rfl, hz⟩; rw [hz]; clear hz z)
    go_ret
    exact ⟨rfl, rfl⟩
  · have d1 : decide (x < y) = false := decide_eq_false h1
    by_cases h2 : y < x
    · have d2 : decide (y < x) = true := decide_eq_true h2
      have hc : cmpI x y = 1 := by unfold cmpI; rw [if_neg h1, if_pos h2]
      rw [hc]
      clear hc
      go_enter Try.func65, Try.ntmps65
      go_wp2_with (go_at_call 74; (with_reducible refine (isnan_any _ _).mono ?_); rintro e z ⟨rfl, hz⟩; rw [hz]; clear hz z)
      go_ret
      exact ⟨rfl, rfl⟩
    · have d2 : decide (y < x) = false := decide_eq_false h2
      have hc : cmpI x y = 0 := by unfold cmpI; rw [if_neg h1, if_neg h2]
      rw [hc]
      clear hc
      go_enter Try.func65, Try.ntmps65
      go_wp2_with (go_at_call 74; (with_reducible refine (isnan_any _ _).mono ?_); rintro e z ⟨rfl, hz⟩; rw [hz]; clear hz z)
      go_ret
      exact ⟨rfl, rfl⟩
def orI (x y : Int) : Int := if x = 0 then y else x
theorem or_any (b : Nat) (x y : Int) (w : World) (c0 : w.cell? ⟨b, 0, none⟩ = some (.int .i64 x)) (c1 : w.cell? ⟨b, 1, none⟩ = some (.int .i64 y)) :
    Calls Try.prog 64 #[.slice (some ⟨b, 0, none⟩) 2 2] w fun e w' => e = .returned (.int .i64 (orI x y)) ∧ w' = w := by
  by_cases h1 : x = 0
  · subst h1
    by_cases h2 : y = 0
    · subst h2
      go_enter Try.func64, Try.ntmps64
      go_wp2
      refine wp_loop_rounds 3 ?_
      rw [rounds_succ]
      go_wp2
      rw [rounds_succ]
      go_wp2
      (try rw [rounds_succ])
      (try go_wp2)
      go_ret
      exact ⟨rfl, rfl⟩
    · have hc : orI 0 y = y := if_pos rfl
      rw [hc]
      clear hc
      go_enter Try.func64, Try.ntmps64
      go_wp2
      refine wp_loop_rounds 3 ?_
      rw [rounds_succ]
      go_wp2
      rw [rounds_succ]
      go_wp2
      (try rw [rounds_succ])
      (try go_wp2)
      go_ret
      exact ⟨rfl, rfl⟩
  · have hc : orI x y = x := if_neg h1
    rw [hc]
    clear hc
    go_enter Try.func64, Try.ntmps64
    go_wp2
    refine wp_loop_rounds 3 ?_
    rw [rounds_succ]
    go_wp2
    go_ret
    exact ⟨rfl, rfl⟩
end Go.Proofs.Ytdpblimhfmfbnaa
