import Derived.Deep.QuietTactic
import Derived.BigQuiet
import Derived.Deep.RegionWith
import Derived.Deep.RegionHeld3
import Derived.Deep.DeepCutAuto
import Derived.Deep.DeepFit
import Derived.Outline
import Derived.Test.YtdpblimhfmfbnaaZsd
import Derived.Test.YtdpblimhfmfbnaaZsf
import Derived.Test.YtdpblimhfmfbnaaZsb
import Derived.Test.YtdpblimhfmfbnaaZsu
import Derived.Test.YtdpblimhfmfbnaaZsh
import Derived.Test.YtdpblimhfmfbnaaZsp
import Derived.Shelf.SlSortCmp.WholeK
set_option linter.unusedVariables false
set_option linter.unusedSimpArgs false
namespace Go.Proofs.Ytdpblimhfmfbnaa
open Go.ChangeShapes Go.WideShapes Go.ChangeAt Go.RowKit Go.Deep
def lFq (J : Nat → Nat) (n m : Nat) : List Value := (List.range m).map fun j => .slice (some ⟨J j, 0, none⟩) n n
def lTq (G : Nat → Nat) (m : Nat) : List Value := (List.range m).map fun j => .int .i64 (G j)
def setF {α : Type} (F : Nat → α) (k : Nat) (x : α) (j : Nat) : α := if j = k then x else F j
structure Fq (w : World) (S n : Nat) (v v' : Value) (m k : Nat) (G J : Nat → Nat) (D : Nat → Nat → Int) : Prop where
 rf : w.ownsRow S 25 1 v m (lFq J n m)
 rt : w.ownsRow S 3 1 v' k (lTq G k)
 ap : v.ownBlock = none ∨ v'.ownBlock = none ∨ v.ownBlock ≠ v'.ownBlock
 ar : ∀ j, j < m → v.ownBlock ≠ some (J j) ∧ v'.ownBlock ≠ some (J j) ∧ Arr w (J j) n 3 (fun t => .int .i64 (D j t))
theorem Fq.nil (w : World) (S n : Nat) (G J : Nat → Nat) (D : Nat → Nat → Int) : Fq w S n (.slice none 0 0) (.slice none 0 0) 0 0 G J D :=
 ⟨⟨rfl, Or.inl ⟨rfl, rfl⟩⟩, ⟨rfl, Or.inl ⟨rfl, rfl⟩⟩, Or.inl rfl, fun j hj => absurd hj (by omega)⟩
theorem Fq.drew {w : World} {S n m k : Nat} {v v' : Value} {G J : Nat → Nat} {D : Nat → Nat → Int} (h : Fq w S n v v' m k G J D) : Fq w.drew S n v v' m k G J D := ⟨h.rf, h.rt, h.ap, fun j hj => ⟨(h.ar j hj).1, (h.ar j hj).2.1, (h.ar j hj).2.2.drew⟩⟩
theorem Fq.drewN {w : World} {S n m k : Nat} {v v' : Value} {G J : Nat → Nat} {D : Nat → Nat → Int} (h : Fq w S n v v' m k G J D) (q : Nat) : Fq (w.drewN q) S n v v' m k G J D := ⟨h.rf, h.rt, h.ap, fun j hj => ⟨(h.ar j hj).1, (h.ar j hj).2.1, (h.ar j hj).2.2.drewN q⟩⟩
theorem Fq.later {w w' : World} {S n m k : Nat} {v v' : Value} {G J : Nat → Nat} {D : Nat → Nat → Int} (h : Fq w S n v v' m k G J D) (hb : Below w.heap.size w w') : Fq w' S n v v' m k G J D :=
 ⟨(Fr.of_below hb).row h.rf (fun j hj hm => by have := (h.rf.lt j hj).2; omega), (Fr.of_below hb).row h.rt (fun j hj hm => by have := (h.rt.lt j hj).2; omega), h.ap, fun j hj => ⟨(h.ar j hj).1, (h.ar j hj).2.1, (h.ar j hj).2.2.later hb⟩⟩
structure FqI (w : World) (S n : Nat) (v v' : Value) (m k : Nat) (G J : Nat → Nat) (D : Nat → Nat → Int) (I : Nat) (E : Nat → Int) : Prop extends Fq w S n v v' m k G J D where
 ai : Arr w I n 3 (fun t => .int .i64 (E t))
 n1 : v.ownBlock ≠ some I
 n2 : v'.ownBlock ≠ some I
section
variable {w w' z : World} {S n m k I g : Nat} {v v' u : Value} {G J : Nat → Nat} {D : Nat → Nat → Int} {E : Nat → Int}
theorem FqI.later (h : FqI w S n v v' m k G J D I E) (hb : Below w.heap.size w w') : FqI w' S n v v' m k G J D I E := ⟨h.toFq.later hb, h.ai.later hb, h.n1, h.n2⟩
theorem FqI.of (h : Fq w S n v v' m k G J D) (hb : Below w.heap.size w w') (hI : w.heap.size ≤ I) (ha : Arr w' I n 3 (fun t => .int .i64 (E t))) : FqI w' S n v v' m k G J D I E :=
 ⟨h.later hb, ha, fun e => by have := (h.rf.lt _ e).2; omega, fun e => by have := (h.rt.lt _ e).2; omega⟩
end
theorem Fq.form {w : World} {S n m : Nat} {v v' : Value} {G J : Nat → Nat} {D : Nat → Nat → Int} (h : Fq w S n v v' m m G J D) : ∃ a c a' c', v = .slice a m c ∧ v' = .slice a' m c' ∧ (0 < m → ∃ g g', a = some ⟨g, 0, none⟩ ∧ a' = some ⟨g', 0, none⟩) := by
 rcases h.rf.2 with ⟨e, h0⟩ | ⟨g, cap, cur, e, _⟩
 ·rcases h.rt.2 with ⟨e', _⟩ | ⟨g', cap', cur', e', _⟩
  ·subst h0; exact ⟨_, _, _, _, e, e', fun h => absurd h (by omega)⟩
  ·subst h0; exact ⟨_, _, _, _, e, e', fun h => absurd h (by omega)⟩
 ·rcases h.rt.2 with ⟨e', h0⟩ | ⟨g', cap', cur', e', _⟩
  ·subst h0; exact ⟨_, _, _, _, e, e', fun h => absurd h (by omega)⟩
  ·exact ⟨_, _, _, _, e, e', fun h => ⟨g, g', rfl, rfl⟩⟩
theorem Fq.c1 {w : World} {S n m g c j : Nat} {v' : Value} {G J : Nat → Nat} {D : Nat → Nat → Int} (h : Fq w S n (.slice (some ⟨g, 0, none⟩) m c) v' m m G J D) (hj : j < m) : w.cell? ⟨g, j, none⟩ = some (.slice (some ⟨J j, 0, none⟩) n n) := by
 rw [h.rf.cellAt j (by omega)]
 simp [lFq, hj]
theorem Fq.c2 {w : World} {S n m g c j : Nat} {v : Value} {G J : Nat → Nat} {D : Nat → Nat → Int} (h : Fq w S n v (.slice (some ⟨g, 0, none⟩) m c) m m G J D) (hj : j < m) : w.cell? ⟨g, j, none⟩ = some (.int .i64 (G j)) := by
 rw [h.rt.cellAt j (by omega)]
 simp [lTq, hj]
theorem Fq.c3 {w : World} {S n m j t : Nat} {v v' : Value} {G J : Nat → Nat} {D : Nat → Nat → Int} (h : Fq w S n v v' m m G J D) (hj : j < m) (ht : t < n) : w.cell? ⟨J j, t, none⟩ = some (.int .i64 (D j t)) := (h.ar j hj).2.2.cell ht
end Go.Proofs.Ytdpblimhfmfbnaa
namespace Go.Proofs.Ytdpblimhfmfbnaa
open Go.ChangeShapes Go.WideShapes Go.ChangeAt Go.RowKit Go.Deep
def natsL (l : List Nat) : List Value := l.map fun t => .int .i64 (t : Nat)
theorem own_le20 {w : World} {B B' s n : Nat} {e : TypeId} {v : Value} {xs : List Value} (h : w.ownsRow B e s v n xs) (hb : B' ≤ B) : w.ownsRow B' e s v n xs := by
 refine ⟨h.1, ?_⟩
 rcases h.2 with q | ⟨g, cap, cur, e1, hg, rest⟩
 ·exact Or.inl q
 ·exact Or.inr ⟨g, cap, cur, e1, Nat.le_trans hb hg, rest⟩
theorem gap_add {gap x y : Int} (h : gap = 1 ∨ gap = 3 ∨ gap = 5 ∨ gap = 7) (hd : (y - x) % gap = 0) : (y + gap - x) % gap = 0 := by
 rcases h with q | q | q | q <;> subst q <;> omega
theorem gap_two {gap d x y : Int} (h : gap = 1 ∨ gap = 3 ∨ gap = 5 ∨ gap = 7) (hd : d % gap = 0) (hy : y = x - d ∨ y = x + d) : (y + 2 * d - x) % gap = 0 := by
 rcases h with q | q | q | q <;> subst q <;> omega
theorem SlAt.next {gx gy gap d row col nx : Int} (hg : gap = 1 ∨ gap = 3 ∨ gap = 5 ∨ gap = 7) (hd : d % gap = 0) (q : SlAt gx gy gap d row col nx) : gx + d < col + nx ∨ SlAt gx gy gap d row (col + nx) nx := by
 by_cases h : gx + d < col + nx
 ·exact Or.inl h
 ·obtain ⟨a, b, c, e, f, m, i⟩ := q
  right
  rcases i with ⟨i, rfl⟩ | ⟨i1, i2, rfl, i3⟩
  ·exact ⟨a, b, c, by omega, by omega, gap_add hg m, Or.inl ⟨i, rfl⟩⟩
  ·exact ⟨a, b, c, by omega, by omega, gap_two hg hd i3, Or.inr ⟨i1, i2, rfl, by omega⟩⟩
end Go.Proofs.Ytdpblimhfmfbnaa
namespace Go.Proofs.Ytdpblimhfmfbnaa
open Go.ChangeShapes Go.WideShapes Go.ChangeAt Go.RowKit Go.Deep
def slA (W H : Int) (g n : Nat) (gd : Nat → Bool) (gap : Int) (N : Nat) : List Nat := (slL W g n gd gap (W + H + 1).toNat).take N
structure Sq (w : World) (S : Nat) (v v' : Value) (A R : List Nat) : Prop where
 rf : w.ownsRow S 3 1 v A.length (natsL A)
 rr : w.ownsRow S 3 1 v' R.length (natsL R)
 ap : v.ownBlock = none ∨ v'.ownBlock = none ∨ v.ownBlock ≠ v'.ownBlock
theorem Sq.later {w w' : World} {S : Nat} {v v' : Value} {A R : List Nat} (h : Sq w S v v' A R) (hb : Below w.heap.size w w') : Sq w' S v v' A R :=
 ⟨(Fr.of_below hb).row h.rf (fun j hj hm => by have := (h.rf.lt j hj).2; omega), (Fr.of_below hb).row h.rr (fun j hj hm => by have := (h.rr.lt j hj).2; omega), h.ap⟩
theorem Sq.of {w w' : World} {S : Nat} {v v' : Value} {A R : List Nat} (h : w.ownsRow S 3 1 v A.length (natsL A)) (hb : Below w.heap.size w w') (hS : S ≤ w.heap.size) (h' : w'.ownsRow w.heap.size 3 1 v' R.length (natsL R)) : Sq w' S v v' A R := by
 refine ⟨(Fr.of_below hb).row h (fun j hj hm => by have := (h.lt j hj).2; omega), own_le20 h' hS, ?_⟩
 by_cases c : v.ownBlock = none
 ·exact Or.inl c
 ·obtain ⟨j, hj⟩ := Option.ne_none_iff_exists'.1 c
  right
  right
  rw [hj]
  intro e
  have a := (h.lt j hj).2
  have b := (h'.lt j e.symm).1
  omega
theorem Sq.put {w z : World} {S t : Nat} {v v' u : Value} {A R : List Nat} (h : Sq w S v v' A R) (hown : z.ownsRow S 3 1 u (A.length + 1) (natsL A ++ [.int .i64 (t : Nat)])) (hg : w.grownBy z v.ownBlock) (hat : u.ownBlock = v.ownBlock ∨ u.ownBlock = some w.heap.size) : Sq z S u v' (A ++ [t]) R := by
 refine ⟨by simpa [natsL] using hown, h.rr.kept hg ?_, ?_⟩
 ·rcases h.ap with e | e | e
  ·by_cases c : v'.ownBlock = none
   ·exact Or.inl c
   ·right; rw [e]; exact c
  ·exact Or.inl e
  ·exact Or.inr fun e' => e e'.symm
 ·rcases hat with e | e
  ·rw [e]; exact h.ap
  ·by_cases c : v'.ownBlock = none
   ·exact Or.inr (Or.inl c)
   right
   right
   rw [e]
   intro e'
   have := (h.rr.lt _ e'.symm).2
   omega
end Go.Proofs.Ytdpblimhfmfbnaa
namespace Go.Proofs.Ytdpblimhfmfbnaa
open Go.ChangeShapes Go.WideShapes Go.ChangeAt Go.RowKit Go.Deep
def c3 (p : Int × Int × Int) : List Value := [.int .i64 p.1, .int .i64 p.2.1, .int .i64 p.2.2]
def fl3 (l : List (Int × Int × Int)) : List Value := l.flatMap c3
end Go.Proofs.Ytdpblimhfmfbnaa
namespace Go.Proofs.Ytdpblimhfmfbnaa
open Go.ChangeShapes Go.WideShapes Go.ChangeAt Go.RowKit Go.Deep
end Go.Proofs.Ytdpblimhfmfbnaa
namespace Go.Proofs.Ytdpblimhfmfbnaa
open Go.ChangeShapes Go.WideShapes Go.ChangeAt Go.RowKit Go.Deep
def cmpI (x y : Int) : Int := if x < y then -1 else if y < x then 1 else 0
theorem isnan_any (x : Int) (w : World) : Calls Try.prog 74 #[.int .i64 x] w fun e w' => e = .returned (.bool false) ∧ w' = w := by
 go_enter Try.func74, Try.ntmps74
 go_wp2
 go_ret
 simp
theorem cmpint_any (x y : Int) (w : World) : Calls Try.prog 65 #[.int .i64 x, .int .i64 y] w fun e w' => e = .returned (.int .i64 (cmpI x y)) ∧ w' = w := by
 have hn := fun z W => isnan_any z W
 by_cases h1 : x < y
 ·have d1 : decide (x < y) = true := decide_eq_true h1
  have hc : cmpI x y = -1 := if_pos h1
  rw [hc]
  clear hc
  go_enter Try.func65, Try.ntmps65
  go_wp2_with (go_at_call 74; (with_reducible refine (isnan_any _ _).mono ?_); rintro e z ⟨rfl, hz⟩; rw [hz]; clear hz z)
  go_ret
  exact ⟨rfl, rfl⟩
 ·have d1 : decide (x < y) = false := decide_eq_false h1
  by_cases h2 : y < x
  ·have d2 : decide (y < x) = true := decide_eq_true h2
   have hc : cmpI x y = 1 := by unfold cmpI; rw [if_neg h1, if_pos h2]
   rw [hc]
   clear hc
   go_enter Try.func65, Try.ntmps65
   go_wp2_with (go_at_call 74; (with_reducible refine (isnan_any _ _).mono ?_); rintro e z ⟨rfl, hz⟩; rw [hz]; clear hz z)
   go_ret
   exact ⟨rfl, rfl⟩
  ·have d2 : decide (y < x) = false := decide_eq_false h2
   have hc : cmpI x y = 0 := by unfold cmpI; rw [if_neg h1, if_neg h2]
   rw [hc]
   clear hc
   go_enter Try.func65, Try.ntmps65
   go_wp2_with (go_at_call 74; (with_reducible refine (isnan_any _ _).mono ?_); rintro e z ⟨rfl, hz⟩; rw [hz]; clear hz z)
   go_ret
   exact ⟨rfl, rfl⟩
def orI (x y : Int) : Int := if x = 0 then y else x
theorem or_any (b : Nat) (x y : Int) (w : World) (c0 : w.cell? ⟨b, 0, none⟩ = some (.int .i64 x)) (c1 : w.cell? ⟨b, 1, none⟩ = some (.int .i64 y)) :
  Calls Try.prog 64 #[.slice (some ⟨b, 0, none⟩) 2 2] w fun e w' => e = .returned (.int .i64 (orI x y)) ∧ w' = w := by
 by_cases h1 : x = 0
 ·subst h1
  by_cases h2 : y = 0
  ·subst h2
   go_enter Try.func64, Try.ntmps64
   go_wp2
   refine wp_loop_rounds 3 ?_
   rw [rounds_succ]
   go_wp2
   rw [rounds_succ]
   go_wp2
   (try rw [rounds_succ])
   (try go_wp2)
   go_ret
   exact ⟨rfl, rfl⟩
  ·have hc : orI 0 y = y := if_pos rfl
   rw [hc]
   clear hc
   go_enter Try.func64, Try.ntmps64
   go_wp2
   refine wp_loop_rounds 3 ?_
   rw [rounds_succ]
   go_wp2
   rw [rounds_succ]
   go_wp2
   (try rw [rounds_succ])
   (try go_wp2)
   go_ret
   exact ⟨rfl, rfl⟩
 ·have hc : orI x y = x := if_neg h1
  rw [hc]
  clear hc
  go_enter Try.func64, Try.ntmps64
  go_wp2
  refine wp_loop_rounds 3 ?_
  rw [rounds_succ]
  go_wp2
  go_ret
  exact ⟨rfl, rfl⟩
end Go.Proofs.Ytdpblimhfmfbnaa
