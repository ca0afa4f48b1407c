import Derived.ProofKit
import Derived.OpenShut
import Derived.ShutString
import Derived.ChangeOld
import Derived.Below
import Derived.Deep.Slices
import Derived.Deep.Fields
import Derived.ChangeSame
import Derived.Test.YthabjihpjdlmoaaDoorFka
import Derived.Test.YthabjihpjdlmoaaDoorRows
import Derived.Test.YthabjihpjdlmoaaDoorChecked
import Derived.Deep.QuietTactic
import Derived.BigQuiet
import Derived.Deep.RegionWith
import Derived.Deep.RegionHeld3
import Derived.Deep.DeepCutAuto
import Derived.Deep.DeepFit
import Derived.Outline
/- Arguments that hold slices of bytes: what is known of them. -/
namespace Go.Proofs.YthabjihpjdlmoaaDoor
open Go.ChangeShapes Go.WideShapes Go.ChangeAt Go.RowKit Go.Deep
set_option linter.unusedVariables false
theorem add_plus {b off : Nat} (j : Nat) : (⟨b, off, none⟩ : Addr).add j = ⟨b, off + j, none⟩ := by
  unfold Addr.add; split <;> simp_all
theorem by_of {H : Type} {enc : TypeId × Value → H} {w : World} {base : Nat} {spare : Nat → Bool} {held : Bool} {fuel : Nat} {x : DataW H × List MemPlace} {v : Value}
    (hf : DataW.trod enc Tryd.prog w base spare held fuel 22 [v] = some x) : ∃ a n c xs, v = .slice a n c ∧ n ≤ c ∧ c ≤ 9223372036854775807 ∧ By w w.heap.size a n xs := by
  rcases open_ints Tryd.underlying22 Tryd.underlying5 (by kernel_rfl) hf with ⟨hcs, _⟩ | ⟨a, l, c, zs, hcs, _, hl, hm, hz, _, hc, hwf⟩
  · simp at hcs; subst hcs
    exact ⟨none, 0, 0, [], rfl, by omega, by omega, By.nil _ _ _⟩
  · simp at hcs; subst hcs
    have hzl : l ≤ zs.length := by rw [hz]; split <;> omega
    refine ⟨_, _, _, zs.take l, rfl, hl, hm, by simp; omega, fun b hb => ?_, fun hn => ?_⟩
    · have := bounds_u8 (hwf b (List.mem_of_mem_take hb)); exact this
    · obtain ⟨b, off, spot⟩ := a
      have hs : spot = none := by
        have h0 := World.cell?_spot (hc 0 (by omega))
        simpa [Addr.add] using h0
      subst hs
      refine ⟨b, off, rfl, ?_, fun k hk => ?_⟩
      · have := hc 0 (by omega); rw [add_plus] at this; exact World.block_lt_of_cell? _ _ this
      · have := hc k (by omega)
        rw [add_plus] at this
        rw [this]
        simp [List.getD, hk]
end Go.Proofs.YthabjihpjdlmoaaDoor
/- Slices of numbers: what is known of them. -/
namespace Go.Proofs.YthabjihpjdlmoaaDoor
open Go.ChangeShapes Go.WideShapes Go.ChangeAt Go.RowKit Go.Deep
set_option linter.unusedVariables false
/-- The slice reads as these numbers. -/
structure Nq (w : World) (B : Nat) (a : Option Addr) (n : Nat) (xs : List Int) : Prop where
  len : xs.length = n
  rd : 0 < n → ∃ b off, a = some ⟨b, off, none⟩ ∧ b < B ∧ ∀ k, k < n → w.cell? ⟨b, off + k, none⟩ = some (.int .i64 (xs.getD k 0))
theorem Nq.below {w w' : World} {B B' n : Nat} {a : Option Addr} {xs : List Int} (h : Nq w B a n xs) (hb : Below B' w w') (hB : B ≤ B') : Nq w' B a n xs := ⟨h.len, fun hn => by
  obtain ⟨b, off, e, hlt, hc⟩ := h.rd hn
  exact ⟨b, off, e, hlt, fun k hk => (hb.cell (p := ⟨b, off + k, none⟩) (Nat.lt_of_lt_of_le hlt hB)).trans (hc k hk)⟩⟩
theorem Nq.mono {w : World} {B B' n : Nat} {a : Option Addr} {xs : List Int} (h : Nq w B a n xs) (hB : B ≤ B') : Nq w B' a n xs := ⟨h.len, fun hn => by
  obtain ⟨b, off, e, hlt, hc⟩ := h.rd hn
  exact ⟨b, off, e, by omega, hc⟩⟩
theorem Nq.drewN {w : World} {B n : Nat} {a : Option Addr} {xs : List Int} (h : Nq w B a n xs) (m : Nat) : Nq (w.drewN m) B a n xs := ⟨h.len, h.rd⟩
theorem Nq.nil (w : World) (B : Nat) (a : Option Addr) : Nq w B a 0 [] := ⟨rfl, fun h => absurd h (by omega)⟩
theorem aq_plus {b off : Nat} (j : Nat) : (⟨b, off, none⟩ : Addr).add j = ⟨b, off + j, none⟩ := by
  unfold Addr.add; split <;> simp_all
theorem nq_of {H : Type} {enc : TypeId × Value → H} {w : World} {base : Nat} {spare : Nat → Bool} {held : Bool} {fuel : Nat} {x : DataW H × List MemPlace} {v : Value}
    (hf : DataW.trod enc Tryd.prog w base spare held fuel 26 [v] = some x) : ∃ a0 len0 cap0 xs, v = .slice a0 len0 cap0 ∧ len0 ≤ 9223372036854775807 ∧ Nq w w.heap.size a0 len0 xs := by
  rcases open_ints Tryd.underlying26 Tryd.underlying3 (by kernel_rfl) hf with ⟨hcs, _⟩ | ⟨a, l, c, zs, hcs, _, hl, hm, hz, _, hc, hwf⟩
  · simp at hcs; subst hcs
    exact ⟨none, 0, 0, [], rfl, by omega, rfl, fun h => absurd h (by omega)⟩
  · simp at hcs; subst hcs
    have hzl : l ≤ zs.length := by rw [hz]; split <;> omega
    refine ⟨_, _, _, zs.take l, rfl, by unfold maxLen at hm; omega, by simp; omega, fun hn => ?_⟩
    obtain ⟨b, off, spot⟩ := a
    have hs : spot = none := by
      have h0 := World.cell?_spot (hc 0 (by omega))
      simpa [Addr.add] using h0
    subst hs
    refine ⟨b, off, rfl, ?_, fun k hk => ?_⟩
    · have := hc 0 (by omega); rw [aq_plus] at this; exact World.block_lt_of_cell? _ _ this
    · have := hc k (by omega)
      rw [aq_plus] at this
      rw [this]
      simp [List.getD, hk]
end Go.Proofs.YthabjihpjdlmoaaDoor
/- Layer 13: two lists of one's own that grow side by side: rows of numbers, their goals. -/
namespace Go.Proofs.YthabjihpjdlmoaaDoor
open Go.ChangeShapes Go.WideShapes Go.ChangeAt Go.RowKit Go.Deep
set_option linter.unusedVariables false
set_option linter.unusedSimpArgs false
def lFq (J : Nat → Nat) (n m : Nat) : List Value := (List.range m).map fun j => .slice (some ⟨J j, 0, none⟩) n n
def lTq (G : Nat → Nat) (m : Nat) : List Value := (List.range m).map fun j => .int .i64 (G j)
def setF {α : Type} (F : Nat → α) (k : Nat) (x : α) (j : Nat) : α := if j = k then x else F j
theorem setF_at {α : Type} (F : Nat → α) (k : Nat) (x : α) : setF F k x k = x := if_pos rfl
theorem setF_far {α : Type} {F : Nat → α} {k j : Nat} {x : α} (h : j ≠ k) : setF F k x j = F j := if_neg h
theorem lFq_set (J : Nat → Nat) (n m x : Nat) : lFq (setF J m x) n (m + 1) = lFq J n m ++ [.slice (some ⟨x, 0, none⟩) n n] := by
  unfold lFq
  rw [List.range_succ, List.map_append]
  congr 1
  · exact List.map_congr_left fun j hj => by rw [setF_far (by have := List.mem_range.1 hj; omega)]
  · simp [setF_at]
theorem lTq_set (G : Nat → Nat) (m x : Nat) : lTq (setF G m x) (m + 1) = lTq G m ++ [.int .i64 x] := by
  unfold lTq
  rw [List.range_succ, List.map_append]
  congr 1
  · exact List.map_congr_left fun j hj => by rw [setF_far (by have := List.mem_range.1 hj; omega)]
  · simp [setF_at]
/-- m rows of n numbers, and k goals. -/
structure Fq (w : World) (S n : Nat) (v v' : Value) (m k : Nat) (G J : Nat → Nat) (D : Nat → Nat → Int) : Prop where
  rf : w.ownsRow S 26 1 v m (lFq J n m)
  rt : w.ownsRow S 3 1 v' k (lTq G k)
  ap : v.ownBlock = none ∨ v'.ownBlock = none ∨ v.ownBlock ≠ v'.ownBlock
  ar : ∀ j, j < m → v.ownBlock ≠ some (J j) ∧ v'.ownBlock ≠ some (J j) ∧ Arr w (J j) n 3 (fun t => .int .i64 (D j t))
theorem Fq.nil (w : World) (S n : Nat) (G J : Nat → Nat) (D : Nat → Nat → Int) : Fq w S n (.slice none 0 0) (.slice none 0 0) 0 0 G J D :=
  ⟨⟨rfl, Or.inl ⟨rfl, rfl⟩⟩, ⟨rfl, Or.inl ⟨rfl, rfl⟩⟩, Or.inl rfl, fun j hj => absurd hj (by omega)⟩
theorem Fq.drew {w : World} {S n m k : Nat} {v v' : Value} {G J : Nat → Nat} {D : Nat → Nat → Int} (h : Fq w S n v v' m k G J D) : Fq w.drew S n v v' m k G J D := ⟨h.rf, h.rt, h.ap, fun j hj => ⟨(h.ar j hj).1, (h.ar j hj).2.1, (h.ar j hj).2.2.drew⟩⟩
theorem Fq.drewN {w : World} {S n m k : Nat} {v v' : Value} {G J : Nat → Nat} {D : Nat → Nat → Int} (h : Fq w S n v v' m k G J D) (q : Nat) : Fq (w.drewN q) S n v v' m k G J D := ⟨h.rf, h.rt, h.ap, fun j hj => ⟨(h.ar j hj).1, (h.ar j hj).2.1, (h.ar j hj).2.2.drewN q⟩⟩
theorem Fq.later {w w' : World} {S n m k : Nat} {v v' : Value} {G J : Nat → Nat} {D : Nat → Nat → Int} (h : Fq w S n v v' m k G J D) (hb : Below w.heap.size w w') : Fq w' S n v v' m k G J D :=
  ⟨(Fr.of_below hb).row h.rf (fun j hj hm => by have := (h.rf.lt j hj).2; omega), (Fr.of_below hb).row h.rt (fun j hj hm => by have := (h.rt.lt j hj).2; omega), h.ap, fun j hj => ⟨(h.ar j hj).1, (h.ar j hj).2.1, (h.ar j hj).2.2.later hb⟩⟩
theorem arr_grown {w w' : World} {g n : Nat} {T : TypeId} {f : Nat → Value} {row : Option Nat} (h : Arr w g n T f) (k : w.grownBy w' row) (hg : row ≠ some g) : Arr w' g n T f :=
  h.of_block (k.block g h.lt (fun e => hg e.symm))
theorem ne_fresh {u : Option Nat} {B I : Nat} (h : u = some B) (hB : I < B) : u ≠ some I := by
  rw [h]
  intro e
  injection e with e
  omega
/-- A row more. -/
theorem Fq.step1 {w z : World} {S n m k I : Nat} {v v' u : Value} {G J : Nat → Nat} {D : Nat → Nat → Int} {E : Nat → Int} (h : Fq w S n v v' m k G J D) (hI : Arr w I n 3 (fun t => .int .i64 (E t))) (h1 : v.ownBlock ≠ some I) (h2 : v'.ownBlock ≠ some I)
    (hown : z.ownsRow S 26 1 u (m + 1) (lFq J n m ++ [.slice (some ⟨I, 0, none⟩) n n])) (hg : w.grownBy z v.ownBlock) (hat : u.ownBlock = v.ownBlock ∨ u.ownBlock = some w.heap.size) : Fq z S n u v' (m + 1) k G (setF J m I) (setF D m E) := by
  refine ⟨by rw [lFq_set]; exact hown, h.rt.kept hg ?_, ?_, fun j hj => ?_⟩
  · rcases h.ap with e | e | e
    · by_cases c : v'.ownBlock = none
      · exact Or.inl c
      · right; rw [e]; exact c
    · exact Or.inl e
    · exact Or.inr fun e' => e e'.symm
  · rcases hat with e | e
    · rw [e]; exact h.ap
    · right
      by_cases c : v'.ownBlock = none
      · exact Or.inl c
      right
      rw [e]
      intro e'
      have := (h.rt.lt _ e'.symm).2
      omega
  · by_cases e : j = m
    · subst e
      rw [setF_at, setF_at]
      refine ⟨?_, h2, arr_grown hI hg h1⟩
      rcases hat with e | e
      · rw [e]; exact h1
      · exact ne_fresh e hI.lt
    · rw [setF_far e, setF_far e]
      obtain ⟨a1, a2, a3⟩ := h.ar j (by omega)
      refine ⟨?_, a2, arr_grown a3 hg a1⟩
      rcases hat with e | e
      · rw [e]; exact a1
      · exact ne_fresh e a3.lt
/-- A goal more. -/
theorem Fq.step2 {w z : World} {S n m k g : Nat} {v v' u : Value} {G J : Nat → Nat} {D : Nat → Nat → Int} (h : Fq w S n v v' m k G J D)
    (hown : z.ownsRow S 3 1 u (k + 1) (lTq G k ++ [.int .i64 g])) (hg : w.grownBy z v'.ownBlock) (hat : u.ownBlock = v'.ownBlock ∨ u.ownBlock = some w.heap.size) : Fq z S n v u m (k + 1) (setF G k g) J D := by
  refine ⟨h.rf.kept hg ?_, by rw [lTq_set]; exact hown, ?_, fun j hj => ?_⟩
  · rcases h.ap with e | e | e
    · exact Or.inl e
    · by_cases c : v.ownBlock = none
      · exact Or.inl c
      · right; rw [e]; exact c
    · exact Or.inr e
  · rcases hat with e | e
    · rw [e]; exact h.ap
    · by_cases c : v.ownBlock = none
      · exact Or.inl c
      right
      right
      rw [e]
      intro e'
      have := (h.rf.lt _ e').2
      omega
  · obtain ⟨a1, a2, a3⟩ := h.ar j hj
    refine ⟨a1, ?_, arr_grown a3 hg a2⟩
    rcases hat with e | e
    · rw [e]; exact a2
    · exact ne_fresh e a3.lt
/-- A row waits to be put in. -/
structure FqI (w : World) (S n : Nat) (v v' : Value) (m k : Nat) (G J : Nat → Nat) (D : Nat → Nat → Int) (I : Nat) (E : Nat → Int) : Prop extends Fq w S n v v' m k G J D where
  ai : Arr w I n 3 (fun t => .int .i64 (E t))
  n1 : v.ownBlock ≠ some I
  n2 : v'.ownBlock ≠ some I
section
variable {w w' z : World} {S n m k I g : Nat} {v v' u : Value} {G J : Nat → Nat} {D : Nat → Nat → Int} {E : Nat → Int}
theorem FqI.later (h : FqI w S n v v' m k G J D I E) (hb : Below w.heap.size w w') : FqI w' S n v v' m k G J D I E := ⟨h.toFq.later hb, h.ai.later hb, h.n1, h.n2⟩
theorem FqI.of (h : Fq w S n v v' m k G J D) (hb : Below w.heap.size w w') (hI : w.heap.size ≤ I) (ha : Arr w' I n 3 (fun t => .int .i64 (E t))) : FqI w' S n v v' m k G J D I E :=
  ⟨h.later hb, ha, fun e => by have := (h.rf.lt _ e).2; omega, fun e => by have := (h.rt.lt _ e).2; omega⟩
theorem FqI.step1 (h : FqI w S n v v' m k G J D I E) (hown : z.ownsRow S 26 1 u (m + 1) (lFq J n m ++ [.slice (some ⟨I, 0, none⟩) n n])) (hg : w.grownBy z v.ownBlock) (hat : u.ownBlock = v.ownBlock ∨ u.ownBlock = some w.heap.size) : Fq z S n u v' (m + 1) k G (setF J m I) (setF D m E) :=
  h.toFq.step1 h.ai h.n1 h.n2 hown hg hat
theorem FqI.step2 (h : FqI w S n v v' m k G J D I E) (hown : z.ownsRow S 3 1 u (k + 1) (lTq G k ++ [.int .i64 g])) (hg : w.grownBy z v'.ownBlock) (hat : u.ownBlock = v'.ownBlock ∨ u.ownBlock = some w.heap.size) : FqI z S n v u m (k + 1) (setF G k g) J D I E := by
  refine ⟨h.toFq.step2 hown hg hat, arr_grown h.ai hg h.n2, h.n1, ?_⟩
  rcases hat with e | e
  · rw [e]; exact h.n2
  · exact ne_fresh e h.ai.lt
end
theorem Fq.form {w : World} {S n m : Nat} {v v' : Value} {G J : Nat → Nat} {D : Nat → Nat → Int} (h : Fq w S n v v' m m G J D) : ∃ a c a' c', v = .slice a m c ∧ v' = .slice a' m c' ∧ (0 < m → ∃ g g', a = some ⟨g, 0, none⟩ ∧ a' = some ⟨g', 0, none⟩) := by
  rcases h.rf.2 with ⟨e, h0⟩ | ⟨g, cap, cur, e, _⟩
  · rcases h.rt.2 with ⟨e', _⟩ | ⟨g', cap', cur', e', _⟩
    · subst h0; exact ⟨_, _, _, _, e, e', fun h => absurd h (by omega)⟩
    · subst h0; exact ⟨_, _, _, _, e, e', fun h => absurd h (by omega)⟩
  · rcases h.rt.2 with ⟨e', h0⟩ | ⟨g', cap', cur', e', _⟩
    · subst h0; exact ⟨_, _, _, _, e, e', fun h => absurd h (by omega)⟩
    · exact ⟨_, _, _, _, e, e', fun h => ⟨g, g', rfl, rfl⟩⟩
theorem Fq.c1 {w : World} {S n m g c j : Nat} {v' : Value} {G J : Nat → Nat} {D : Nat → Nat → Int} (h : Fq w S n (.slice (some ⟨g, 0, none⟩) m c) v' m m G J D) (hj : j < m) : w.cell? ⟨g, j, none⟩ = some (.slice (some ⟨J j, 0, none⟩) n n) := by
  rw [h.rf.cellAt j (by omega)]
  simp [lFq, hj]
theorem Fq.c2 {w : World} {S n m g c j : Nat} {v : Value} {G J : Nat → Nat} {D : Nat → Nat → Int} (h : Fq w S n v (.slice (some ⟨g, 0, none⟩) m c) m m G J D) (hj : j < m) : w.cell? ⟨g, j, none⟩ = some (.int .i64 (G j)) := by
  rw [h.rt.cellAt j (by omega)]
  simp [lTq, hj]
theorem Fq.c3 {w : World} {S n m j t : Nat} {v v' : Value} {G J : Nat → Nat} {D : Nat → Nat → Int} (h : Fq w S n v v' m m G J D) (hj : j < m) (ht : t < n) : w.cell? ⟨J j, t, none⟩ = some (.int .i64 (D j t)) := (h.ar j hj).2.2.cell ht
theorem one_sl (a : Option Addr) (n c : Nat) : ∀ u ∈ ([.slice a n c] : List Value), u.oneCell' = true := fun u hu => by simp at hu; subst hu; rfl
theorem one_it (x : Int) : ∀ u ∈ ([.int .i64 x] : List Value), u.oneCell' = true := fun u hu => by simp at hu; subst hu; rfl
theorem info_sl : (Tryd.prog.info? 26).map (fun i => (i.zero, i.size, i.bytes)) = some (some (.slice none 0 0), 1, 24) := by kernel_rfl
end Go.Proofs.YthabjihpjdlmoaaDoor
/- Plain words of layer 13: walks over steps, tables that no step betters, what is still to be looked at. -/
namespace Go.Proofs.YthabjihpjdlmoaaDoor
open Go.RowKit
set_option linter.unusedVariables false
/-- The steps: T t i the tile, C t i the cost; below 0: there is none. -/
structure Stp (n : Nat) (T C : Nat → Nat → Int) : Prop where
  lt : ∀ t i, t < n → T t i < n
  pos : ∀ t i, t < n → 0 ≤ T t i → 0 < C t i
  top : ∀ t i, t < n → C t i ≤ 84
def Wk (n : Nat) (T C : Nat → Nat → Int) (g : Nat) : Nat → Nat → Int → Prop
  | 0, t, d => t = g ∧ d = 0
  | k + 1, u, d => ∃ t i, t < n ∧ i < 8 ∧ T t i = (u : Int) ∧ Wk n T C g k t (d - C t i)
structure Tab (n : Nat) (T C : Nat → Nat → Int) (g : Nat) (D : Nat → Int) : Prop where
  at0 : D g = 0
  low : ∀ t, t < n → -1 ≤ D t
  real : ∀ t, t < n → 0 ≤ D t → ∃ k, Wk n T C g k t (D t)
  rel : ∀ t i, t < n → i < 8 → 0 ≤ D t → 0 ≤ T t i → 0 ≤ D (T t i).toNat ∧ D (T t i).toNat ≤ D t + C t i
theorem Tab.le {n g : Nat} {T C : Nat → Nat → Int} {D : Nat → Int} (h : Tab n T C g D) : ∀ k t d, Wk n T C g k t d → 0 ≤ D t ∧ D t ≤ d
  | 0, t, d, ⟨e, e'⟩ => by subst e e'; rw [h.at0]; omega
  | k + 1, u, d, ⟨t, i, ht, hi, e, hw⟩ => by
    have h1 := h.le k t _ hw
    have h2 := h.rel t i ht hi h1.1 (by omega)
    rw [e] at h2
    simp at h2
    omega
theorem Tab.leq {n g : Nat} {T C : Nat → Nat → Int} {D D' : Nat → Int} (h : Tab n T C g D) (h' : Tab n T C g D') {t : Nat} (ht : t < n) (h0 : 0 ≤ D' t) : 0 ≤ D t ∧ D t ≤ D' t := by
  obtain ⟨k, hk⟩ := h'.real t ht h0
  exact h.le k t _ hk
theorem Tab.eq {n g : Nat} {T C : Nat → Nat → Int} {D D' : Nat → Int} (h : Tab n T C g D) (h' : Tab n T C g D') {t : Nat} (ht : t < n) : D t = D' t := by
  have a := h.low t ht
  have b := h'.low t ht
  have c := fun q => h.leq h' ht q
  have d := fun q => h'.leq h ht q
  omega
def Rlx (T C : Nat → Nat → Int) (D : Nat → Int) (t i : Nat) : Prop := 0 ≤ T t i → 0 ≤ D (T t i).toNat ∧ D (T t i).toNat ≤ D t + C t i
/-- How many tiles have been come to. -/
def cntD (D : Nat → Int) : Nat → Nat
  | 0 => 0
  | k + 1 => cntD D k + (if 0 ≤ D k then 1 else 0)
theorem cntD_le (D : Nat → Int) : ∀ n, cntD D n ≤ n
  | 0 => Nat.le_refl _
  | k + 1 => by
    have := cntD_le D k
    unfold cntD
    split <;> omega
def updD (D : Nat → Int) (u : Nat) (v : Int) (k : Nat) : Int := if k = u then v else D k
theorem updD_at (D : Nat → Int) (u : Nat) (v : Int) : updD D u v u = v := by unfold updD; rw [if_pos rfl]
theorem updD_far {D : Nat → Int} {u k : Nat} {v : Int} (h : k ≠ u) : updD D u v k = D k := by unfold updD; rw [if_neg h]
theorem cntD_far {D : Nat → Int} {u : Nat} {v : Int} : ∀ {n}, n ≤ u → cntD (updD D u v) n = cntD D n
  | 0, _ => rfl
  | k + 1, h => by
    show cntD (updD D u v) k + _ = cntD D k + _
    rw [cntD_far (n := k) (by omega), updD_far (by omega)]
theorem cntD_upd {D : Nat → Int} {u : Nat} {v : Int} (hv : 0 ≤ v) : ∀ {n}, u < n → cntD (updD D u v) n = cntD D n + (if 0 ≤ D u then 0 else 1)
  | 0, h => by omega
  | k + 1, h => by
    show cntD (updD D u v) k + _ = cntD D k + _ + _
    by_cases e : k = u
    · subst e
      rw [cntD_far (Nat.le_refl _), updD_at, if_pos hv]
      split <;> omega
    · rw [cntD_upd hv (n := k) (by omega), updD_far e]
      omega
/-- What may still be taken off. -/
def potD (D : Nat → Int) : Nat → Nat
  | 0 => 0
  | k + 1 => potD D k + (if D k < 0 then 1400001 else (D k).toNat)
theorem potD_far {D : Nat → Int} {u : Nat} {v : Int} : ∀ {n}, n ≤ u → potD (updD D u v) n = potD D n
  | 0, _ => rfl
  | k + 1, h => by
    show potD (updD D u v) k + _ = potD D k + _
    rw [potD_far (n := k) (by omega), updD_far (by omega)]
theorem potD_upd {D : Nat → Int} {u : Nat} {v : Int} (hv : 0 ≤ v) (hb : v ≤ 1400000) (hd : D u < 0 ∨ v < D u) : ∀ {n}, u < n → potD (updD D u v) n + 1 ≤ potD D n
  | 0, h => by omega
  | k + 1, h => by
    show potD (updD D u v) k + _ + 1 ≤ potD D k + _
    by_cases e : k = u
    · subst e
      rw [potD_far (Nat.le_refl _), updD_at, if_neg (by omega)]
      split <;> omega
    · have := potD_upd hv hb hd (n := k) (by omega)
      rw [updD_far e]
      omega
theorem potD_le {D : Nat → Int} : ∀ n, (∀ t, t < n → D t ≤ 1400001) → potD D n ≤ n * 1400001
  | 0, _ => Nat.le_refl _
  | k + 1, h => by
    have h1 := potD_le k (fun t ht => h t (by omega))
    have h2 := h k (by omega)
    show potD D k + _ ≤ _
    split <;> omega
/-- Between two tiles. -/
structure Lab0 (n : Nat) (T C : Nat → Nat → Int) (g : Nat) (D : Nat → Int) (pend : Nat → Prop) : Prop where
  at0 : D g = 0
  low : ∀ t, t < n → -1 ≤ D t
  real : ∀ t, t < n → 0 ≤ D t → ∃ k, Wk n T C g k t (D t)
  hi : ∀ t, t < n → D t ≤ ((cntD D n : Int) - 1) * 84
  rel : ∀ t, t < n → 0 ≤ D t → pend t ∨ ∀ i, i < 8 → Rlx T C D t i
/-- In a tile, i of its steps done. -/
structure Lab (n : Nat) (T C : Nat → Nat → Int) (g : Nat) (D : Nat → Int) (pend : Nat → Prop) (t i : Nat) : Prop where
  at0 : D g = 0
  low : ∀ t, t < n → -1 ≤ D t
  real : ∀ t, t < n → 0 ≤ D t → ∃ k, Wk n T C g k t (D t)
  hi : ∀ t, t < n → D t ≤ ((cntD D n : Int) - 1) * 84
  rel : ∀ s, s < n → 0 ≤ D s → pend s ∨ (s = t ∧ ∀ j, j < i → Rlx T C D t j) ∨ ∀ j, j < 8 → Rlx T C D s j
  lt : t < n
  nn : 0 ≤ D t
theorem Lab0.bd {n g t : Nat} {T C : Nat → Nat → Int} {D : Nat → Int} {pend : Nat → Prop} (h : Lab0 n T C g D pend) (hn : n ≤ 16384) (ht : t < n) : D t ≤ 1376172 := by
  have := h.hi t ht
  have := cntD_le D n
  omega
theorem Lab.bd {n g s t i : Nat} {T C : Nat → Nat → Int} {D : Nat → Int} {pend : Nat → Prop} (h : Lab n T C g D pend t i) (hn : n ≤ 16384) (ht : s < n) : D s ≤ 1376172 := by
  have := h.hi s ht
  have := cntD_le D n
  omega
def oneD (g k : Nat) : Int := if k = g then 0 else -1
theorem oneD_at (g : Nat) : oneD g g = 0 := if_pos rfl
theorem oneD_no {g k : Nat} (h : k ≠ g) : oneD g k = -1 := if_neg h
theorem cntD_none : ∀ {n g : Nat}, n ≤ g → cntD (oneD g) n = 0
  | 0, _, _ => rfl
  | k + 1, g, h => by
    show cntD (oneD g) k + _ = 0
    rw [cntD_none (n := k) (by omega), oneD_no (by omega)]
    rfl
theorem cntD_one : ∀ {n g : Nat}, g < n → cntD (oneD g) n = 1
  | 0, g, h => by omega
  | k + 1, g, h => by
    show cntD (oneD g) k + _ = 1
    by_cases e : k = g
    · subst e
      rw [cntD_none (Nat.le_refl _), oneD_at]
      rfl
    · rw [cntD_one (n := k) (by omega), oneD_no e]
      rfl
theorem Lab0.start {n g : Nat} {T C : Nat → Nat → Int} {pend : Nat → Prop} (hg : g < n) (hp : pend g) : Lab0 n T C g (oneD g) pend := by
  refine ⟨oneD_at g, fun t _ => ?_, fun t _ h0 => ?_, fun t _ => ?_, fun t _ h0 => ?_⟩
  · unfold oneD; split <;> omega
  · by_cases e : t = g
    · subst e; exact ⟨0, rfl, oneD_at t⟩
    · rw [oneD_no e] at h0; omega
  · rw [cntD_one hg]; unfold oneD; split <;> omega
  · by_cases e : t = g
    · subst e; exact Or.inl hp
    · rw [oneD_no e] at h0; omega
theorem Lab0.take {n g t : Nat} {T C : Nat → Nat → Int} {D : Nat → Int} {pend pend' : Nat → Prop} (h : Lab0 n T C g D pend) (hp : ∀ s, s ≠ t → pend s → pend' s) (ht : t < n) (h0 : 0 ≤ D t) : Lab n T C g D pend' t 0 := by
  refine ⟨h.at0, h.low, h.real, h.hi, fun s hs h1 => ?_, ht, h0⟩
  by_cases e : s = t
  · exact Or.inr (Or.inl ⟨e, fun j hj => by omega⟩)
  · exact (h.rel s hs h1).elim (fun q => Or.inl (hp s e q)) (fun q => Or.inr (Or.inr q))
theorem Lab0.drop {n g : Nat} {T C : Nat → Nat → Int} {D : Nat → Int} {pend pend' : Nat → Prop} (h : Lab0 n T C g D pend) (hp : ∀ s, s < n → 0 ≤ D s → pend s → pend' s) : Lab0 n T C g D pend' :=
  ⟨h.at0, h.low, h.real, h.hi, fun s hs h1 => (h.rel s hs h1).imp (hp s hs h1) id⟩
theorem Lab.skip {n g t i : Nat} {T C : Nat → Nat → Int} {D : Nat → Int} {pend : Nat → Prop} (h : Lab n T C g D pend t i) (hr : Rlx T C D t i) : Lab n T C g D pend t (i + 1) := by
  refine ⟨h.at0, h.low, h.real, h.hi, fun s hs h1 => ?_, h.lt, h.nn⟩
  rcases h.rel s hs h1 with q | ⟨e, q⟩ | q
  · exact Or.inl q
  · refine Or.inr (Or.inl ⟨e, fun j hj => ?_⟩)
    by_cases ej : j = i
    · rw [ej]; exact hr
    · exact q j (by omega)
  · exact Or.inr (Or.inr q)
theorem Lab.done {n g t : Nat} {T C : Nat → Nat → Int} {D : Nat → Int} {pend : Nat → Prop} (h : Lab n T C g D pend t 8) : Lab0 n T C g D pend := by
  refine ⟨h.at0, h.low, h.real, h.hi, fun s hs h1 => ?_⟩
  rcases h.rel s hs h1 with q | ⟨e, q⟩ | q
  · exact Or.inl q
  · subst e; exact Or.inr q
  · exact Or.inr q
theorem Lab0.out {n g : Nat} {T C : Nat → Nat → Int} {D : Nat → Int} {pend : Nat → Prop} (h : Lab0 n T C g D pend) (hp : ∀ s, s < n → 0 ≤ D s → ¬ pend s) : Tab n T C g D :=
  ⟨h.at0, h.low, h.real, fun t i ht hi h0 h1 => ((h.rel t ht h0).resolve_left (hp t ht h0)) i hi h1⟩
theorem Rlx.down {T C : Nat → Nat → Int} {D : Nat → Int} {s j u : Nat} {v : Int} (h : Rlx T C D s j) (hs : s ≠ u) (hv : 0 ≤ v) (hd : D u < 0 ∨ v < D u) : Rlx T C (updD D u v) s j := fun h0 => by
  have h1 := h h0
  rw [updD_far hs]
  by_cases e : (T s j).toNat = u
  · rw [e] at h1 ⊢; rw [updD_at]; omega
  · rw [updD_far e]; exact h1
/-- A step that betters. -/
theorem Lab.put {n g t i u : Nat} {T C : Nat → Nat → Int} {D : Nat → Int} {pend pend' : Nat → Prop} {v : Int} (h : Lab n T C g D pend t i) (hS : Stp n T C) (hi : i < 8) (hu : T t i = (u : Int)) (hv : v = D t + C t i) (hd : D u < 0 ∨ v < D u)
    (hp : ∀ s, s ≠ u → pend s → pend' s) (hq : pend' u) : Lab n T C g (updD D u v) pend' t (i + 1) := by
  have hun : u < n := by have := hS.lt t i h.lt; omega
  have hc := hS.pos t i h.lt (by omega)
  have hc2 := hS.top t i h.lt
  have h0 := h.nn
  have hut : t ≠ u := by
    rintro e
    subst e
    omega
  have hgu : g ≠ u := by
    rintro e
    subst e
    have := h.at0
    omega
  have hv0 : 0 ≤ v := by omega
  refine ⟨by rw [updD_far hgu]; exact h.at0, fun s hs => ?_, fun s hs h1 => ?_, fun s hs => ?_, fun s hs h1 => ?_, h.lt, by rw [updD_far hut]; exact h0⟩
  · by_cases e : s = u
    · rw [e, updD_at]; omega
    · rw [updD_far e]; exact h.low s hs
  · by_cases e : s = u
    · obtain ⟨k, hk⟩ := h.real t h.lt h0
      subst e
      refine ⟨k + 1, t, i, h.lt, hi, hu, ?_⟩
      rw [updD_at, hv, show D t + C t i - C t i = D t by omega]
      exact hk
    · rw [updD_far e] at h1 ⊢
      exact h.real s hs h1
  · rw [cntD_upd hv0 hun]
    have h1 := h.hi t h.lt
    by_cases e : s = u
    · subst e
      rw [updD_at]
      have h2 := h.hi s hs
      split <;> omega
    · rw [updD_far e]
      have h2 := h.hi s hs
      split <;> omega
  · by_cases e : s = u
    · rw [e]; exact Or.inl hq
    · rw [updD_far e] at h1
      rcases h.rel s hs h1 with q | ⟨e', q⟩ | q
      · exact Or.inl (hp s e q)
      · subst e'
        refine Or.inr (Or.inl ⟨rfl, fun j hj => ?_⟩)
        by_cases ej : j = i
        · subst ej
          intro _
          rw [hu]
          simp only [Int.toNat_natCast]
          rw [updD_at, updD_far hut]
          omega
        · exact (q j (by omega)).down e hv0 hd
      · exact Or.inr (Or.inr (fun j hj => (q j hj).down e hv0 hd))
theorem Lab.putBd {n g t i u : Nat} {T C : Nat → Nat → Int} {D : Nat → Int} {pend : Nat → Prop} {v : Int} (h : Lab n T C g D pend t i) (hS : Stp n T C) (hn : n ≤ 16384) (hu : T t i = (u : Int)) (hv : v = D t + C t i) (hd : D u < 0 ∨ v < D u) : u < n ∧ 0 ≤ v ∧ v ≤ 1400000 ∧ potD (updD D u v) n + 1 ≤ potD D n := by
  have hun : u < n := by have := hS.lt t i h.lt; omega
  have hc := hS.pos t i h.lt (by omega)
  have hc2 := hS.top t i h.lt
  have h0 := h.nn
  have hb := h.bd hn h.lt
  exact ⟨hun, by omega, by omega, potD_upd (by omega) (by omega) hd hun⟩
/-- The table at a goal that may be good, or not. -/
def TabG (n : Nat) (T C : Nat → Nat → Int) (g : Nat) (ok : Bool) (D : Nat → Int) : Prop := if ok = true then Tab n T C g D else ∀ t, t < n → D t = -1
theorem TabG.eq {n g : Nat} {T C : Nat → Nat → Int} {ok : Bool} {D D' : Nat → Int} (h : TabG n T C g ok D) (h' : TabG n T C g ok D') {t : Nat} (ht : t < n) : D t = D' t := by
  unfold TabG at h h'
  cases ok
  · rw [if_neg (by decide)] at h h'; rw [h t ht, h' t ht]
  · rw [if_pos rfl] at h h'; exact h.eq h' ht
end Go.Proofs.YthabjihpjdlmoaaDoor
/- Plain words of layer 13: walks mapped, turned round, laid one behind the other. -/
namespace Go.Proofs.YthabjihpjdlmoaaDoor
open Go.RowKit
set_option linter.unusedVariables false
theorem Wk.lt {n : Nat} {T C : Nat → Nat → Int} {g : Nat} (hS : Stp n T C) (hg : g < n) : ∀ {k t : Nat} {d : Int}, Wk n T C g k t d → t < n ∧ 0 ≤ d
  | 0, t, d, ⟨e, e'⟩ => by subst e; omega
  | k + 1, u, d, ⟨t, i, ht, hi, e, hw⟩ => by
    have h1 := hw.lt hS hg
    have h2 := hS.lt t i ht
    have h3 := hS.pos t i ht (by omega)
    omega
theorem Wk.map {n : Nat} {T C T' C' : Nat → Nat → Int} (hm : ∀ t i, t < n → i < 8 → 0 ≤ T t i → ∃ j, j < 8 ∧ T' t j = T t i ∧ C' t j ≤ C t i) {g : Nat} : ∀ {k t : Nat} {d : Int}, Wk n T C g k t d → ∃ d', d' ≤ d ∧ Wk n T' C' g k t d'
  | 0, t, d, h => ⟨d, Int.le_refl _, h⟩
  | k + 1, u, d, ⟨t, i, ht, hi, e, hw⟩ => by
    obtain ⟨d', h1, h2⟩ := hw.map hm
    obtain ⟨j, hj, e1, e2⟩ := hm t i ht hi (by omega)
    exact ⟨d' + C' t j, by omega, t, j, ht, hj, by rw [e1, e], by rw [show d' + C' t j - C' t j = d' by omega]; exact h2⟩
theorem Tab.mono {n g : Nat} {T C T' C' : Nat → Nat → Int} {D D' : Nat → Int} (h : Tab n T C g D) (h' : Tab n T' C' g D') (hm : ∀ t i, t < n → i < 8 → 0 ≤ T t i → ∃ j, j < 8 ∧ T' t j = T t i ∧ C' t j ≤ C t i) {t : Nat} (ht : t < n) (h0 : 0 ≤ D t) : 0 ≤ D' t ∧ D' t ≤ D t := by
  obtain ⟨k, hk⟩ := h.real t ht h0
  obtain ⟨d', h1, h2⟩ := hk.map hm
  have := h'.le k t _ h2
  omega
theorem Wk.front {n : Nat} {T C : Nat → Nat → Int} {u t i : Nat} (ht : t < n) (hi : i < 8) (e : T t i = (u : Int)) : ∀ {k v : Nat} {d : Int}, Wk n T C u k v d → Wk n T C t (k + 1) v (d + C t i)
  | 0, v, d, ⟨e1, e2⟩ => by
    subst e1 e2
    exact ⟨t, i, ht, hi, e, rfl, by omega⟩
  | k + 1, v, d, ⟨s, j, hs, hj, e1, hw⟩ => by
    have := Wk.front ht hi e hw
    exact ⟨s, j, hs, hj, e1, by rw [show d + C t i - C s j = d - C s j + C t i by omega]; exact this⟩
theorem Wk.rev {n : Nat} {T C : Nat → Nat → Int} (hS : Stp n T C) (hm : ∀ t i, t < n → i < 8 → 0 ≤ T t i → ∃ j, j < 8 ∧ T (T t i).toNat j = (t : Int) ∧ C (T t i).toNat j = C t i) {g : Nat} : ∀ {k t : Nat} {d : Int}, Wk n T C g k t d → Wk n T C t k g d
  | 0, t, d, ⟨e1, e2⟩ => ⟨e1.symm, e2⟩
  | k + 1, u, d, ⟨t, i, ht, hi, e, hw⟩ => by
    obtain ⟨j, hj, e1, e2⟩ := hm t i ht hi (by omega)
    have hu : u < n := by have := hS.lt t i ht; omega
    rw [e] at e1 e2
    simp only [Int.toNat_natCast] at e1 e2
    have := Wk.front hu hj e1 (hw.rev hS hm)
    rw [e2, show d - C t i + C t i = d by omega] at this
    exact this
theorem Wk.cat {n : Nat} {T C : Nat → Nat → Int} {g t k : Nat} {d : Int} (h : Wk n T C g k t d) : ∀ {k' u : Nat} {d' : Int}, Wk n T C t k' u d' → Wk n T C g (k + k') u (d + d')
  | 0, u, d', ⟨e1, e2⟩ => by subst e1 e2; rw [show d + 0 = d by omega]; exact h
  | k' + 1, u, d', ⟨s, j, hs, hj, e1, hw⟩ => ⟨s, j, hs, hj, e1, by rw [show d + d' - C s j = d + (d' - C s j) by omega]; exact h.cat hw⟩
theorem Tab.sym {n g t : Nat} {T C : Nat → Nat → Int} {D D' : Nat → Int} (h : Tab n T C g D) (h' : Tab n T C t D') (hS : Stp n T C) (hm : ∀ t i, t < n → i < 8 → 0 ≤ T t i → ∃ j, j < 8 ∧ T (T t i).toNat j = (t : Int) ∧ C (T t i).toNat j = C t i) (hg : g < n) (ht : t < n) : D t = D' g := by
  have a := h.low t ht
  have b := h'.low g hg
  have c : 0 ≤ D t → 0 ≤ D' g ∧ D' g ≤ D t := fun q => by
    obtain ⟨k, hk⟩ := h.real t ht q
    exact h'.le k g _ (hk.rev hS hm)
  have d : 0 ≤ D' g → 0 ≤ D t ∧ D t ≤ D' g := fun q => by
    obtain ⟨k, hk⟩ := h'.real g hg q
    exact h.le k t _ (hk.rev hS hm)
  omega
theorem Tab.tri {n g t u : Nat} {T C : Nat → Nat → Int} {D D' : Nat → Int} (h : Tab n T C g D) (h' : Tab n T C t D') (ht : t < n) (hu : u < n) (h0 : 0 ≤ D t) (h1 : 0 ≤ D' u) : 0 ≤ D u ∧ D u ≤ D t + D' u := by
  obtain ⟨k, hk⟩ := h.real t ht h0
  obtain ⟨k', hk'⟩ := h'.real u hu h1
  exact h.le _ _ _ (hk.cat hk')
/-- Whoever is come to was the goal, or stands at a step's end. -/
theorem Tab.last {n g : Nat} {T C : Nat → Nat → Int} {D : Nat → Int} (h : Tab n T C g D) {t : Nat} (ht : t < n) (h0 : 0 ≤ D t) : t = g ∨ ∃ s i, s < n ∧ i < 8 ∧ T s i = (t : Int) := by
  obtain ⟨k, hk⟩ := h.real t ht h0
  cases k with
  | zero => exact Or.inl hk.1
  | succ k =>
    obtain ⟨s, i, hs, hi, e, _⟩ := hk
    exact Or.inr ⟨s, i, hs, hi, e⟩
/-- One step less. -/
theorem Tab.prev {n g : Nat} {T C : Nat → Nat → Int} {D : Nat → Int} (h : Tab n T C g D) (hS : Stp n T C) (hg : g < n) {t : Nat} (ht : t < n) (h0 : 0 < D t) : ∃ s i, s < n ∧ i < 8 ∧ T s i = (t : Int) ∧ 0 ≤ D s ∧ D s + C s i = D t := by
  obtain ⟨k, hk⟩ := h.real t ht (by omega)
  cases k with
  | zero => have := hk.2; omega
  | succ k =>
    obtain ⟨s, i, hs, hi, e, hw⟩ := hk
    have h1 := h.le k s _ hw
    have h2 := h.rel s i hs hi h1.1 (by omega)
    rw [e] at h2
    simp at h2
    exact ⟨s, i, hs, hi, e, h1.1, by omega⟩
end Go.Proofs.YthabjihpjdlmoaaDoor
/- Plain words of layer 6: grounds. -/
namespace Go.Proofs.YthabjihpjdlmoaaDoor
/-- May this be a ground? -/
def gB (W H : Int) (n : Nat) (xs : List Int) : Bool := decide (1 ≤ W ∧ W ≤ 128 ∧ 1 ≤ H ∧ H ≤ 128 ∧ (n : Int) = W * H ∧ ∀ x ∈ xs, x ≤ 5)
def gE (W H : Int) (n : Nat) (xs : List Int) : Int := if gB W H n xs = true then 0 else 1
structure GOk (W H : Int) (n : Nat) (xs : List Int) : Prop where
  w1 : 1 ≤ W
  w2 : W ≤ 128
  h1 : 1 ≤ H
  h2 : H ≤ 128
  nn : (n : Int) = W * H
  ts : ∀ x ∈ xs, x ≤ 5
theorem gB_iff {W H : Int} {n : Nat} {xs : List Int} : gB W H n xs = true ↔ GOk W H n xs := by
  unfold gB
  rw [decide_eq_true_iff]
  exact ⟨fun ⟨a, b, c, d, e, f⟩ => ⟨a, b, c, d, e, f⟩, fun ⟨a, b, c, d, e, f⟩ => ⟨a, b, c, d, e, f⟩⟩
theorem gE_yes {W H : Int} {n : Nat} {xs : List Int} (h : GOk W H n xs) : gE W H n xs = 0 := by unfold gE; rw [if_pos (gB_iff.2 h)]
theorem gE_no {W H : Int} {n : Nat} {xs : List Int} (h : ¬ GOk W H n xs) : gE W H n xs = 1 := by unfold gE; rw [if_neg (fun g => h (gB_iff.1 g))]
theorem gB_yes {W H : Int} {n : Nat} {xs : List Int} (h : GOk W H n xs) : gB W H n xs = true := gB_iff.2 h
theorem gB_no {W H : Int} {n : Nat} {xs : List Int} (h : ¬ GOk W H n xs) : gB W H n xs = false := by
  cases e : gB W H n xs
  · rfl
  · exact absurd (gB_iff.1 e) h
theorem mul_bd {W H : Int} (w1 : 1 ≤ W) (w2 : W ≤ 128) (h1 : 1 ≤ H) (h2 : H ≤ 128) : 1 ≤ W * H ∧ W * H ≤ 16384 := by
  have a := Int.mul_le_mul w2 h2 (by omega) (by omega)
  have b := Int.mul_le_mul w1 h1 (by omega) (by omega)
  omega
/-- What stands of a ground before its tiles are looked at. -/
structure GHd (W H : Int) (n : Nat) : Prop where
  w1 : 1 ≤ W
  w2 : W ≤ 128
  h1 : 1 ≤ H
  h2 : H ≤ 128
  nn : (n : Int) = W * H
end Go.Proofs.YthabjihpjdlmoaaDoor
