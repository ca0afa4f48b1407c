import Derived.Deep.QuietTactic
import Derived.BigQuiet
import Derived.Deep.RegionWith
import Derived.Deep.RegionHeld3
import Derived.Deep.DeepCutAuto
import Derived.Deep.DeepFit
import Derived.Outline
import Derived.Test.YtjjodfdmbiebnaaQxg
import Derived.Test.YtjjodfdmbiebnaaQxi
/- Layer 12: the argument of its statements; wakes. -/
namespace Go.Proofs.Ytjjodfdmbiebnaa
open Go.ChangeShapes Go.WideShapes Go.ChangeAt Go.RowKit Go.Deep
set_option linter.unusedVariables false
set_option linter.unusedSimpArgs false
/-- A list of acts: what, a key, a value. -/
def Aq (w : World) (B : Nat) (a : Option Addr) (n : Nat) (D : Nat → Int) (L : Nat → PrQ) : Prop :=
  ∀ k, k < n → ∃ b off, a = some ⟨b, off, none⟩ ∧ b < B ∧ Fx.I64 (D k) ∧ w.cell? ⟨b, off + k * 3, none⟩ = some (.int .i64 (D k)) ∧ w.cell? ⟨b, off + k * 3 + 1, none⟩ = some (.int .i64 (L k).1) ∧ w.cell? ⟨b, off + k * 3 + 2, none⟩ = some (.int .i64 (L k).2)
def Asks12 (w : World) (a : Option Addr) (len cap : Nat) : Prop := len ≤ cap ∧ cap ≤ 9223372036854775807 ∧ ∃ D L, Aq w w.heap.size a len D L
set_option maxRecDepth 100000 in
theorem asks12_of {H : Type} {enc : TypeId × Value → H} {w : World} {base : Nat} {held : Bool} {fuel : Nat} {x : DataW H × List MemPlace} {a : Option Addr} {len cap : Nat}
    (hf : DataW.trod enc Try.prog w base (fun _ => true) held fuel 71 [.slice a len cap] = some x) : Asks12 w a len cap := by
  rcases open_slice Try.underlying71 hf with ⟨hcs, _⟩ | ⟨a', l, c, m, n, D, Pl, hcs, _, hl, hm, hmm, _, hi⟩
  · simp at hcs
    obtain ⟨rfl, rfl, rfl⟩ := hcs
    exact ⟨Nat.le_refl _, by omega, fun _ => 0, fun _ => (0, 0), fun i h => absurd h (by omega)⟩
  · simp at hcs
    obtain ⟨rfl, rfl, rfl⟩ := hcs
    refine ⟨hl, by unfold maxLen at hm; omega, ?_⟩
    have key : ∀ k : Nat, ∃ p : Int × PrQ, k < len → ∃ b off, (some a' : Option Addr) = some ⟨b, off, none⟩ ∧ b < w.heap.size ∧ Fx.I64 p.1 ∧ w.cell? ⟨b, off + k * 3, none⟩ = some (.int .i64 p.1) ∧ w.cell? ⟨b, off + k * 3 + 1, none⟩ = some (.int .i64 p.2.1) ∧ w.cell? ⟨b, off + k * 3 + 2, none⟩ = some (.int .i64 p.2.2) := by
      intro i
      by_cases hlt : i < len
      case neg => exact ⟨(0, 0, 0), fun h => absurd h hlt⟩
      have hC : Try.prog.cellsOf 79 = 3 := by kernel_rfl
      have h1 : Try.prog.cellsOf 3 = 1 := by kernel_rfl
      obtain ⟨cs', hc, ht⟩ := hi i (by rw [hmm]; simp; omega)
      rw [hC] at hc
      obtain ⟨ys, n', _, _, _, hyl, hg⟩ := DataW.trod_struct Try.underlying79 ht
      obtain ⟨_, hcl, hat⟩ := World.cells?_some hc
      match cs', hcl with
      | [c0, c1, c2], _ =>
        match ys, hyl with
        | [y0, y1, y2], _ =>
          have g0 := hg 0 _ rfl
          have g1 := hg 1 _ rfl
          have g2 := hg 2 _ rfl
          simp [h1] at g0 g1 g2
          obtain ⟨x0, e0, _, w0⟩ := DataW.trod_int Try.underlying3 g0
          obtain ⟨x1, e1, _, w1⟩ := DataW.trod_int Try.underlying3 g1
          obtain ⟨x2, e2, _, w2⟩ := DataW.trod_int Try.underlying3 g2
          simp at e0 e1 e2
          subst e0 e1 e2
          have k0 := hat 0 (by omega)
          have k1 := hat 1 (by omega)
          have k2 := hat 2 (by omega)
          obtain ⟨b, off, spot⟩ := a'
          have hs : spot = none := by
            obtain ⟨cs2, hc2, _⟩ := hi 0 (by rw [hmm]; simp; omega)
            rw [hC] at hc2
            obtain ⟨_, hcl2, hat2⟩ := World.cells?_some hc2
            have h0 := hat2 0 (by omega)
            rw [List.getElem?_eq_getElem (by omega)] at h0
            simpa [Addr.add] using World.cell?_spot h0
          subst hs
          simp only [addr_plus, Nat.add_zero] at k0 k1 k2
          exact ⟨(x0, x1, x2), fun _ => ⟨b, off, rfl, World.block_lt_of_cell? _ _ k0, i64_of_wf w0, k0, k1, k2⟩⟩
    obtain ⟨f, hf⟩ := Classical.axiomOfChoice key
    exact ⟨fun k => (f k).1, fun k => (f k).2, fun k hk => hf k hk⟩
theorem Hq.bel {w w' : World} {base Q n c : Nat} {a : Option Addr} {F : Nat → PrQ} (h : Hq w base Q a n c F) (hf : Fr (MQ Q a) w w') : Below base w w' := by
  refine hf.below (by have := h.bs; have := h.lt; omega) (fun j hj hm => ?_)
  rcases hm with e | ⟨ad, e, e2⟩
  · have := h.bs; omega
  · rcases h.row.2 with ⟨e3, _⟩ | ⟨g, cap, cur, e3, hg, _⟩
    · injection e3 with e3
      rw [e3] at e; cases e
    · injection e3 with e3
      rw [e3] at e
      injection e with e
      subst e
      simp only at e2
      omega
theorem qpush_at (base Q n c : Nat) (a : Option Addr) (F : Nat → PrQ) (k v : Int) (p : PrQ) (E : Hk (p = (k, v))) (w : World) (h : Hq w base Q a n c F) (hp : HpQ F n) (hn : n ≤ 200000000000) :
    Calls Try.prog 48 #[.pointer (some ⟨Q, 0, none⟩), .int .i64 k, .int .i64 v] w fun e w' => e = .returned (.tuple #[]) ∧ ∃ g c' G, PushQ w w' base Q a n F p g c' G := by
  have := E.out
  subst this
  exact qpush_any base Q n c a F (k, v) w h hp hn
theorem three_min {G : Nat → PrQ} (hp : HpQ G 3) (hc : ∀ x, cntQ G x 3 = (if ((2, 1) : PrQ) = x then 1 else 0) + (if ((1, 9) : PrQ) = x then 1 else 0) + (if ((1, 3) : PrQ) = x then 1 else 0)) : G 0 = (1, 3) := by
  have h1 : 0 < cntQ G (1, 3) 3 := by rw [hc]; simp
  obtain ⟨k, hk, e⟩ := cntQ_pos h1
  have h2 := hp.min k hk
  rw [e] at h2
  have h3 := cntQ_has (F := G) (k := 0) (n := 3) (by omega)
  rw [hc] at h3
  by_cases c1 : ((2, 1) : PrQ) = G 0
  · rw [← c1] at h2; exact absurd h2 (by unfold leQ ltQ; decide)
  by_cases c2 : ((1, 9) : PrQ) = G 0
  · rw [← c2] at h2; exact absurd h2 (by unfold leQ ltQ; decide)
  by_cases c3 : ((1, 3) : PrQ) = G 0
  · exact c3.symm
  · rw [if_neg c1, if_neg c2, if_neg c3] at h3; omega
set_option maxRecDepth 100000 in
set_option maxHeartbeats 1600000 in
theorem wakes12_any (w : World) : Calls Try.prog 53 #[] w fun e w' => e = .returned (.bool true) ∧ Below w.heap.size w w' := by
  have L0 : w.heap.size ≤ w.heap.size := Nat.le_refl _
  have HP0 : Hk (HpQ (fun _ => (0, 0)) 0) := ⟨fun k h0 h => by omega⟩
  go_enter Try.func53, Try.ntmps53
  go_upto_region 5 with (first
    | (go_at_call 46; (with_reducible refine (qnew _ w.heap.size L0).mono ?_); rintro e z ⟨Q, rfl, hQ, hq, hb⟩; have HQ0 := Hk.mk hq; have HB := Hk.mk hb; clear hq hb hQ)
    | (go_at_call 48; (with_reducible refine (qpush_at w.heap.size _ _ _ _ _ 2 1 (2, 1) ⟨rfl⟩ _ HQ0.out HP0.out (by omega)).mono ?_); rintro e z ⟨rfl, g, c, G, hr⟩; have HQ1 := Hk.mk hr.q; have HP1 := Hk.mk hr.hp; have HC1 := Hk.mk hr.cn; replace HB := Hk.mk (HB.out.trans (HQ0.out.bel hr.fr)); clear hr))
  clear HQ0
  go_upto_region 6 with (go_at_call 48; (with_reducible refine (qpush_at w.heap.size _ _ _ _ _ 1 9 (1, 9) ⟨rfl⟩ _ HQ1.out HP1.out (by omega)).mono ?_); rintro e z ⟨rfl, g, c, G, hr⟩; have HQ2 := Hk.mk hr.q; have HP2 := Hk.mk hr.hp; have HC2 := Hk.mk hr.cn; replace HB := Hk.mk (HB.out.trans (HQ1.out.bel hr.fr)); clear hr)
  clear HQ1
  go_upto_region 7 with (go_at_call 48; (with_reducible refine (qpush_at w.heap.size _ _ _ _ _ 1 3 (1, 3) ⟨rfl⟩ _ HQ2.out HP2.out (by omega)).mono ?_); rintro e z ⟨rfl, g, c, G, hr⟩; have HQ3 := Hk.mk hr.q; have HP3 := Hk.mk hr.hp; have HC3 := Hk.mk hr.cn; replace HB := Hk.mk (HB.out.trans (HQ2.out.bel hr.fr)); clear hr)
  clear HQ2
  have hmin : G 0 = (1, 3) := three_min HP3.out (fun x => by rw [HC3.out x, HC2.out x, HC1.out x]; show 0 + _ + _ + _ = _; omega)
  go_wp2_with (first
    | (go_at_call 50; (with_reducible refine (pop_any w.heap.size Q 2 _ _ G _ HQ3.out HP3.out (by omega)).mono ?_); rintro e z ⟨rfl, G2, hq, hp2, hc2, hf⟩; rw [hmin]; have HQ4 := Hk.mk hq; replace HB := Hk.mk (HB.out.trans (HQ3.out.bel hf)); clear hq hp2 hc2 hf HQ3)
    | (go_at_call 52; (with_reducible refine (qlen _ w.heap.size Q 2 _ _ G2 HQ4.out).mono ?_); rintro e z ⟨rfl, rfl⟩))
  go_ret
  exact ⟨rfl, HB.out⟩
end Go.Proofs.Ytjjodfdmbiebnaa
/- Layer 12: two lists of numbers of one's own: the keys, the values of pairs. -/
namespace Go.Proofs.Ytjjodfdmbiebnaa
open Go.ChangeShapes Go.WideShapes Go.ChangeAt Go.RowKit Go.Deep
set_option linter.unusedVariables false
set_option linter.unusedSimpArgs false
theorem Hq.belowN {w w' : World} {base Q n c S : Nat} {a : Option Addr} {F : Nat → PrQ} (h : Hq w base Q a n c F) (hS : ∀ j, MQ Q a j → j < S) (k : Below S w w') : Hq w' base Q a n c F :=
  h.fr (M := fun j => S ≤ j) (Fr.of_below k) (by have := hS Q (Or.inl rfl); omega) (fun j hj hc => by have := hS j (MQ.own hj); omega)
theorem Hq.mlt {w : World} {base Q n c : Nat} {a : Option Addr} {F : Nat → PrQ} (h : Hq w base Q a n c F) : ∀ j, MQ Q a j → j < w.heap.size := by
  intro j hj
  rcases hj with e | ⟨ad, e, e2⟩
  · rw [e]; exact h.lt
  · rcases h.row.2 with ⟨e3, _⟩ | ⟨g, cap, cur, e3, hg, hh, _⟩
    · injection e3 with e3
      rw [e3] at e; cases e
    · injection e3 with e3
      rw [e3] at e
      injection e with e
      subst e
      subst e2
      exact (Array.getElem?_eq_some_iff.1 hh).1
def l1Q (P : Nat → PrQ) (n : Nat) : List Value := (List.range n).map fun j => .int .i64 (P j).1
def l2Q (P : Nat → PrQ) (n : Nat) : List Value := (List.range n).map fun j => .int .i64 (P j).2
/-- Two lists of numbers of one's own, in blocks behind S: the keys, the values of n pairs. -/
structure Iq (w : World) (S : Nat) (v v' : Value) (n : Nat) (P : Nat → PrQ) : Prop where
  rk : w.ownsRow S 3 1 v n (l1Q P n)
  rv : w.ownsRow S 3 1 v' n (l2Q P n)
  ap : v.ownBlock = none ∨ v.ownBlock ≠ v'.ownBlock
theorem Iq.nil (w : World) (S : Nat) (P : Nat → PrQ) : Iq w S (.slice none 0 0) (.slice none 0 0) 0 P := ⟨⟨rfl, Or.inl ⟨rfl, rfl⟩⟩, ⟨rfl, Or.inl ⟨rfl, rfl⟩⟩, Or.inl rfl⟩
theorem Iq.fr {w w' : World} {S n : Nat} {v v' : Value} {P : Nat → PrQ} {M : Nat → Prop} (h : Iq w S v v' n P) (k : Fr M w w') (hM : ∀ j, M j → j < S) : Iq w' S v v' n P :=
  ⟨k.row h.rk (fun j hj hm => by have := (h.rk.lt j hj).1; have := hM j hm; omega), k.row h.rv (fun j hj hm => by have := (h.rv.lt j hj).1; have := hM j hm; omega), h.ap⟩
theorem Iq.drewN {w : World} {S n : Nat} {v v' : Value} {P : Nat → PrQ} (h : Iq w S v v' n P) (m : Nat) : Iq (w.drewN m) S v v' n P := ⟨h.rk, h.rv, h.ap⟩
theorem Iq.form {w : World} {S n : Nat} {v v' : Value} {P : Nat → PrQ} (h : Iq w S v v' n P) (hn : 0 < n) : ∃ g c g' c', v = .slice (some ⟨g, 0, none⟩) n c ∧ v' = .slice (some ⟨g', 0, none⟩) n c' := by
  rcases h.rk.2 with ⟨_, h0⟩ | ⟨g, cap, cur, e, _⟩
  · omega
  rcases h.rv.2 with ⟨_, h0⟩ | ⟨g', cap', cur', e', _⟩
  · omega
  exact ⟨g, cap, g', cap', e, e'⟩
theorem Iq.c1 {w : World} {S n g c j : Nat} {v' : Value} {P : Nat → PrQ} (h : Iq w S (.slice (some ⟨g, 0, none⟩) n c) v' n P) (hj : j < n) : w.cell? ⟨g, j, none⟩ = some (.int .i64 (P j).1) := by
  rw [h.rk.cellAt j (by omega)]
  simp [l1Q, hj]
theorem Iq.c2 {w : World} {S n g c j : Nat} {v : Value} {P : Nat → PrQ} (h : Iq w S v (.slice (some ⟨g, 0, none⟩) n c) n P) (hj : j < n) : w.cell? ⟨g, j, none⟩ = some (.int .i64 (P j).2) := by
  rw [h.rv.cellAt j (by omega)]
  simp [l2Q, hj]
theorem cntQ_le (F : Nat → PrQ) (p : PrQ) : ∀ n, cntQ F p n ≤ n
  | 0 => Nat.le_refl _
  | n + 1 => by
    have := cntQ_le F p n
    show cntQ F p n + _ ≤ n + 1
    split <;> omega
/-- One key more; one value more. -/
structure Iq1 (w : World) (S : Nat) (v v' : Value) (n : Nat) (P : Nat → PrQ) (x : Int) : Prop where
  rk : w.ownsRow S 3 1 v (n + 1) (l1Q P n ++ [.int .i64 x])
  rv : w.ownsRow S 3 1 v' n (l2Q P n)
  ap : v.ownBlock = none ∨ v.ownBlock ≠ v'.ownBlock
theorem Iq.step1 {w z : World} {S n : Nat} {v v' u : Value} {P : Nat → PrQ} {x : Int} {o : Obj} (h : Iq w S v v' n P) (hown : z.ownsRow S 3 1 u (n + 1) (l1Q P n ++ [.int .i64 x])) (hg : (w.alloc o).grownBy z v.ownBlock) (hat : u.ownBlock = v.ownBlock ∨ u.ownBlock = some (w.alloc o).heap.size) : Iq1 z S u v' n P x := by
  refine ⟨hown, (h.rv.alloc o).kept hg ?_, ?_⟩
  · rcases h.ap with e | e
    · by_cases c : v'.ownBlock = none
      · exact Or.inl c
      · right; rw [e]; exact c
    · exact Or.inr fun e' => e e'.symm
  · rcases hat with e | e
    · rw [e]; exact h.ap
    · right
      rw [e]
      intro e'
      have := ((h.rv.alloc o).lt _ e'.symm).2
      omega
theorem Iq1.step2 {w z : World} {S n : Nat} {v v' u : Value} {P : Nat → PrQ} {x : PrQ} {o : Obj} (h : Iq1 w S v v' n P x.1) (hown : z.ownsRow S 3 1 u (n + 1) (l2Q P n ++ [.int .i64 x.2])) (hg : (w.alloc o).grownBy z v'.ownBlock) (hat : u.ownBlock = v'.ownBlock ∨ u.ownBlock = some (w.alloc o).heap.size) : Iq z S v u (n + 1) (updQ P n x) := by
  have e1 : l1Q (updQ P n x) (n + 1) = l1Q P n ++ [.int .i64 x.1] := by
    unfold l1Q
    rw [List.range_succ, List.map_append]
    congr 1
    · exact List.map_congr_left fun j hj => by rw [updQ_far (by have := List.mem_range.1 hj; omega)]
    · simp [updQ_at]
  have e2 : l2Q (updQ P n x) (n + 1) = l2Q P n ++ [.int .i64 x.2] := by
    unfold l2Q
    rw [List.range_succ, List.map_append]
    congr 1
    · exact List.map_congr_left fun j hj => by rw [updQ_far (by have := List.mem_range.1 hj; omega)]
    · simp [updQ_at]
  refine ⟨by rw [e1]; exact (h.rk.alloc o).kept hg h.ap, by rw [e2]; exact hown, ?_⟩
  rcases hat with e | e
  · rw [e]; exact h.ap
  · right
    rw [e]
    intro e'
    have := ((h.rk.alloc o).lt _ e').2
    omega
theorem one_c (x : Int) : ∀ u ∈ ([.int .i64 x] : List Value), u.oneCell' = true := fun u hu => by simp at hu; subst hu; rfl
theorem info_i64q : (Try.prog.info? 3).map (fun i => (i.zero, i.size, i.bytes)) = some (some (.int .i64 0), 1, 8) := by kernel_rfl
theorem l1Q_set (P : Nat → PrQ) {n b : Nat} (hb : b < n) (x : PrQ) : (l1Q P n).set b (.int .i64 x.1) = l1Q (updQ P b x) n := by
  apply List.ext_getElem?
  intro t
  by_cases c : t = b
  · subst c
    rw [List.getElem?_set_self (by simpa [l1Q] using hb)]
    simp [l1Q, hb, updQ_at]
  · rw [List.getElem?_set_ne (fun e => c e.symm)]
    by_cases ht : t < n
    · simp [l1Q, ht, updQ_far c]
    · rw [List.getElem?_eq_none (by simp [l1Q]; omega), List.getElem?_eq_none (by simp [l1Q]; omega)]
theorem l2Q_set (P : Nat → PrQ) {n b : Nat} (hb : b < n) (x : PrQ) : (l2Q P n).set b (.int .i64 x.2) = l2Q (updQ P b x) n := by
  apply List.ext_getElem?
  intro t
  by_cases c : t = b
  · subst c
    rw [List.getElem?_set_self (by simpa [l2Q] using hb)]
    simp [l2Q, hb, updQ_at]
  · rw [List.getElem?_set_ne (fun e => c e.symm)]
    by_cases ht : t < n
    · simp [l2Q, ht, updQ_far c]
    · rw [List.getElem?_eq_none (by simp [l2Q]; omega), List.getElem?_eq_none (by simp [l2Q]; omega)]
theorem l1Q_take (P : Nat → PrQ) {n m : Nat} (h : m ≤ n) : (l1Q P n).take m = l1Q P m := by
  unfold l1Q
  rw [← List.map_take, List.take_range, Nat.min_eq_left h]
theorem l2Q_take (P : Nat → PrQ) {n m : Nat} (h : m ≤ n) : (l2Q P n).take m = l2Q P m := by
  unfold l2Q
  rw [← List.map_take, List.take_range, Nat.min_eq_left h]
theorem Iq.put {w : World} {S n g c g' c' b : Nat} {P : Nat → PrQ} (h : Iq w S (.slice (some ⟨g, 0, none⟩) n c) (.slice (some ⟨g', 0, none⟩) n c') n P) (hb : b < n) (x : PrQ) :
    Iq ((w.setCell ⟨g, b, none⟩ (.int .i64 x.1)).setCell ⟨g', b, none⟩ (.int .i64 x.2)) S (.slice (some ⟨g, 0, none⟩) n c) (.slice (some ⟨g', 0, none⟩) n c') n (updQ P b x) := by
  have hne : g ≠ g' := by
    rcases h.ap with e | e
    · simp [Value.ownBlock] at e
    · simpa [Value.ownBlock] using e
  refine ⟨?_, ?_, h.ap⟩
  · have h1 := (h.rk.stored b (.int .i64 x.1)).1
    rw [l1Q_set P hb x] at h1
    exact ownsRow_setCell_other h1 (a := ⟨g', b, none⟩) (by simpa [Value.ownBlock] using hne) _
  · have h1 := ownsRow_setCell_other h.rv (a := ⟨g, b, none⟩) (by simpa [Value.ownBlock] using fun e : g' = g => hne e.symm) (.int .i64 x.1)
    have h2 := (h1.stored b (.int .i64 x.2)).1
    rwa [l2Q_set P hb x] at h2
theorem row_cut {w : World} {S g n m c : Nat} {xs ys : List Value} {T : TypeId} (h : w.ownsRow S T 1 (.slice (some ⟨g, 0, none⟩) n c) n xs) (hm : m ≤ n) (e : xs.take m = ys) (hl : ys.length = m) : w.ownsRow S T 1 (.slice (some ⟨g, 0, none⟩) m c) m ys := by
  refine ⟨by omega, ?_⟩
  rcases h.2 with ⟨e, h0⟩ | ⟨g', cap, cur, e', hg, hh, hc, hm2, hs, ht⟩
  · cases e
  · injection e' with e1 e2 e3
    injection e1 with e1
    injection e1 with e1
    subst e1 e3
    refine Or.inr ⟨g, c, cur, rfl, hg, hh, by omega, hm2, hs, ?_⟩
    rw [← e, ← ht, List.take_take]
    congr 1
    omega
theorem Iq.cut {w : World} {S n m g c g' c' : Nat} {P : Nat → PrQ} (h : Iq w S (.slice (some ⟨g, 0, none⟩) n c) (.slice (some ⟨g', 0, none⟩) n c') n P) (hm : m ≤ n) : Iq w S (.slice (some ⟨g, 0, none⟩) m c) (.slice (some ⟨g', 0, none⟩) m c') m P :=
  ⟨row_cut h.rk hm (l1Q_take P hm) (by simp [l1Q]), row_cut h.rv hm (l2Q_take P hm) (by simp [l2Q]), by have := h.ap; simpa [Value.ownBlock] using this⟩
theorem Iq.far {w : World} {S n : Nat} {v v' : Value} {P : Nat → PrQ} (h : Iq w S v v' n P) (a : Addr) (u : Value) (h1 : v.ownBlock ≠ some a.block) (h2 : v'.ownBlock ≠ some a.block) : Iq (w.setCell a u) S v v' n P :=
  ⟨ownsRow_setCell_other h.rk h1 u, ownsRow_setCell_other h.rv h2 u, h.ap⟩
end Go.Proofs.Ytjjodfdmbiebnaa
/- Layer 12: the reference's queue. -/
namespace Go.Proofs.Ytjjodfdmbiebnaa
open Go.ChangeShapes Go.WideShapes Go.ChangeAt Go.RowKit Go.Deep
set_option linter.unusedVariables false
set_option linter.unusedSimpArgs false
structure Rq (w : World) (base R : Nat) (v v' : Value) (n : Nat) (P : Nat → PrQ) : Prop where
  c0 : w.cell? ⟨R, 0, none⟩ = some v
  c1 : w.cell? ⟨R, 1, none⟩ = some v'
  f0 : w.frozen? ⟨R, 0, none⟩ = false
  f1 : w.frozen? ⟨R, 1, none⟩ = false
  lt : R < w.heap.size
  bs : base ≤ R
  iq : Iq w base v v' n P
  n1 : v.ownBlock ≠ some R
  n2 : v'.ownBlock ≠ some R
/-- The blocks of the reference's queue. -/
def MR (R : Nat) (v v' : Value) (j : Nat) : Prop := j = R ∨ v.ownBlock = some j ∨ v'.ownBlock = some j
theorem Rq.fr {w w' : World} {base R n : Nat} {v v' : Value} {P : Nat → PrQ} {M : Nat → Prop} (h : Rq w base R v v' n P) (k : Fr M w w') (hM : ∀ j, MR R v v' j → ¬ M j) : Rq w' base R v v' n P :=
  ⟨(k.cell h.lt (hM R (Or.inl rfl))).trans h.c0, (k.cell h.lt (hM R (Or.inl rfl))).trans h.c1, (k.frozen h.lt (hM R (Or.inl rfl))).trans h.f0, (k.frozen h.lt (hM R (Or.inl rfl))).trans h.f1, Nat.lt_of_lt_of_le h.lt k.size, h.bs,
    ⟨k.row h.iq.rk (fun j hj => hM j (Or.inr (Or.inl hj))), k.row h.iq.rv (fun j hj => hM j (Or.inr (Or.inr hj))), h.iq.ap⟩, h.n1, h.n2⟩
theorem Rq.mlt {w : World} {base R n : Nat} {v v' : Value} {P : Nat → PrQ} (h : Rq w base R v v' n P) : ∀ j, MR R v v' j → base ≤ j ∧ j < w.heap.size := by
  rintro j (e | e | e)
  · rw [e]; exact ⟨h.bs, h.lt⟩
  · exact h.iq.rk.lt j e
  · exact h.iq.rv.lt j e
theorem Rq.bel {w w' : World} {base R n : Nat} {v v' : Value} {P : Nat → PrQ} (h : Rq w base R v v' n P) (k : Fr (MR R v v') w w') : Below base w w' := k.below (by have := h.bs; have := h.lt; omega) (fun j _ hm => (h.mlt j hm).1)
theorem Rq.later {w w' : World} {base R n : Nat} {v v' : Value} {P : Nat → PrQ} (h : Rq w base R v v' n P) (k : Below w.heap.size w w') : Rq w' base R v v' n P :=
  h.fr (M := fun j => w.heap.size ≤ j) (Fr.of_below k) (fun j hj hc => by have := (h.mlt j hj).2; omega)
theorem Rq.drewN {w : World} {base R n : Nat} {v v' : Value} {P : Nat → PrQ} (h : Rq w base R v v' n P) (m : Nat) : Rq (w.drewN m) base R v v' n P := ⟨h.c0, h.c1, h.f0, h.f1, h.lt, h.bs, h.iq.drewN m, h.n1, h.n2⟩
theorem Iq1.far {w : World} {S n : Nat} {v v' : Value} {P : Nat → PrQ} {x : Int} (h : Iq1 w S v v' n P x) (a : Addr) (u : Value) (h1 : v.ownBlock ≠ some a.block) (h2 : v'.ownBlock ≠ some a.block) : Iq1 (w.setCell a u) S v v' n P x :=
  ⟨ownsRow_setCell_other h.rk h1 u, ownsRow_setCell_other h.rv h2 u, h.ap⟩
set_option maxRecDepth 1000000 in
set_option maxHeartbeats 1600000 in
theorem rpush_any (base R n : Nat) (v v' : Value) (P : Nat → PrQ) (x : PrQ) (k y : Int) (E : Hk (x = (k, y))) (w : World) (h : Rq w base R v v' n P) (hn : n ≤ 1000000) :
    Calls Try.prog 49 #[.pointer (some ⟨R, 0, none⟩), .int .i64 k, .int .i64 y] w fun e w' => e = .returned (.tuple #[]) ∧ ∃ u u', Rq w' base R u u' (n + 1) (updQ P n x) ∧ Fr (MR R v v') w w' ∧ ∀ j, MR R u u' j → MR R v v' j ∨ w.heap.size ≤ j := by
  have hE := E.out
  subst hE
  obtain ⟨ii, hii, hiz0, hiz1, hiz2⟩ := info_parts info_i64q
  have q0 := h.c0
  have q1 := h.c1
  have ql := h.lt
  have hbs := h.bs
  have HH := Hk.mk h
  have HRL : Hk (base ≤ w.heap.size) := ⟨by omega⟩
  clear h
  go_enter Try.func49, Try.ntmps49
  go_wp2_with (at_builtin; go_must (refine wpList_append_own_at _ rfl _ _ 26 rfl base 3 ii (.int .i64 0) 1 8 Try.underlying26 hii hiz0 hiz1 hiz2 rfl (by decide) v n _ rfl (HH.out.iq.rk.alloc _) ⟨w.heap.size, 0, none⟩ 1 1 [.int .i64 k] rfl rfl (one_new w _ _) (one_c k) (by unfold maxLen; omega) (by omega) (by simp; omega) ?_))
  intro v8 z8 hown8 hgrow8 hnil8 hat8
  rcases hown8.2 with ⟨_, h0⟩ | ⟨g8, c8, cur8, rfl, hg81, hg82, hg83, hg84, hg85⟩
  · omega
  clear hg82 hg85
  have HI8 := HH.out.iq.step1 hown8 hgrow8 (by simpa using hat8)
  have hF0 : Fr (fun j => v.ownBlock = some j) w z8 := ((Fr.refl _ w).alloc _).grown hgrow8 (fun j _ e => e)
  have hF8 : Fr (MR R v v') w z8 := ((Fr.refl _ w).alloc _).grown hgrow8 (fun j _ e => Or.inr (Or.inl e))
  have z0 := (hF0.cell ql HH.out.n1).trans q0
  have z1 := (hF0.cell ql HH.out.n1).trans q1
  have zf0 := (hF0.frozen ql HH.out.n1).trans HH.out.f0
  have zf1 := (hF0.frozen ql HH.out.n1).trans HH.out.f1
  have zl : R < z8.heap.size := Nat.lt_of_lt_of_le ql hF0.size
  have hv8R : (Value.slice (some ⟨g8, 0, none⟩) (n + 1) c8).ownBlock ≠ some R := by
    rcases hat8 with e | e
    · rw [e]; exact HH.out.n1
    · rw [e]; simp; omega
  have HNW8 : Hk (∀ j, (Value.slice (some ⟨g8, 0, none⟩) (n + 1) c8).ownBlock = some j → MR R v v' j ∨ w.heap.size ≤ j) := ⟨fun j hj => by
    rcases hat8 with e | e
    · left; right; left; rw [← e]; exact hj
    · right; rw [e] at hj; simp at hj; omega⟩
  have HI9 := Hk.mk (Iq1.far HI8 ⟨R, 0, none⟩ (Value.slice (some ⟨g8, 0, none⟩) (n + 1) c8) hv8R HH.out.n2)
  have HF9 := Hk.mk (hF8.setCell (p := ⟨R, 0, none⟩) (fun _ => Or.inl rfl) (Value.slice (some ⟨g8, 0, none⟩) (n + 1) c8))
  have HZ9 : Hk (w.heap.size ≤ z8.heap.size) := ⟨hF0.size⟩
  have HV8R := Hk.mk hv8R
  clear hown8 hgrow8 hnil8 hat8 HI8 hF0 hF8 q0 q1 hv8R
  have y1 : (z8.setCell ⟨R, 0, none⟩ (Value.slice (some ⟨g8, 0, none⟩) (n + 1) c8)).cell? ⟨R, 1, none⟩ = some v' := by rw [World.cell?_setCell_other _ _ _ _ (by simp)]; exact z1
  have y0 : (z8.setCell ⟨R, 0, none⟩ (Value.slice (some ⟨g8, 0, none⟩) (n + 1) c8)).cell? ⟨R, 0, none⟩ = some (Value.slice (some ⟨g8, 0, none⟩) (n + 1) c8) := by go_simp
  have yf0 : (z8.setCell ⟨R, 0, none⟩ (Value.slice (some ⟨g8, 0, none⟩) (n + 1) c8)).frozen? ⟨R, 0, none⟩ = false := by rw [World.frozen?_setCell]; exact zf0
  have yf1 : (z8.setCell ⟨R, 0, none⟩ (Value.slice (some ⟨g8, 0, none⟩) (n + 1) c8)).frozen? ⟨R, 1, none⟩ = false := by rw [World.frozen?_setCell]; exact zf1
  have yl : R < (z8.setCell ⟨R, 0, none⟩ (Value.slice (some ⟨g8, 0, none⟩) (n + 1) c8)).heap.size := by simpa using zl
  have HY := Hk.mk (And.intro y0 (And.intro y1 (And.intro yf0 (And.intro yf1 yl))))
  have HSZ : Hk (w.heap.size ≤ (z8.setCell ⟨R, 0, none⟩ (Value.slice (some ⟨g8, 0, none⟩) (n + 1) c8)).heap.size) := ⟨by simpa using HZ9.out⟩
  clear y0 y1 yf0 yf1 yl z1 zf1
  go_upto_region 1 with fail
  clear z0 zf0 zl
  obtain ⟨W8, hW8⟩ : ∃ W8, z8.setCell ⟨R, 0, none⟩ (Value.slice (some ⟨g8, 0, none⟩) (n + 1) c8) = W8 := ⟨_, rfl⟩
  rw [hW8] at HI9 HF9 HY HSZ ⊢
  clear hW8
  obtain ⟨y0, y1, yf0, yf1, yl⟩ := HY.out
  go_wp2_with (at_builtin; go_must (refine wpList_append_own_at _ rfl _ _ 26 rfl base 3 ii (.int .i64 0) 1 8 Try.underlying26 hii hiz0 hiz1 hiz2 rfl (by decide) v' n _ rfl (HI9.out.rv.alloc _) ⟨W8.heap.size, 0, none⟩ 1 1 [.int .i64 y] rfl rfl (one_new W8 _ _) (one_c y) (by unfold maxLen; omega) (by omega) (by have := HSZ.out; simp; omega) ?_))
  intro v9 z9 hown9 hgrow9 hnil9 hat9
  rcases hown9.2 with ⟨_, h0⟩ | ⟨g9, c9, cur9, rfl, hg91, hg92, hg93, hg94, hg95⟩
  · omega
  clear hg92 hg95
  have HI10 := HI9.out.step2 (x := (k, y)) hown9 hgrow9 (by simpa using hat9)
  have hF0 : Fr (fun j => v'.ownBlock = some j) W8 z9 := ((Fr.refl _ W8).alloc _).grown hgrow9 (fun j _ e => e)
  have HF10 : Fr (MR R v v') w z9 := HF9.out.andThen hF0 (fun j hj e => Or.inr (Or.inr e))
  have x0 := (hF0.cell yl HH.out.n2).trans y0
  have x1 := (hF0.cell yl HH.out.n2).trans y1
  have xf0 := (hF0.frozen yl HH.out.n2).trans yf0
  have xf1 := (hF0.frozen yl HH.out.n2).trans yf1
  have xl : R < z9.heap.size := Nat.lt_of_lt_of_le yl hF0.size
  have hv9R : (Value.slice (some ⟨g9, 0, none⟩) (n + 1) c9).ownBlock ≠ some R := by
    rcases hat9 with e | e
    · rw [e]; exact HH.out.n2
    · rw [e]; simp; omega
  have HNW9 : Hk (∀ j, (Value.slice (some ⟨g9, 0, none⟩) (n + 1) c9).ownBlock = some j → MR R v v' j ∨ w.heap.size ≤ j) := ⟨fun j hj => by
    rcases hat9 with e | e
    · left; right; right; rw [← e]; exact hj
    · right
      rw [e] at hj
      simp at hj
      have := HSZ.out
      omega⟩
  have HI11 := Hk.mk (HI10.far ⟨R, 1, none⟩ (Value.slice (some ⟨g9, 0, none⟩) (n + 1) c9) HV8R.out hv9R)
  have HF11 := Hk.mk (HF10.setCell (p := ⟨R, 1, none⟩) (fun _ => Or.inl rfl) (Value.slice (some ⟨g9, 0, none⟩) (n + 1) c9))
  have HV9R := Hk.mk hv9R
  clear hown9 hgrow9 hnil9 hat9 HI10 hF0 HF10 y0 y1 yf0 yf1 yl hv9R
  have HX : Hk ((z9.setCell ⟨R, 1, none⟩ (Value.slice (some ⟨g9, 0, none⟩) (n + 1) c9)).cell? ⟨R, 0, none⟩ = some (Value.slice (some ⟨g8, 0, none⟩) (n + 1) c8) ∧ (z9.setCell ⟨R, 1, none⟩ (Value.slice (some ⟨g9, 0, none⟩) (n + 1) c9)).cell? ⟨R, 1, none⟩ = some (Value.slice (some ⟨g9, 0, none⟩) (n + 1) c9) ∧ (z9.setCell ⟨R, 1, none⟩ (Value.slice (some ⟨g9, 0, none⟩) (n + 1) c9)).frozen? ⟨R, 0, none⟩ = false ∧ (z9.setCell ⟨R, 1, none⟩ (Value.slice (some ⟨g9, 0, none⟩) (n + 1) c9)).frozen? ⟨R, 1, none⟩ = false ∧ R < (z9.setCell ⟨R, 1, none⟩ (Value.slice (some ⟨g9, 0, none⟩) (n + 1) c9)).heap.size) :=
    ⟨by rw [World.cell?_setCell_other _ _ _ _ (by simp)]; exact x0, by go_simp, by rw [World.frozen?_setCell]; exact xf0, by rw [World.frozen?_setCell]; exact xf1, by simpa using xl⟩
  clear x0 xf0
  go_wp2
  go_end0
  exact ⟨rfl, (Value.slice (some ⟨g8, 0, none⟩) (n + 1) c8), (Value.slice (some ⟨g9, 0, none⟩) (n + 1) c9), ⟨HX.out.1, HX.out.2.1, HX.out.2.2.1, HX.out.2.2.2.1, HX.out.2.2.2.2, hbs, HI11.out, HV8R.out, HV9R.out⟩, HF11.out, fun j hj => by
    rcases hj with e | e | e
    · exact Or.inl (Or.inl e)
    · exact HNW8.out j e
    · exact HNW9.out j e⟩
end Go.Proofs.Ytjjodfdmbiebnaa
