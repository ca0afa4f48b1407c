import Derived.Deep.QuietTactic
import Derived.BigQuiet
import Derived.Deep.RegionWith
import Derived.Deep.RegionHeld3
import Derived.Deep.DeepCutAuto
import Derived.Deep.DeepFit
import Derived.Outline
import Derived.Test.YthabjihpjdlmoaaDoorFky
import Derived.Lib.JoinLaws
import Derived.ArgAppend
/- Plain words of layer 13: a tile that becomes a road. -/
namespace Go.Proofs.YthabjihpjdlmoaaDoor
open Go.RowKit
set_option linter.unusedVariables false
/-- The tiles with a road at k. -/
def rdL (xs : List Int) (k : Nat) : List Int := xs.set k 1
theorem rdL_at {xs : List Int} {k : Nat} (h : k < xs.length) : (rdL xs k).getD k 0 = 1 := by unfold rdL; simp [List.getD, h]
theorem rdL_far {xs : List Int} {k j : Nat} (h : j ≠ k) : (rdL xs k).getD j 0 = xs.getD j 0 := by
  unfold rdL
  simp [List.getD, List.getElem?_set_ne (Ne.symm h)]
theorem gok_road {W H : Int} {n k : Nat} {xs : List Int} (G : GOk W H n xs) : GOk W H n (rdL xs k) := ⟨G.w1, G.w2, G.h1, G.h2, G.nn, fun x hx => by
  unfold rdL at hx
  rcases List.mem_or_eq_of_mem_set hx with h | h
  · exact G.ts x h
  · omega⟩
theorem frB_road {W : Int} {xs : List Int} {k : Nat} {b : Bd} (h : frB W xs b = true) : frB W (rdL xs k) b = true := by
  unfold frB at *
  rw [List.all_eq_true] at *
  intro t ht
  have h1 := h t ht
  rw [decide_eq_true_iff] at *
  by_cases e : t.toNat = k
  · rw [e]
    by_cases hk : k < xs.length
    · rw [rdL_at hk]; omega
    · unfold rdL
      rw [List.set_eq_of_length_le (by omega), ← e]
      exact h1
  · rw [rdL_far e]
    exact h1
theorem mok_road {W H : Int} {n k : Nat} {xs : List Int} {bs : List Bd} (M : MOk W H n xs bs) : MOk W H n (rdL xs k) bs := ⟨gok_road M.g, M.len, M.asc, M.fm, M.ins, fun b hb => frB_road (M.fr b hb), M.ap⟩
theorem ct_road {cl : Nat} (h : cl < 3) : ctS cl 1 = 1 := by
  have hc : cl = 0 ∨ cl = 1 ∨ cl = 2 := by omega
  rcases hc with rfl | rfl | rfl <;> rfl
theorem opn_road {W : Int} {xs : List Int} {bs : List Bd} {cl k j : Nat} (hc : cl < 3) (h : opn W xs bs cl j = true) : opn W (rdL xs k) bs cl j = true := by
  unfold opn at *
  rw [Bool.and_eq_true] at *
  refine ⟨?_, h.2⟩
  by_cases e : j = k
  · subst e
    by_cases hk : j < xs.length
    · rw [rdL_at hk]
      show opB cl (1 : Int).toNat = true
      unfold opB
      rw [show (1 : Int).toNat = 1 from rfl, ct_road hc]
      decide
    · unfold rdL
      rw [List.set_eq_of_length_le (by omega)]
      exact h.1
  · rw [rdL_far e]
    exact h.1
theorem kcF_road {xs : List Int} {cl k j : Nat} (hc : cl < 3) (h : 0 < kcF cl xs j) : kcF cl (rdL xs k) j ≤ kcF cl xs j := by
  unfold kcF at *
  by_cases e : j = k
  · subst e
    by_cases hk : j < xs.length
    · rw [rdL_at hk, show (1 : Int).toNat = 1 from rfl, ct_road hc]
      omega
    · unfold rdL
      rw [List.set_eq_of_length_le (by omega)]
      exact Int.le_refl _
  · rw [rdL_far e]
    exact Int.le_refl _
theorem opXY_mono {W H : Int} {f g : Nat → Bool} (h : ∀ k, f k = true → g k = true) {x y : Int} (e : opXY W H f x y = true) : opXY W H g x y = true := by
  unfold opXY at *
  rw [Bool.and_eq_true] at *
  exact ⟨e.1, h _ e.2⟩
theorem sqB_mono13 {W H : Int} {f g : Nat → Bool} (h : ∀ k, f k = true → g k = true) (m : Nat) (x y : Int) (e : sqB (opXY W H f) m x y = true) : sqB (opXY W H g) m x y = true := by
  match m, e with
  | 0, _ => rfl
  | r + 1, e =>
    refine (sq_iff (opXY W H g) r x y).2 fun i j i1 i2 j1 j2 => ?_
    have := (sq_iff (opXY W H f) r x y).1 e i j i1 i2 j1 j2
    unfold opXY at this ⊢
    rw [Bool.and_eq_true] at this ⊢
    exact ⟨this.1, h _ this.2⟩
theorem sC_mono13 {W H : Int} {f g : Nat → Bool} (hW : W ≤ 128) (h : ∀ k, f k = true → g k = true) (k : Nat) : sC W H f k ≤ sC W H g k := by
  unfold sC
  exact (sV_iff hW _ _ _).2 (sqB_mono13 h _ _ _ ((sV_iff hW _ _ _).1 (Nat.le_refl _)))
theorem gdF_road {W H : Int} {xs : List Int} {bs : List Bd} {cl s k j : Nat} (hW : W ≤ 128) (hc : cl < 3) (g : gdF W H xs bs cl s j = true) : gdF W H (rdL xs k) bs cl s j = true := by
  unfold gdF at *
  rw [decide_eq_true_iff] at *
  have := sC_mono13 (W := W) (H := H) (f := opn W xs bs cl) (g := opn W (rdL xs k) bs cl) hW (fun q h => opn_road hc h) j
  omega
theorem tab_roads {W H : Int} {n g s cl k : Nat} {xs : List Int} {bs : List Bd} {D D' : Nat → Int} (hW : W ≤ 128) (hc : cl < 3) (h : TabG n (tT W H (gdF W H xs bs cl s)) (tC W H (kcF cl xs)) g (gdF W H xs bs cl s g) D) (h' : TabG n (tT W H (gdF W H (rdL xs k) bs cl s)) (tC W H (kcF cl (rdL xs k))) g (gdF W H (rdL xs k) bs cl s g) D') :
    ∀ t, t < n → 0 ≤ D t → 0 ≤ D' t ∧ D' t ≤ D t := fun t ht h0 => by
  unfold TabG at h h'
  by_cases c : gdF W H xs bs cl s g = true
  · rw [if_pos c] at h
    rw [if_pos (gdF_road hW hc c)] at h'
    exact h.mono h' (step_mono (fun t q => gdF_road hW hc q) (fun t q => kcF_road hc (gdF_open hW q))) ht h0
  · rw [if_neg c] at h
    have := h t ht
    omega
theorem tabG_good {W H : Int} {n g : Nat} {gd : Nat → Bool} {kc D : Nat → Int} (h : TabG n (tT W H gd) (tC W H kc) g (gd g) D) {t : Nat} (ht : t < n) (h0 : 0 ≤ D t) : gd g = true ∧ gd t = true ∧ Tab n (tT W H gd) (tC W H kc) g D := by
  unfold TabG at h
  by_cases c : gd g = true
  · rw [if_pos c] at h
    refine ⟨c, ?_, h⟩
    rcases h.last ht h0 with e | ⟨s, i, hs, hi, e⟩
    · rw [e]; exact c
    · have := (step_good (W := W) (H := H) (gd := gd) (t := s) (i := i) (by omega)).2
      rw [e] at this
      simpa using this
  · rw [if_neg c] at h
    have := h t ht
    omega
theorem tabG_low {n g : Nat} {T C : Nat → Nat → Int} {ok : Bool} {D : Nat → Int} (h : TabG n T C g ok D) {t : Nat} (ht : t < n) : -1 ≤ D t := by
  unfold TabG at h
  cases ok
  · rw [if_neg (by decide)] at h; rw [h t ht]; omega
  · rw [if_pos rfl] at h; exact h.low t ht
theorem tabG_of {n g : Nat} {T C : Nat → Nat → Int} {ok : Bool} {D : Nat → Int} (h : TabG n T C g ok D) (e : ok = true) : Tab n T C g D := by
  unfold TabG at h
  rw [if_pos e] at h
  exact h
theorem tabG_sym {W H : Int} {n g t : Nat} {gd : Nat → Bool} {kc D D' : Nat → Int} (hW : 1 ≤ W) (hn : (n : Int) = W * H) (hS : Stp n (tT W H gd) (tC W H kc)) (h : TabG n (tT W H gd) (tC W H kc) g (gd g) D) (h' : TabG n (tT W H gd) (tC W H kc) t (gd t) D') (hg : g < n) (ht : t < n) : D t = D' g := by
  have a := tabG_low h ht
  have b := tabG_low h' hg
  by_cases c : 0 ≤ D t
  · obtain ⟨g1, g2, T1⟩ := tabG_good h ht c
    exact T1.sym (tabG_of h' g2) hS (step_back hW hn) hg ht
  · by_cases d : 0 ≤ D' g
    · obtain ⟨g1, g2, T1⟩ := tabG_good h' hg d
      exact (T1.sym (tabG_of h g2) hS (step_back hW hn) ht hg).symm
    · omega
theorem tabG_tri {W H : Int} {n g t u : Nat} {gd : Nat → Bool} {kc D D' : Nat → Int} (h : TabG n (tT W H gd) (tC W H kc) g (gd g) D) (h' : TabG n (tT W H gd) (tC W H kc) t (gd t) D') (ht : t < n) (hu : u < n) (h0 : 0 ≤ D t) (h1 : 0 ≤ D' u) : 0 ≤ D u ∧ D u ≤ D t + D' u := by
  obtain ⟨_, _, T1⟩ := tabG_good h ht h0
  obtain ⟨_, _, T2⟩ := tabG_good h' hu h1
  exact T1.tri T2 ht hu h0 h1
theorem tabG_self {n g : Nat} {T C : Nat → Nat → Int} {ok : Bool} {D : Nat → Int} (h : TabG n T C g ok D) (hg : g < n) : D g ≤ 0 := by
  unfold TabG at h
  cases ok
  · rw [if_neg (by decide)] at h; rw [h g hg]; omega
  · rw [if_pos rfl] at h; rw [h.at0]; omega
end Go.Proofs.YthabjihpjdlmoaaDoor
/- Layer 13: the reference's row of tiles that wait: taken off ahead, put on behind. -/
namespace Go.Proofs.YthabjihpjdlmoaaDoor
open Go.ChangeShapes Go.WideShapes Go.ChangeAt Go.RowKit Go.Deep
set_option linter.unusedVariables false
set_option linter.unusedSimpArgs false
/-- m tiles that wait, from o on in block g; c cells are there. -/
structure Tq (w : World) (base g o m c : Nat) (L : Nat → Nat) : Prop where
  bs : base ≤ g
  lt : g < w.heap.size
  le : m ≤ c
  mx : c ≤ maxLen
  cell : ∀ k, k < m → w.cell? ⟨g, o + k, none⟩ = some (.int .i64 (L k))
  room : ∀ k, k < c → (w.cell? ⟨g, o + k, none⟩).isSome = true ∧ w.frozen? ⟨g, o + k, none⟩ = false
theorem Tq.fr {w w' : World} {base g o m c : Nat} {L : Nat → Nat} {M : Nat → Prop} (h : Tq w base g o m c L) (k : Fr M w w') (hg : ¬ M g) : Tq w' base g o m c L :=
  ⟨h.bs, Nat.lt_of_lt_of_le h.lt k.size, h.le, h.mx, fun j hj => (k.cell h.lt hg).trans (h.cell j hj), fun j hj => by
    rw [k.cell h.lt hg, k.frozen h.lt hg]; exact h.room j hj⟩
theorem Tq.later {w w' : World} {base g o m c : Nat} {L : Nat → Nat} (h : Tq w base g o m c L) (k : Below w.heap.size w w') : Tq w' base g o m c L :=
  h.fr (M := fun j => w.heap.size ≤ j) (Fr.of_below k) (by have := h.lt; omega)
theorem Tq.drew {w : World} {base g o m c : Nat} {L : Nat → Nat} (h : Tq w base g o m c L) : Tq w.drew base g o m c L := ⟨h.bs, h.lt, h.le, h.mx, h.cell, h.room⟩
theorem Tq.farJ {w : World} {base g o m c J : Nat} {L : Nat → Nat} (h : Tq w base g o m c L) (hJ : J < base) (p : Nat) (v : Value) : Tq (w.setCell ⟨J, p, none⟩ v) base g o m c L :=
  h.fr (M := fun j => j = J) ((Fr.refl (fun j => j = J) w).setCell (p := ⟨J, p, none⟩) (fun _ => rfl) v) (by have := h.bs; omega)
/-- The first one taken off. -/
def cutO (o c : Nat) : Nat := if c = 1 then o else o + 1
theorem Tq.cut {w : World} {base g o m c : Nat} {L : Nat → Nat} (h : Tq w base g o (m + 1) c L) : Tq w base g (cutO o c) m (c - 1) (fun k => L (k + 1)) := by
  have := h.le
  have := h.mx
  unfold cutO
  refine ⟨h.bs, h.lt, by omega, by omega, fun k hk => ?_, fun k hk => ?_⟩
  · rw [if_neg (by omega), show o + 1 + k = o + (k + 1) by omega]
    exact h.cell (k + 1) (by omega)
  · rw [if_neg (by omega), show o + 1 + k = o + (k + 1) by omega]
    exact h.room (k + 1) (by omega)
theorem slice1_any (g o m c : Nat) (hm : m + 1 ≤ c) (hc : c ≤ 9223372036854775807) : ∀ w, (Instr.slice 26 (.slice (some ⟨g, o, none⟩) (m + 1) c) (some (.int .i64 1)) none none).run Tryd.prog w = .ok (.slice (some ⟨g, cutO o c, none⟩) m (c - 1)) w := by
  intro w
  unfold cutO
  by_cases h : c = 1
  · subst h
    obtain rfl : m = 0 := by omega
    go_simp
  · go_simp
    intro hh
    omega
theorem Tq.grown {w w' : World} {v : Value} {m u : Nat} {L : Nat → Nat} {xs : List Value} (h : w'.ownsRow w.heap.size 3 1 v (m + 1) xs) (hx : ∀ k, k < m + 1 → xs[k]? = some (.int .i64 (if k = m then u else L k : Nat))) :
    ∃ g c, v = .slice (some ⟨g, 0, none⟩) (m + 1) c ∧ w.heap.size ≤ g ∧ Tq w' w.heap.size g 0 (m + 1) c (fun k => if k = m then u else L k) := by
  rcases h.2 with ⟨_, h0⟩ | ⟨g, cap, cur, e, hg, hh, hc, hmx, hsz, htk⟩
  · omega
  have hlt : g < w'.heap.size := by
    obtain ⟨h1, _⟩ := Array.getElem?_eq_some_iff.1 hh
    exact h1
  have hcell : ∀ k, k < cap → ∃ x, cur[k]? = some x := fun k hk => ⟨cur[k]'(by omega), Array.getElem?_eq_getElem (by omega)⟩
  refine ⟨g, cap, e, hg, ⟨hg, hlt, hc, hmx, fun k hk => ?_, fun k hk => ?_⟩⟩
  · have h1 := hx k hk
    rw [← htk, List.getElem?_take, if_pos (by omega), Array.getElem?_toList] at h1
    simp [World.cell?, hh, h1]
  · obtain ⟨x, hx⟩ := hcell k hk
    constructor
    · simp [World.cell?, hh, hx]
    · simp [World.frozen?, hh]
set_option maxRecDepth 100000 in
theorem wpList_append_tq {w : World} {ops : Array Oper} {rest : List Oper} {o : Oper} {a : Act} {Q : Exit → Act → World → Prop} (hgd : o.guard = none) (s x : Operand)
    (hop : o.op = .call { callee := .builtin .append, args := #[s, x], argTypes := #[26, 26] })
    (i : TypeInfo) (hi : Tryd.prog.info? 3 = some i) (hz0 : i.zero = some (.int .i64 0)) (hz1 : i.size = 1) (hz2 : i.bytes = 8)
    (base g of m c : Nat) (L : Nat → Nat) (h : Tq w base g of m c L) (hs : a.eval s = .slice (some ⟨g, of, none⟩) m c) (u S : Nat) (hx : a.eval x = .slice (some ⟨S, 0, none⟩) 1 1) (hS : w.cell? ⟨S, 0, none⟩ = some (.int .i64 u)) (hm : m ≤ 100000000000)
    (hK : ∀ g' o' c' w', Tq w' base g' o' (m + 1) c' (fun k => if k = m then u else L k) → Fr (fun j => j = g) w w' → (g' = g ∨ w.heap.size ≤ g') → wpList Tryd.prog ops Q rest (a.put o.dst (.slice (some ⟨g', o', none⟩) (m + 1) c')) w') :
    wpList Tryd.prog ops Q (o :: rest) a w := by
  have hc8 : ∀ j v, ([Value.int .i64 u] : List Value)[j]? = some v → w.cell? ((⟨S, 0, none⟩ : Addr).add j) = some v := fun j v hj => by
    match j, hj with
    | 0, hj => simp at hj; rw [← hj]; exact hS
    | j + 1, hj => simp at hj
  have hone : ∀ v ∈ ([Value.int .i64 u] : List Value), v.oneCell' = true := fun v hv => by
    simp at hv; rw [hv]; rfl
  have hbs := h.bs
  have hlt := h.lt
  by_cases hr : m + 1 ≤ c
  · refine wpList_append_room_src w hgd s x 26 26 hop 3 i Tryd.underlying26 hi g of m c hs _ hx 1 [.int .i64 u] (by rw [hz1]; exact Src.ofSlice w Tryd.underlying26 ⟨S, 0, none⟩ 1 1 [.int .i64 u] rfl hc8 hone) hr ?_ ?_ ?_
    · intro j hj
      rw [hz1]
      simp at hj
      subst hj
      simpa using (h.room m (by omega)).1
    · intro j hj
      rw [hz1]
      simp at hj
      subst hj
      simpa using (h.room m (by omega)).2
    · rw [hz1, Nat.mul_one]
      show wpList _ _ _ _ _ (w.setCell ⟨g, of + m, none⟩ (.int .i64 u))
      refine hK g of c _ ⟨hbs, by simpa using hlt, hr, h.mx, fun k hk => ?_, fun k hk => ?_⟩ ((Fr.refl (fun j => j = g) w).setCell (p := ⟨g, of + m, none⟩) (fun _ => rfl) _) (Or.inl rfl)
      · by_cases e : k = m
        · subst e
          rw [if_pos rfl]
          have := (h.room k (by omega)).1
          obtain ⟨y, hy⟩ := Option.isSome_iff_exists.1 this
          go_simp
        · rw [if_neg e, World.cell?_setCell_other _ _ _ _ (by simp; try omega)]
          exact h.cell k (by omega)
      · have h1 := h.room k hk
        refine ⟨?_, by rw [World.frozen?_setCell]; exact h1.2⟩
        by_cases e : k = m
        · subst e
          obtain ⟨y, hy⟩ := Option.isSome_iff_exists.1 h1.1
          go_simp
        · rw [World.cell?_setCell_other _ _ _ _ (by simp; try omega)]
          exact h1.1
  · have hle := h.le
    have hmx : maxLen = 9223372036854775807 := rfl
    refine wpList_append_grows w hgd s x 26 hop 3 i (.int .i64 0) 1 8 Tryd.underlying26 hi hz0 hz1 hz2 rfl (by omega) (some ⟨g, of, none⟩) m c ((List.range m).map fun k => .int .i64 (L k)) hs (fun q => by cases q) (by simp) ?_ ⟨S, 0, none⟩ 1 1 [.int .i64 u] hx rfl hc8 hone (by omega) (by omega) (by omega) ?_
    · rintro b hb j v hj
      injection hb with hb
      subst hb
      rw [List.getElem?_map] at hj
      by_cases hjm : j < m
      · rw [List.getElem?_range hjm] at hj
        simp at hj
        rw [← hj, Addr.add_lit]
        exact h.cell j hjm
      · rw [List.getElem?_eq_none (by simp; omega)] at hj
        simp at hj
    · intro v' w' hown hgrow
      obtain ⟨g', c', e, hg', ht⟩ := Tq.grown (m := m) (u := u) (L := L) hown (fun k hk => by
        by_cases e : k = m
        · subst e
          rw [List.getElem?_append_right (by simp)]
          simp
        · rw [if_neg e, List.getElem?_append_left (by simp; omega), List.getElem?_map, List.getElem?_range (by omega)]
          rfl)
      subst e
      exact hK g' 0 c' w' ⟨by omega, ht.lt, ht.le, ht.mx, ht.cell, ht.room⟩ ((Fr.refl _ w).grown hgrow (fun j _ e => by cases e)) (Or.inr hg')
end Go.Proofs.YthabjihpjdlmoaaDoor
/- Layer 13: the reference's step. -/
namespace Go.Proofs.YthabjihpjdlmoaaDoor
open Go.ChangeShapes Go.WideShapes Go.ChangeAt Go.RowKit Go.Deep
set_option linter.unusedVariables false
set_option linter.unusedSimpArgs false
set_option maxRecDepth 100000 in
set_option maxHeartbeats 1600000 in
theorem rstep_any (W H : Int) (bb off n c : Nat) (xs : List Int) (gd : Nat → Bool) (cl t i I NB nc : Nat) (w : World) (h : By w w.heap.size (some ⟨bb, off, none⟩) n xs) (hA : Arr w I n 4 (fun k => .bool (gd k))) (hN : ∀ j, j < 8 → w.cell? ⟨NB, j, none⟩ = some (.int .i64 (nb W H t j))) (GG : Hk (GOk W H n xs)) (hc3 : cl < 3) (ht : t < n) (hi : i < 8) (hnc : 8 ≤ nc) :
    Calls Tryd.prog 59 #[.agg #[.int .i64 W, .int .i64 H, .slice (some ⟨bb, off, none⟩) n c], .slice (some ⟨I, 0, none⟩) n n, .int .i64 cl, .int .i64 t, .slice (some ⟨NB, 0, none⟩) 8 nc, .int .i64 i, .int .i64 (-1)] w fun e w' => e = .returned (.int .i64 (tD W H gd (kcF cl xs) t i)) ∧ Below w.heap.size w w' := by
  have HWB : Hk (Below w.heap.size w (w.alloc (.cells #[.int .i64 W, .int .i64 H, .slice (some ⟨bb, off, none⟩) n c] 24))) := ⟨(Below.refl _ _).alloc (Nat.le_refl _) _⟩
  have hNW : w.heap.size + 1 ≤ ((w.alloc (.cells #[.int .i64 W, .int .i64 H, .slice (some ⟨bb, off, none⟩) n c] 24))).heap.size := by simp
  have HB : Hk (Below (w.heap.size + 1) (w.alloc (.cells #[.int .i64 W, .int .i64 H, .slice (some ⟨bb, off, none⟩) n c] 24)) (w.alloc (.cells #[.int .i64 W, .int .i64 H, .slice (some ⟨bb, off, none⟩) n c] 24))) := ⟨Below.refl _ _⟩
  have HTR : Hk (∀ X, Below (w.heap.size + 1) (w.alloc (.cells #[.int .i64 W, .int .i64 H, .slice (some ⟨bb, off, none⟩) n c] 24)) X → Below w.heap.size w X) := ⟨fun X hX => HWB.out.trans (hX.mono (by omega))⟩
  obtain ⟨bb', off', hae, hbl, hcc⟩ := h.at_ (by omega)
  injection hae with hae
  injection hae with hae1 hae2
  subst hae1 hae2
  have hI := hA.lt
  have hNB := World.block_lt_of_cell? _ _ (hN 0 (by omega))
  have HNC := Hk.mk hN
  have HA := Hk.mk hA
  have HY := Hk.mk h
  have DM : Hk (Dm W H n) := ⟨dm_of GG.out⟩
  have n16 := DM.out.n16
  have HST : Hk (∀ k, stOk W H gd t k ↔ (0 ≤ nb W H t k ∧ gd t = true ∧ gd (nb W H t k).toNat = true ∧ (4 ≤ k → gd (nb W H t (k - 4)).toNat = true ∧ gd (nb W H t ((k - 3) % 4)).toNat = true))) := ⟨fun k => Iff.rfl⟩
  have HTT : Hk (∀ k, (stOk W H gd t k → tD W H gd (kcF cl xs) t k = (if k < 4 then 5 else 7) * (kcF cl xs t + kcF cl xs (nb W H t k).toNat)) ∧ (¬ stOk W H gd t k → tD W H gd (kcF cl xs) t k = 0)) := ⟨fun k => ⟨fun h => if_pos h, fun h => if_neg h⟩⟩
  have HNB : Hk (∀ j, j < 8 → 0 ≤ nb W H t j → nb W H t j < (n : Int)) := ⟨fun j _ h => by rw [DM.out.nn]; exact nb_lt DM.out.w1 rfl h⟩
  have HSB : Hk (∀ k, 4 ≤ k → k < 8 → 0 ≤ nb W H t k → (0 ≤ nb W H t (k - 4) ∧ nb W H t (k - 4) < (n : Int)) ∧ 0 ≤ nb W H t ((k - 3) % 4) ∧ nb W H t ((k - 3) % 4) < (n : Int)) := ⟨fun k h4 h8 h => by have := DM.out.nn; rw [this]; exact nb_side DM.out.w1 (by omega) h4 h8 h⟩
  have n0 := hN i hi
  clear hN hA h
  generalize nb W H t = N at *
  generalize stOk W H gd t = OK at *
  generalize hD : tD W H gd (kcF cl xs) t = D at *
  have HTD := Hk.mk hD
  clear hD
  have HCC := Hk.mk hcc
  clear hcc
  have i0 : (0 : Int) ≤ (i : Int) := by omega
  have i1 : (i : Int) < 8 := by omega
  have t0 : (0 : Int) ≤ (t : Int) := by omega
  have t1 : (t : Int) < (n : Int) := by omega
  have at0 := HA.out.cell ht
  obtain ⟨hc, hf, hl, hn', hm⟩ := kw_rules HB.out hNW
  by_cases a1 : N i < 0
  · have d1 : decide (N i < 0) = true := by simpa using a1
    have hno : ¬ OK i := fun h => by have := ((HST.out i).1 h).1; omega
    have hv := (HTT.out i).2 hno
    go_enter Tryd.func59, Tryd.ntmps59
    go_wp2_with fail
    go_ret
    exact ⟨by first | rfl | (rw [hv]; rfl) | (rw [HTD.out, hv]; rfl), HTR.out _ HB.out⟩
  obtain ⟨u, hu⟩ : ∃ u : Nat, N i = u := ⟨(N i).toNat, by omega⟩
  have hun : u < n := by have := HNB.out i hi (by omega); omega
  have ut : (N i).toNat = u := by omega
  have at1 := HA.out.cell hun
  have u0 : (0 : Int) ≤ (u : Int) := by omega
  have u1 : (u : Int) < (n : Int) := by omega
  have d1 : decide ((u : Int) < 0) = false := by simp
  have hSk := HST.out i
  rw [ut] at hSk
  have hTk := HTT.out i
  rw [ut] at hTk
  have hi0 : 0 ≤ N i := by omega
  rw [hu] at n0
  clear hu ut a1
  have HSK := Hk.mk hSk
  have HTK := Hk.mk hTk
  have HI0 := Hk.mk hi0
  clear hSk hTk hi0
  by_cases g1' : gd t = false
  · have hno : ¬ OK i := fun h => by have := ((HSK.out).1 h).2.1; rw [g1'] at this; cases this
    have hv := HTK.out.2 hno
    rw [g1'] at at0
    go_enter Tryd.func59, Tryd.ntmps59
    go_wp2_with fail
    go_ret
    exact ⟨by first | rfl | (rw [hv]; rfl) | (rw [HTD.out, hv]; rfl), HTR.out _ HB.out⟩
  have g1 : gd t = true := by simpa using g1'
  rw [g1] at at0
  by_cases g2' : gd u = false
  · have hno : ¬ OK i := fun h => by have := ((HSK.out).1 h).2.2.1; rw [g2'] at this; cases this
    have hv := HTK.out.2 hno
    rw [g2'] at at1
    go_enter Tryd.func59, Tryd.ntmps59
    go_wp2_with fail
    go_ret
    exact ⟨by first | rfl | (rw [hv]; rfl) | (rw [HTD.out, hv]; rfl), HTR.out _ HB.out⟩
  have g2 : gd u = true := by simpa using g2'
  rw [g2] at at1
  have HG := Hk.mk (And.intro g1 g2)
  clear g1 g2 g1' g2'
  have p0 := HCC.out t ht
  have p1 := HCC.out u hun
  have hx := HY.out.bd ht
  have hy := HY.out.bd hun
  have hx5 := GG.out.ts (xs.getD t 0) (getD_mem (by rw [HY.out.len]; exact ht))
  have hy5 := GG.out.ts (xs.getD u 0) (getD_mem (by rw [HY.out.len]; exact hun))
  obtain ⟨x, hxx⟩ : ∃ x : Nat, xs.getD t 0 = x := ⟨(xs.getD t 0).toNat, by omega⟩
  obtain ⟨y, hyy⟩ : ∃ y : Nat, xs.getD u 0 = y := ⟨(xs.getD u 0).toNat, by omega⟩
  rw [hxx] at p0 hx hx5
  rw [hyy] at p1 hy hy5
  obtain ⟨r, hr⟩ : ∃ r, ctS cl x = r := ⟨_, rfl⟩
  obtain ⟨q, hq⟩ : ∃ q, ctS cl y = q := ⟨_, rfl⟩
  have HRX := Hk.mk hr
  have HRY := Hk.mk hq
  have hrb : 0 ≤ r ∧ r ≤ 6 := by rw [← hr]; exact ct_abs _ _
  have hqb : 0 ≤ q ∧ q ≤ 6 := by rw [← hq]; exact ct_abs _ _
  have hkt : kcF cl xs t = r := by unfold kcF; rw [hxx]; simpa using hr
  have hku : kcF cl xs u = q := by unfold kcF; rw [hyy]; simpa using hq
  have hTk := HTK.out
  rw [hkt, hku] at hTk
  have HTK := Hk.mk hTk
  have hbw : bb < w.heap.size + 1 := by omega
  have hwr : IntKind.i64.wrap (r + q) = r + q := wr_in (by omega)
  have hwr2 : wrap64 (r + q) = r + q := by unfold wrap64; omega
  clear hTk hkt hku hxx hyy hr hq
  by_cases k4 : i < 4
  · have d4 : decide ((i : Int) < 4) = true := by simp; omega
    have hyes : OK i := HSK.out.2 ⟨HI0.out, HG.out.1, HG.out.2, fun q => absurd q (by omega)⟩
    have hv := HTK.out.1 hyes
    rw [if_pos k4] at hv
    have HV := Hk.mk hv
    clear hv hyes
    go_enter Tryd.func59, Tryd.ntmps59
    go_upto_region 4 with fail
    refine wp_region_held_drew (S := (fun X => (∀ b o, b < w.heap.size + 1 → X.cell? ⟨b, o, none⟩ = ((w.alloc (.cells #[.int .i64 W, .int .i64 H, .slice (some ⟨bb, off, none⟩) n c] 24))).cell? ⟨b, o, none⟩) ∧ Below (w.heap.size + 1) (w.alloc (.cells #[.int .i64 W, .int .i64 H, .slice (some ⟨bb, off, none⟩) n c] 24)) X)) (by kernel_rfl) ?_ (fun hHeld => ?_)
    · exact kw_S (kw_drew HB.out)
    refine wpAnyH_take (i := 0) (v := ?_) rfl (by kernel_rfl) (by kernel_rfl) (by kernel_rfl) (fun _ _ _ h => h) (Or.inl ⟨by rfl, fun wX hSw => ?_⟩) (by assumption) ?_
    rotate_left
    · (try dsimp only at hSw); go_simp; try with_reducible rfl
    (try simp only [Act.put, List.getElem_toArray, List.getElem_cons_succ, List.getElem_cons_zero, List.setIfInBounds_toArray, List.set_cons_zero, List.set_cons_succ])
    refine wpAnyH_take (i := 1) (v := ?_) rfl (by kernel_rfl) (by kernel_rfl) (by kernel_rfl) (fun _ _ _ h => h) (Or.inl ⟨by rfl, fun wX hSw => ?_⟩) (by assumption) ?_
    rotate_left
    · (try dsimp only at hSw); go_simp; try with_reducible rfl
    (try simp only [Act.put, List.getElem_toArray, List.getElem_cons_succ, List.getElem_cons_zero, List.setIfInBounds_toArray, List.set_cons_zero, List.set_cons_succ])
    refine wpAnyH_take (i := 2) (v := ?_) rfl (by kernel_rfl) (by kernel_rfl) (by kernel_rfl) (fun _ _ _ h => h) (Or.inl ⟨by rfl, fun wX hSw => ?_⟩) (by assumption) ?_
    rotate_left
    · (try dsimp only at hSw); go_simp; try with_reducible rfl
    (try simp only [Act.put, List.getElem_toArray, List.getElem_cons_succ, List.getElem_cons_zero, List.setIfInBounds_toArray, List.set_cons_zero, List.set_cons_succ])
    refine wpAnyH_take (i := 3) (v := ?_) rfl (by kernel_rfl) (by kernel_rfl) (by kernel_rfl) (fun _ _ _ h => h) (Or.inl ⟨by rfl, fun wX hSw => ?_⟩) (by assumption) ?_
    rotate_left
    · (try dsimp only at hSw); go_simp; try with_reducible rfl
    (try simp only [Act.put, List.getElem_toArray, List.getElem_cons_succ, List.getElem_cons_zero, List.setIfInBounds_toArray, List.set_cons_zero, List.set_cons_succ])
    refine wpAnyH_take (i := 4) (v := ?_) rfl (by kernel_rfl) (by kernel_rfl) (by kernel_rfl) (fun _ _ _ h => h) (Or.inl ⟨by rfl, fun wX hSw => ?_⟩) (by assumption) ?_
    rotate_left
    · (try dsimp only at hSw); go_simp; try with_reducible rfl
    (try simp only [Act.put, List.getElem_toArray, List.getElem_cons_succ, List.getElem_cons_zero, List.setIfInBounds_toArray, List.set_cons_zero, List.set_cons_succ])
    refine wpAnyH_take (i := 5) (v := ?_) rfl (by kernel_rfl) (by kernel_rfl) (by kernel_rfl) (fun _ _ _ h => h) (Or.inl ⟨by rfl, fun wX hSw => ?_⟩) (by assumption) ?_
    rotate_left
    · (try dsimp only at hSw); go_simp; try with_reducible rfl
    (try simp only [Act.put, List.getElem_toArray, List.getElem_cons_succ, List.getElem_cons_zero, List.setIfInBounds_toArray, List.set_cons_zero, List.set_cons_succ])
    refine wpAnyH_take (i := 7) (v := ?_) rfl (by kernel_rfl) (by kernel_rfl) (by kernel_rfl) (fun _ _ _ h => h) (Or.inl ⟨by rfl, fun wX hSw => ?_⟩) (by assumption) ?_
    rotate_left
    · (try dsimp only at hSw); go_simp; try with_reducible rfl
    (try simp only [Act.put, List.getElem_toArray, List.getElem_cons_succ, List.getElem_cons_zero, List.setIfInBounds_toArray, List.set_cons_zero, List.set_cons_succ])
    refine wpAnyH_take (i := 8) (v := ?_) rfl (by kernel_rfl) (by kernel_rfl) (by kernel_rfl) (fun _ _ _ h => h) (Or.inl ⟨by rfl, fun wX hSw => ?_⟩) (by assumption) ?_
    rotate_left
    · (try dsimp only at hSw); go_simp; try with_reducible rfl
    (try simp only [Act.put, List.getElem_toArray, List.getElem_cons_succ, List.getElem_cons_zero, List.setIfInBounds_toArray, List.set_cons_zero, List.set_cons_succ])
    refine wpAnyH_take (i := 9) (v := ?_) rfl (by kernel_rfl) (by kernel_rfl) (by kernel_rfl) (fun _ _ _ h => h) (Or.inl ⟨by rfl, fun wX hSw => ?_⟩) (by assumption) ?_
    rotate_left
    · (try dsimp only at hSw); go_simp; try with_reducible rfl
    (try simp only [Act.put, List.getElem_toArray, List.getElem_cons_succ, List.getElem_cons_zero, List.setIfInBounds_toArray, List.set_cons_zero, List.set_cons_succ])
    refine wpAnyH_take (i := 10) (v := ?_) rfl (by kernel_rfl) (by kernel_rfl) (by kernel_rfl) (fun _ _ _ h => h) (Or.inl ⟨by rfl, fun wX hSw => ?_⟩) (by assumption) ?_
    rotate_left
    · (try dsimp only at hSw); go_simp; try with_reducible rfl
    (try simp only [Act.put, List.getElem_toArray, List.getElem_cons_succ, List.getElem_cons_zero, List.setIfInBounds_toArray, List.set_cons_zero, List.set_cons_succ])
    refine wpAnyH_take (i := 11) (v := ?_) rfl (by kernel_rfl) (by kernel_rfl) (by kernel_rfl) (fun _ _ _ h => h) (Or.inl ⟨by rfl, fun wX hSw => ?_⟩) (by assumption) ?_
    rotate_left
    · (try dsimp only at hSw); go_simp; try with_reducible rfl
    (try simp only [Act.put, List.getElem_toArray, List.getElem_cons_succ, List.getElem_cons_zero, List.setIfInBounds_toArray, List.set_cons_zero, List.set_cons_succ])
    refine wpAnyH_take (i := 12) (v := ?_) rfl (by kernel_rfl) (by kernel_rfl) (by kernel_rfl) (fun _ _ _ h => h) (Or.inl ⟨by rfl, fun wX hSw => ?_⟩) (by assumption) ?_
    rotate_left
    · (try dsimp only at hSw); go_simp; try with_reducible rfl
    (try simp only [Act.put, List.getElem_toArray, List.getElem_cons_succ, List.getElem_cons_zero, List.setIfInBounds_toArray, List.set_cons_zero, List.set_cons_succ])
    refine wpAnyH_ready (rs := [6]) (by kernel_rfl) (by simp) ?_
    refine AllReadyH.cons rfl (fun K hK => ?_) (AllReadyH.nil)
    go_simp
    (first
    | (go_at_call 61; (with_reducible refine (rcostC_as cl x _ _ r _ hc3 (by omega) ⟨rfl⟩ ⟨rfl⟩ HRX).mono ?_); rintro e z ⟨rfl, hb⟩; have hB2 : Hk (Below (w.heap.size + 1) (w.alloc (.cells #[.int .i64 W, .int .i64 H, .slice (some ⟨bb, off, none⟩) n c] 24)) z) := ⟨by first | exact kw_step HB.out hNW hb | exact kw_step HB.out.drew hNW hb⟩; clear hb; replace HB := hB2; clear hB2; clear hc hf hl hn' hm; obtain ⟨hc, hf, hl, hn', hm⟩ := kw_rules HB.out hNW)
    | (go_at_call 61; (with_reducible refine (rcostC_as cl y _ _ q _ hc3 (by omega) ⟨rfl⟩ ⟨rfl⟩ HRY).mono ?_); rintro e z ⟨rfl, hb⟩; have hB2 : Hk (Below (w.heap.size + 1) (w.alloc (.cells #[.int .i64 W, .int .i64 H, .slice (some ⟨bb, off, none⟩) n c] 24)) z) := ⟨by first | exact kw_step HB.out hNW hb | exact kw_step HB.out.drew hNW hb⟩; clear hb; replace HB := hB2; clear hB2; clear hc hf hl hn' hm; obtain ⟨hc, hf, hl, hn', hm⟩ := kw_rules HB.out hNW))
    refine hK.out _ _ ?_ (fun hHeld => ?_)
    · exact kw_S HB.out
    clear hK K
    (try simp only [Act.put, List.getElem_toArray, List.getElem_cons_succ, List.getElem_cons_zero, List.setIfInBounds_toArray, List.set_cons_zero, List.set_cons_succ])
    refine wpAnyH_ready (rs := [13]) (by kernel_rfl) (by simp) ?_
    refine AllReadyH.cons rfl (fun K hK => ?_) (AllReadyH.nil)
    go_simp
    (first
    | (go_at_call 61; (with_reducible refine (rcostC_as cl x _ _ r _ hc3 (by omega) ⟨rfl⟩ ⟨rfl⟩ HRX).mono ?_); rintro e z ⟨rfl, hb⟩; have hB2 : Hk (Below (w.heap.size + 1) (w.alloc (.cells #[.int .i64 W, .int .i64 H, .slice (some ⟨bb, off, none⟩) n c] 24)) z) := ⟨by first | exact kw_step HB.out hNW hb | exact kw_step HB.out.drew hNW hb⟩; clear hb; replace HB := hB2; clear hB2; clear hc hf hl hn' hm; obtain ⟨hc, hf, hl, hn', hm⟩ := kw_rules HB.out hNW)
    | (go_at_call 61; (with_reducible refine (rcostC_as cl y _ _ q _ hc3 (by omega) ⟨rfl⟩ ⟨rfl⟩ HRY).mono ?_); rintro e z ⟨rfl, hb⟩; have hB2 : Hk (Below (w.heap.size + 1) (w.alloc (.cells #[.int .i64 W, .int .i64 H, .slice (some ⟨bb, off, none⟩) n c] 24)) z) := ⟨by first | exact kw_step HB.out hNW hb | exact kw_step HB.out.drew hNW hb⟩; clear hb; replace HB := hB2; clear hB2; clear hc hf hl hn' hm; obtain ⟨hc, hf, hl, hn', hm⟩ := kw_rules HB.out hNW))
    refine hK.out _ _ ?_ (fun hHeld => ?_)
    · exact kw_S HB.out
    clear hK K
    (try simp only [Act.put, List.getElem_toArray, List.getElem_cons_succ, List.getElem_cons_zero, List.setIfInBounds_toArray, List.set_cons_zero, List.set_cons_succ])
    refine wpAnyH_take (i := 14) (v := ?_) rfl (by kernel_rfl) (by kernel_rfl) (by kernel_rfl) (fun _ _ _ h => h) (Or.inl ⟨by rfl, fun wX hSw => ?_⟩) (by assumption) ?_
    rotate_left
    · (try dsimp only at hSw); go_simp; try with_reducible rfl
    (try simp only [Act.put, List.getElem_toArray, List.getElem_cons_succ, List.getElem_cons_zero, List.setIfInBounds_toArray, List.set_cons_zero, List.set_cons_succ])
    refine wpAnyH_take (i := 15) (v := ?_) rfl (by kernel_rfl) (by kernel_rfl) (by kernel_rfl) (fun _ _ _ h => h) (Or.inl ⟨by rfl, fun wX hSw => ?_⟩) (by assumption) ?_
    rotate_left
    · (try dsimp only at hSw); go_simp; try with_reducible rfl
    (try simp only [Act.put, List.getElem_toArray, List.getElem_cons_succ, List.getElem_cons_zero, List.setIfInBounds_toArray, List.set_cons_zero, List.set_cons_succ])
    refine wpAnyH_done (by kernel_rfl) ?_ _
    all_goals
      go_wp2_with fail
      go_ret
      exact ⟨by first | rfl | (rw [HV.out]; rfl) | (rw [HTD.out, HV.out]; rfl), HTR.out _ HB.out⟩
  · have d4 : decide ((i : Int) < 4) = false := by simp; omega
    go_enter Tryd.func59, Tryd.ntmps59
    go_upto_region 4 with fail
    refine wp_region_held_drew (S := (fun X => (∀ b o, b < w.heap.size + 1 → X.cell? ⟨b, o, none⟩ = ((w.alloc (.cells #[.int .i64 W, .int .i64 H, .slice (some ⟨bb, off, none⟩) n c] 24))).cell? ⟨b, o, none⟩) ∧ Below (w.heap.size + 1) (w.alloc (.cells #[.int .i64 W, .int .i64 H, .slice (some ⟨bb, off, none⟩) n c] 24)) X)) (by kernel_rfl) ?_ (fun hHeld => ?_)
    · exact kw_S (kw_drew HB.out)
    refine wpAnyH_take (i := 0) (v := ?_) rfl (by kernel_rfl) (by kernel_rfl) (by kernel_rfl) (fun _ _ _ h => h) (Or.inl ⟨by rfl, fun wX hSw => ?_⟩) (by assumption) ?_
    rotate_left
    · (try dsimp only at hSw); go_simp; try with_reducible rfl
    (try simp only [Act.put, List.getElem_toArray, List.getElem_cons_succ, List.getElem_cons_zero, List.setIfInBounds_toArray, List.set_cons_zero, List.set_cons_succ])
    refine wpAnyH_take (i := 1) (v := ?_) rfl (by kernel_rfl) (by kernel_rfl) (by kernel_rfl) (fun _ _ _ h => h) (Or.inl ⟨by rfl, fun wX hSw => ?_⟩) (by assumption) ?_
    rotate_left
    · (try dsimp only at hSw); go_simp; try with_reducible rfl
    (try simp only [Act.put, List.getElem_toArray, List.getElem_cons_succ, List.getElem_cons_zero, List.setIfInBounds_toArray, List.set_cons_zero, List.set_cons_succ])
    refine wpAnyH_take (i := 2) (v := ?_) rfl (by kernel_rfl) (by kernel_rfl) (by kernel_rfl) (fun _ _ _ h => h) (Or.inl ⟨by rfl, fun wX hSw => ?_⟩) (by assumption) ?_
    rotate_left
    · (try dsimp only at hSw); go_simp; try with_reducible rfl
    (try simp only [Act.put, List.getElem_toArray, List.getElem_cons_succ, List.getElem_cons_zero, List.setIfInBounds_toArray, List.set_cons_zero, List.set_cons_succ])
    refine wpAnyH_take (i := 3) (v := ?_) rfl (by kernel_rfl) (by kernel_rfl) (by kernel_rfl) (fun _ _ _ h => h) (Or.inl ⟨by rfl, fun wX hSw => ?_⟩) (by assumption) ?_
    rotate_left
    · (try dsimp only at hSw); go_simp; try with_reducible rfl
    (try simp only [Act.put, List.getElem_toArray, List.getElem_cons_succ, List.getElem_cons_zero, List.setIfInBounds_toArray, List.set_cons_zero, List.set_cons_succ])
    refine wpAnyH_take (i := 4) (v := ?_) rfl (by kernel_rfl) (by kernel_rfl) (by kernel_rfl) (fun _ _ _ h => h) (Or.inl ⟨by rfl, fun wX hSw => ?_⟩) (by assumption) ?_
    rotate_left
    · (try dsimp only at hSw); go_simp; try with_reducible rfl
    (try simp only [Act.put, List.getElem_toArray, List.getElem_cons_succ, List.getElem_cons_zero, List.setIfInBounds_toArray, List.set_cons_zero, List.set_cons_succ])
    refine wpAnyH_take (i := 5) (v := ?_) rfl (by kernel_rfl) (by kernel_rfl) (by kernel_rfl) (fun _ _ _ h => h) (Or.inl ⟨by rfl, fun wX hSw => ?_⟩) (by assumption) ?_
    rotate_left
    · (try dsimp only at hSw); go_simp; try with_reducible rfl
    (try simp only [Act.put, List.getElem_toArray, List.getElem_cons_succ, List.getElem_cons_zero, List.setIfInBounds_toArray, List.set_cons_zero, List.set_cons_succ])
    refine wpAnyH_take (i := 7) (v := ?_) rfl (by kernel_rfl) (by kernel_rfl) (by kernel_rfl) (fun _ _ _ h => h) (Or.inl ⟨by rfl, fun wX hSw => ?_⟩) (by assumption) ?_
    rotate_left
    · (try dsimp only at hSw); go_simp; try with_reducible rfl
    (try simp only [Act.put, List.getElem_toArray, List.getElem_cons_succ, List.getElem_cons_zero, List.setIfInBounds_toArray, List.set_cons_zero, List.set_cons_succ])
    refine wpAnyH_take (i := 8) (v := ?_) rfl (by kernel_rfl) (by kernel_rfl) (by kernel_rfl) (fun _ _ _ h => h) (Or.inl ⟨by rfl, fun wX hSw => ?_⟩) (by assumption) ?_
    rotate_left
    · (try dsimp only at hSw); go_simp; try with_reducible rfl
    (try simp only [Act.put, List.getElem_toArray, List.getElem_cons_succ, List.getElem_cons_zero, List.setIfInBounds_toArray, List.set_cons_zero, List.set_cons_succ])
    refine wpAnyH_take (i := 9) (v := ?_) rfl (by kernel_rfl) (by kernel_rfl) (by kernel_rfl) (fun _ _ _ h => h) (Or.inl ⟨by rfl, fun wX hSw => ?_⟩) (by assumption) ?_
    rotate_left
    · (try dsimp only at hSw); go_simp; try with_reducible rfl
    (try simp only [Act.put, List.getElem_toArray, List.getElem_cons_succ, List.getElem_cons_zero, List.setIfInBounds_toArray, List.set_cons_zero, List.set_cons_succ])
    refine wpAnyH_take (i := 10) (v := ?_) rfl (by kernel_rfl) (by kernel_rfl) (by kernel_rfl) (fun _ _ _ h => h) (Or.inl ⟨by rfl, fun wX hSw => ?_⟩) (by assumption) ?_
    rotate_left
    · (try dsimp only at hSw); go_simp; try with_reducible rfl
    (try simp only [Act.put, List.getElem_toArray, List.getElem_cons_succ, List.getElem_cons_zero, List.setIfInBounds_toArray, List.set_cons_zero, List.set_cons_succ])
    refine wpAnyH_take (i := 11) (v := ?_) rfl (by kernel_rfl) (by kernel_rfl) (by kernel_rfl) (fun _ _ _ h => h) (Or.inl ⟨by rfl, fun wX hSw => ?_⟩) (by assumption) ?_
    rotate_left
    · (try dsimp only at hSw); go_simp; try with_reducible rfl
    (try simp only [Act.put, List.getElem_toArray, List.getElem_cons_succ, List.getElem_cons_zero, List.setIfInBounds_toArray, List.set_cons_zero, List.set_cons_succ])
    refine wpAnyH_take (i := 12) (v := ?_) rfl (by kernel_rfl) (by kernel_rfl) (by kernel_rfl) (fun _ _ _ h => h) (Or.inl ⟨by rfl, fun wX hSw => ?_⟩) (by assumption) ?_
    rotate_left
    · (try dsimp only at hSw); go_simp; try with_reducible rfl
    (try simp only [Act.put, List.getElem_toArray, List.getElem_cons_succ, List.getElem_cons_zero, List.setIfInBounds_toArray, List.set_cons_zero, List.set_cons_succ])
    refine wpAnyH_ready (rs := [6]) (by kernel_rfl) (by simp) ?_
    refine AllReadyH.cons rfl (fun K hK => ?_) (AllReadyH.nil)
    go_simp
    (first
    | (go_at_call 61; (with_reducible refine (rcostC_as cl x _ _ r _ hc3 (by omega) ⟨rfl⟩ ⟨rfl⟩ HRX).mono ?_); rintro e z ⟨rfl, hb⟩; have hB2 : Hk (Below (w.heap.size + 1) (w.alloc (.cells #[.int .i64 W, .int .i64 H, .slice (some ⟨bb, off, none⟩) n c] 24)) z) := ⟨by first | exact kw_step HB.out hNW hb | exact kw_step HB.out.drew hNW hb⟩; clear hb; replace HB := hB2; clear hB2; clear hc hf hl hn' hm; obtain ⟨hc, hf, hl, hn', hm⟩ := kw_rules HB.out hNW)
    | (go_at_call 61; (with_reducible refine (rcostC_as cl y _ _ q _ hc3 (by omega) ⟨rfl⟩ ⟨rfl⟩ HRY).mono ?_); rintro e z ⟨rfl, hb⟩; have hB2 : Hk (Below (w.heap.size + 1) (w.alloc (.cells #[.int .i64 W, .int .i64 H, .slice (some ⟨bb, off, none⟩) n c] 24)) z) := ⟨by first | exact kw_step HB.out hNW hb | exact kw_step HB.out.drew hNW hb⟩; clear hb; replace HB := hB2; clear hB2; clear hc hf hl hn' hm; obtain ⟨hc, hf, hl, hn', hm⟩ := kw_rules HB.out hNW))
    refine hK.out _ _ ?_ (fun hHeld => ?_)
    · exact kw_S HB.out
    clear hK K
    (try simp only [Act.put, List.getElem_toArray, List.getElem_cons_succ, List.getElem_cons_zero, List.setIfInBounds_toArray, List.set_cons_zero, List.set_cons_succ])
    refine wpAnyH_ready (rs := [13]) (by kernel_rfl) (by simp) ?_
    refine AllReadyH.cons rfl (fun K hK => ?_) (AllReadyH.nil)
    go_simp
    (first
    | (go_at_call 61; (with_reducible refine (rcostC_as cl x _ _ r _ hc3 (by omega) ⟨rfl⟩ ⟨rfl⟩ HRX).mono ?_); rintro e z ⟨rfl, hb⟩; have hB2 : Hk (Below (w.heap.size + 1) (w.alloc (.cells #[.int .i64 W, .int .i64 H, .slice (some ⟨bb, off, none⟩) n c] 24)) z) := ⟨by first | exact kw_step HB.out hNW hb | exact kw_step HB.out.drew hNW hb⟩; clear hb; replace HB := hB2; clear hB2; clear hc hf hl hn' hm; obtain ⟨hc, hf, hl, hn', hm⟩ := kw_rules HB.out hNW)
    | (go_at_call 61; (with_reducible refine (rcostC_as cl y _ _ q _ hc3 (by omega) ⟨rfl⟩ ⟨rfl⟩ HRY).mono ?_); rintro e z ⟨rfl, hb⟩; have hB2 : Hk (Below (w.heap.size + 1) (w.alloc (.cells #[.int .i64 W, .int .i64 H, .slice (some ⟨bb, off, none⟩) n c] 24)) z) := ⟨by first | exact kw_step HB.out hNW hb | exact kw_step HB.out.drew hNW hb⟩; clear hb; replace HB := hB2; clear hB2; clear hc hf hl hn' hm; obtain ⟨hc, hf, hl, hn', hm⟩ := kw_rules HB.out hNW))
    refine hK.out _ _ ?_ (fun hHeld => ?_)
    · exact kw_S HB.out
    clear hK K
    (try simp only [Act.put, List.getElem_toArray, List.getElem_cons_succ, List.getElem_cons_zero, List.setIfInBounds_toArray, List.set_cons_zero, List.set_cons_succ])
    refine wpAnyH_take (i := 14) (v := ?_) rfl (by kernel_rfl) (by kernel_rfl) (by kernel_rfl) (fun _ _ _ h => h) (Or.inl ⟨by rfl, fun wX hSw => ?_⟩) (by assumption) ?_
    rotate_left
    · (try dsimp only at hSw); go_simp; try with_reducible rfl
    (try simp only [Act.put, List.getElem_toArray, List.getElem_cons_succ, List.getElem_cons_zero, List.setIfInBounds_toArray, List.set_cons_zero, List.set_cons_succ])
    refine wpAnyH_take (i := 15) (v := ?_) rfl (by kernel_rfl) (by kernel_rfl) (by kernel_rfl) (fun _ _ _ h => h) (Or.inl ⟨by rfl, fun wX hSw => ?_⟩) (by assumption) ?_
    rotate_left
    · (try dsimp only at hSw); go_simp; try with_reducible rfl
    (try simp only [Act.put, List.getElem_toArray, List.getElem_cons_succ, List.getElem_cons_zero, List.setIfInBounds_toArray, List.set_cons_zero, List.set_cons_succ])
    refine wpAnyH_done (by kernel_rfl) ?_ _
    all_goals
      go_wp2_with fail
    as_aux_lemma =>
      go_loopw [17] (fun kk wr => ∃ k : Nat, kk = .int .i64 k ∧ k ≤ 2 ∧ Hk (Below (w.heap.size + 1) (w.alloc (.cells #[.int .i64 W, .int .i64 H, .slice (some ⟨bb, off, none⟩) n c] 24)) wr) ∧ Hk (∀ j, j < k → gd (N ((i - 4 + j) % 4)).toNat = true)) (fun kk _ => 2 - (intOf kk).toNat)
      case atStart => exact ⟨0, rfl, by omega, HB, ⟨fun j hj => absurd hj (by omega)⟩⟩
      case round =>
        clear HB
        obtain ⟨k, rfl, hk2, HB, HK⟩ := hrel
        obtain ⟨hc, hf, hl, hn', hm⟩ := kw_rules HB.out hNW
        by_cases hlt : k < 2
        · have k0 : (0 : Int) ≤ (k : Int) := by omega
          have k1 : (k : Int) < 2 := by omega
          obtain ⟨p, hp⟩ : ∃ p, p = (i - 4 + k) % 4 := ⟨_, rfl⟩
          have hrem : ((i : Int) - 4 + (k : Int)).tmod 4 = (p : Int) := by rw [Int.tmod_eq_emod_of_nonneg (by omega)]; omega
          have p0' : (0 : Int) ≤ (p : Int) := by omega
          have p1' : (p : Int) < 8 := by omega
          have hsb := HSB.out i (by omega) hi HI0.out
          have hpb : 0 ≤ N p ∧ N p < (n : Int) := by
            have hk01 : k = 0 ∨ k = 1 := by omega
            rcases hk01 with e | e
            · rw [show p = i - 4 by omega]; exact hsb.1
            · rw [show p = (i - 3) % 4 by omega]; exact hsb.2
          obtain ⟨v, hv⟩ : ∃ v : Nat, N p = v := ⟨(N p).toNat, by omega⟩
          have hvn : v < n := by omega
          have m0 := HNC.out p (by omega)
          rw [hv] at m0
          have at2 := HA.out.cell hvn
          have v0 : (0 : Int) ≤ (v : Int) := by omega
          have v1 : (v : Int) < (n : Int) := by omega
          have dv : decide ((v : Int) < 0) = false := by simp
          have HPV : Hk (gd (N ((i - 4 + k) % 4)).toNat = gd v) := ⟨by rw [← hp, hv]; simp⟩
          clear hsb hpb hv hp
          by_cases gv : gd v = false
          · have hno : ¬ OK i := fun h => by
              have h4 := ((HSK.out).1 h).2.2.2 (by omega)
              have hk01 : k = 0 ∨ k = 1 := by omega
              rcases hk01 with e | e
              · subst e
                have := HPV.out
                rw [show (i - 4 + 0) % 4 = i - 4 by omega, h4.1, gv] at this
                cases this
              · subst e
                have := HPV.out
                rw [show (i - 4 + 1) % 4 = (i - 3) % 4 by omega, h4.2, gv] at this
                cases this
            have hv := HTK.out.2 hno
            rw [gv] at at2
            go_wp2_with fail
            go_ret
            exact ⟨by first | rfl | (rw [hv]; rfl) | (rw [HTD.out, hv]; rfl), HTR.out _ HB.out⟩
          have gv' : gd v = true := by simpa using gv
          rw [gv'] at at2
          have HGV := Hk.mk gv'
          clear gv gv'
          go_wp2_with fail
          exact ⟨⟨k + 1, by go_num, by omega, HB, ⟨fun j hj => by
            by_cases e : j = k
            · rw [e, HPV.out, HGV.out]
            · exact HK.out j (by omega)⟩⟩, by simp [intOf]; omega⟩
        · obtain rfl : k = 2 := by omega
          have hyes : OK i := HSK.out.2 ⟨HI0.out, HG.out.1, HG.out.2, fun q4 => ⟨by
            have := HK.out 0 (by omega)
            rwa [show (i - 4 + 0) % 4 = i - 4 by omega] at this, by
            have := HK.out 1 (by omega)
            rwa [show (i - 4 + 1) % 4 = (i - 3) % 4 by omega] at this⟩⟩
          have hv := HTK.out.1 hyes
          rw [if_neg k4] at hv
          have HV := Hk.mk hv
          clear hv hyes
          go_wp2_with fail
          go_ret
          exact ⟨by first | rfl | (rw [HV.out]; rfl) | (rw [HTD.out, HV.out]; rfl), HTR.out _ HB.out⟩
end Go.Proofs.YthabjihpjdlmoaaDoor
