import Derived.Deep.QuietTactic
import Derived.BigQuiet
import Derived.Deep.RegionWith
import Derived.Deep.RegionHeld3
import Derived.Deep.DeepCutAuto
import Derived.Deep.DeepFit
import Derived.Outline
import Derived.Test.YtifnmgbeepgfiaaDk
import Derived.Test.YtifnmgbeepgfiaaDj
import Derived.ArgAppend
/- The reference of layer 10: the tiles beside one. -/
namespace Go.Proofs.Ytifnmgbeepgfiaa
open Go.ChangeShapes Go.WideShapes Go.ChangeAt Go.RowKit Go.Deep
set_option linter.unusedVariables false
set_option linter.unusedSimpArgs false
def rbes1 (W t y : Int) : List Int := if (0 < y) then [t - W] else []
def rbes2 (W t x y : Int) : List Int := rbes1 W t y ++ (if (x < W - 1) then [t + 1] else [])
def rbes3 (W H t x y : Int) : List Int := rbes2 W t x y ++ (if (y < H - 1) then [t + W] else [])
def rbes4 (W H t x y : Int) : List Int := rbes3 W H t x y ++ (if (0 < x) then [t - 1] else [])
theorem rbes1_len (W t y : Int) : (rbes1 W t y).length ≤ 1 := by unfold rbes1; split <;> simp
theorem rbes2_len (W t x y : Int) : (rbes2 W t x y).length ≤ 2 := by
  have := rbes1_len W t y
  unfold rbes2; rw [List.length_append]; split <;> simp <;> omega
theorem rbes3_len (W H t x y : Int) : (rbes3 W H t x y).length ≤ 3 := by
  have := rbes2_len W t x y
  unfold rbes3; rw [List.length_append]; split <;> simp <;> omega
theorem rbes4_len (W H t x y : Int) : (rbes4 W H t x y).length ≤ 4 := by
  have := rbes3_len W H t x y
  unfold rbes4; rw [List.length_append]; split <;> simp <;> omega
set_option maxRecDepth 100000 in
set_option maxHeartbeats 3200000 in
theorem rbeside_any (W H t : Int) (w : World) (w1 : 1 ≤ W) (w2 : W ≤ 128) (h1 : 1 ≤ H) (h2 : H ≤ 128) (t0 : 0 ≤ t) (t1 : t < W * H) :
    Calls Try.prog 22 #[.int .i64 W, .int .i64 H, .int .i64 t] w fun e w' => ∃ v, e = .returned v ∧ w'.ownsRow w.heap.size 3 1 v (rbes4 W H t (t % W) (t / W)).length (intsV (rbes4 W H t (t % W) (t / W))) ∧ Below w.heap.size w w' := by
  obtain ⟨ii, hii, hiz0, hiz1, hiz2⟩ := info_parts info_int
  have hW0 : ¬ W = 0 := by omega
  have tm : t.tmod W = t % W := Int.tmod_eq_emod_of_nonneg (by omega)
  have td : t.tdiv W = t / W := Int.tdiv_eq_ediv_of_nonneg (by omega)
  have hmb := mul_bd w1 w2 h1 h2
  have x0 := Int.emod_nonneg t (show W ≠ 0 by omega)
  have x1 := Int.emod_lt_of_pos t (show 0 < W by omega)
  have y0 : 0 ≤ t / W := Int.ediv_nonneg t0 (by omega)
  have y1 : t / W < H := Int.ediv_lt_of_lt_mul (by omega) (by rw [Int.mul_comm]; exact t1)
  have tb : t ≤ 16384 := by omega
  have hem := Int.emod_add_mul_ediv t W
  have hyw : t / W = 0 ∨ W ≤ t := by
    by_cases c : t / W = 0
    · exact Or.inl c
    · right
      have := Int.mul_le_mul_of_nonneg_left (show 1 ≤ t / W by omega) (show 0 ≤ W by omega)
      omega
  clear hem hmb
  generalize t % W = x at *
  generalize t / W = y at *
  have wy : wrap64 y = y := by unfold wrap64; omega
  have wW1 : IntKind.i64.wrap (W - 1) = W - 1 := by rw [IntKind.wrap_i64]; omega
  have wH1 : IntKind.i64.wrap (H - 1) = H - 1 := by rw [IntKind.wrap_i64]; omega
  have HB : Hk (Below w.heap.size w w) := ⟨Below.refl _ _⟩
  obtain ⟨LP, hLP⟩ : ∃ LP : List Int, [] = LP := ⟨_, rfl⟩
  have hLl : LP.length ≤ 4 := by rw [← hLP]; simp
  have HLP := Hk.mk hLP
  have HO : Hk (World.ownsRow w w.heap.size 3 1 (.slice none 0 0) LP.length (intsV LP)) := ⟨by rw [← hLP]; exact World.ownsRow_nil _ _ _ _⟩
  clear hLP
  go_enter Try.func22, Try.ntmps22
  obtain ⟨bI, hbI⟩ : ∃ b : Bool, decide (0 < y) = b := ⟨_, rfl⟩
  have HBI := Hk.mk hbI
  go_upto_if 11 with fail
  go_cut [7] (fun v wx => Hk (World.ownsRow wx w.heap.size 3 1 v ((rbes1 W t y)).length (intsV ((rbes1 W t y)))) ∧ Hk (Below w.heap.size w wx))
  case first =>
    cases bI
    · have hno := of_decide_eq_false HBI.out
      have hL : (rbes1 W t y) = LP := by rw [← HLP.out]; simp only [rbes1, rbes2, rbes3, rbes4, if_neg hno, List.append_nil]
      go_wp2_with fail
      go_meet
      case rel => exact ⟨by rw [hL]; exact HO, HB⟩
    · have hyes := of_decide_eq_true HBI.out
      have hL : (rbes1 W t y) = LP ++ [t - W] := by rw [← HLP.out]; simp only [rbes1, rbes2, rbes3, rbes4, if_pos hyes, List.nil_append]
      have we : IntKind.i64.wrap (t - W) = t - W := by rw [IntKind.wrap_i64]; omega
      go_wp2_with (at_builtin; go_must (refine wpList_append_own_at _ rfl _ _ 23 rfl w.heap.size 3 ii (.int .i64 0) 1 8 Try.underlying23 hii hiz0 hiz1 hiz2 rfl (by decide) _ _ _ rfl (HO.out.alloc _) ⟨(w).heap.size, 0, none⟩ 1 1 [.int .i64 (t - W)] rfl rfl (one_new w _ _) (one_it _) (by unfold maxLen; omega) (by omega) (by have := HB.out.size; first | (simp; done) | (simp; omega)) ?_); intro v8 z8 hown hgrow hnil hat; have HO8 := Hk.mk hown; have HB8 := Hk.mk ((HB.out.alloc HB.out.size _).grown hgrow (by have := HB.out.size; first | (simp; done) | (simp; omega)) (fun j hj => (HO.out.lt j hj).1)); clear hown hgrow hnil hat)
      go_meet
      case rel => exact ⟨⟨by rw [hL]; have := HO8.out; simpa [intsV] using this⟩, HB8⟩
  case rest =>
  obtain ⟨HO, HB⟩ := hcut
  clear hbI HBI HLP hLl
  obtain ⟨WX, hWX⟩ : ∃ WX : World, WX = wc := ⟨wc, rfl⟩
  subst hWX
  obtain ⟨LP, hLP⟩ : ∃ LP : List Int, (rbes1 W t y) = LP := ⟨_, rfl⟩
  have hLl : LP.length ≤ 4 := by rw [← hLP]; exact Nat.le_trans (rbes1_len _ _ _) (by omega)
  have HLP := Hk.mk hLP
  rw [hLP] at HO
  clear hLP
  obtain ⟨bI, hbI⟩ : ∃ b : Bool, decide (x < W - 1) = b := ⟨_, rfl⟩
  have HBI := Hk.mk hbI
  go_upto_if 23 with fail
  go_cut [7] (fun v wx => Hk (World.ownsRow wx w.heap.size 3 1 v ((rbes2 W t x y)).length (intsV ((rbes2 W t x y)))) ∧ Hk (Below w.heap.size w wx))
  case first =>
    cases bI
    · have hno := of_decide_eq_false HBI.out
      have hL : (rbes2 W t x y) = LP := by rw [← HLP.out]; simp only [rbes1, rbes2, rbes3, rbes4, if_neg hno, List.append_nil]
      go_wp2_with fail
      go_meet
      case rel => exact ⟨by rw [hL]; exact HO, HB⟩
    · have hyes := of_decide_eq_true HBI.out
      have hL : (rbes2 W t x y) = LP ++ [t + 1] := by rw [← HLP.out]; simp only [rbes1, rbes2, rbes3, rbes4, if_pos hyes, List.nil_append]
      have we : IntKind.i64.wrap (t + 1) = t + 1 := by rw [IntKind.wrap_i64]; omega
      go_wp2_with (at_builtin; go_must (refine wpList_append_own_at _ rfl _ _ 23 rfl w.heap.size 3 ii (.int .i64 0) 1 8 Try.underlying23 hii hiz0 hiz1 hiz2 rfl (by decide) _ _ _ rfl (HO.out.alloc _) ⟨(WX).heap.size, 0, none⟩ 1 1 [.int .i64 (t + 1)] rfl rfl (one_new WX _ _) (one_it _) (by unfold maxLen; omega) (by omega) (by have := HB.out.size; first | (simp; done) | (simp; omega)) ?_); intro v8 z8 hown hgrow hnil hat; have HO8 := Hk.mk hown; have HB8 := Hk.mk ((HB.out.alloc HB.out.size _).grown hgrow (by have := HB.out.size; first | (simp; done) | (simp; omega)) (fun j hj => (HO.out.lt j hj).1)); clear hown hgrow hnil hat)
      go_meet
      case rel => exact ⟨⟨by rw [hL]; have := HO8.out; simpa [intsV] using this⟩, HB8⟩
  case rest =>
  obtain ⟨HO, HB⟩ := hcut
  clear hbI HBI HLP hLl
  obtain ⟨WX, hWX⟩ : ∃ WX : World, WX = wc := ⟨wc, rfl⟩
  subst hWX
  obtain ⟨LP, hLP⟩ : ∃ LP : List Int, (rbes2 W t x y) = LP := ⟨_, rfl⟩
  have hLl : LP.length ≤ 4 := by rw [← hLP]; exact Nat.le_trans (rbes2_len _ _ _ _) (by omega)
  have HLP := Hk.mk hLP
  rw [hLP] at HO
  clear hLP
  obtain ⟨bI, hbI⟩ : ∃ b : Bool, decide (y < H - 1) = b := ⟨_, rfl⟩
  have HBI := Hk.mk hbI
  go_upto_if 34 with fail
  go_cut [7] (fun v wx => Hk (World.ownsRow wx w.heap.size 3 1 v ((rbes3 W H t x y)).length (intsV ((rbes3 W H t x y)))) ∧ Hk (Below w.heap.size w wx))
  case first =>
    cases bI
    · have hno := of_decide_eq_false HBI.out
      have hL : (rbes3 W H t x y) = LP := by rw [← HLP.out]; simp only [rbes1, rbes2, rbes3, rbes4, if_neg hno, List.append_nil]
      go_wp2_with fail
      go_meet
      case rel => exact ⟨by rw [hL]; exact HO, HB⟩
    · have hyes := of_decide_eq_true HBI.out
      have hL : (rbes3 W H t x y) = LP ++ [t + W] := by rw [← HLP.out]; simp only [rbes1, rbes2, rbes3, rbes4, if_pos hyes, List.nil_append]
      have we : IntKind.i64.wrap (t + W) = t + W := by rw [IntKind.wrap_i64]; omega
      go_wp2_with (at_builtin; go_must (refine wpList_append_own_at _ rfl _ _ 23 rfl w.heap.size 3 ii (.int .i64 0) 1 8 Try.underlying23 hii hiz0 hiz1 hiz2 rfl (by decide) _ _ _ rfl (HO.out.alloc _) ⟨(WX).heap.size, 0, none⟩ 1 1 [.int .i64 (t + W)] rfl rfl (one_new WX _ _) (one_it _) (by unfold maxLen; omega) (by omega) (by have := HB.out.size; first | (simp; done) | (simp; omega)) ?_); intro v8 z8 hown hgrow hnil hat; have HO8 := Hk.mk hown; have HB8 := Hk.mk ((HB.out.alloc HB.out.size _).grown hgrow (by have := HB.out.size; first | (simp; done) | (simp; omega)) (fun j hj => (HO.out.lt j hj).1)); clear hown hgrow hnil hat)
      go_meet
      case rel => exact ⟨⟨by rw [hL]; have := HO8.out; simpa [intsV] using this⟩, HB8⟩
  case rest =>
  obtain ⟨HO, HB⟩ := hcut
  clear hbI HBI HLP hLl
  obtain ⟨WX, hWX⟩ : ∃ WX : World, WX = wc := ⟨wc, rfl⟩
  subst hWX
  obtain ⟨LP, hLP⟩ : ∃ LP : List Int, (rbes3 W H t x y) = LP := ⟨_, rfl⟩
  have hLl : LP.length ≤ 4 := by rw [← hLP]; exact Nat.le_trans (rbes3_len _ _ _ _ _) (by omega)
  have HLP := Hk.mk hLP
  rw [hLP] at HO
  clear hLP
  obtain ⟨bI, hbI⟩ : ∃ b : Bool, decide (0 < x) = b := ⟨_, rfl⟩
  have HBI := Hk.mk hbI
  go_upto_if 44 with fail
  go_cut [7] (fun v wx => Hk (World.ownsRow wx w.heap.size 3 1 v ((rbes4 W H t x y)).length (intsV ((rbes4 W H t x y)))) ∧ Hk (Below w.heap.size w wx))
  case first =>
    cases bI
    · have hno := of_decide_eq_false HBI.out
      have hL : (rbes4 W H t x y) = LP := by rw [← HLP.out]; simp only [rbes1, rbes2, rbes3, rbes4, if_neg hno, List.append_nil]
      go_wp2_with fail
      go_meet
      case rel => exact ⟨by rw [hL]; exact HO, HB⟩
    · have hyes := of_decide_eq_true HBI.out
      have hL : (rbes4 W H t x y) = LP ++ [t - 1] := by rw [← HLP.out]; simp only [rbes1, rbes2, rbes3, rbes4, if_pos hyes, List.nil_append]
      have we : IntKind.i64.wrap (t - 1) = t - 1 := by rw [IntKind.wrap_i64]; omega
      go_wp2_with (at_builtin; go_must (refine wpList_append_own_at _ rfl _ _ 23 rfl w.heap.size 3 ii (.int .i64 0) 1 8 Try.underlying23 hii hiz0 hiz1 hiz2 rfl (by decide) _ _ _ rfl (HO.out.alloc _) ⟨(WX).heap.size, 0, none⟩ 1 1 [.int .i64 (t - 1)] rfl rfl (one_new WX _ _) (one_it _) (by unfold maxLen; omega) (by omega) (by have := HB.out.size; first | (simp; done) | (simp; omega)) ?_); intro v8 z8 hown hgrow hnil hat; have HO8 := Hk.mk hown; have HB8 := Hk.mk ((HB.out.alloc HB.out.size _).grown hgrow (by have := HB.out.size; first | (simp; done) | (simp; omega)) (fun j hj => (HO.out.lt j hj).1)); clear hown hgrow hnil hat)
      go_meet
      case rel => exact ⟨⟨by rw [hL]; have := HO8.out; simpa [intsV] using this⟩, HB8⟩
  case rest =>
  obtain ⟨HO, HB⟩ := hcut
  clear hbI HBI HLP hLl
  obtain ⟨WX, hWX⟩ : ∃ WX : World, WX = wc := ⟨wc, rfl⟩
  subst hWX
  go_wp2_with fail
  go_ret
  exact ⟨_, rfl, HO.out, HB.out⟩
end Go.Proofs.Ytifnmgbeepgfiaa
/- Plain words of layer 20: the places about a goal, ring by ring. -/
namespace Go.Proofs.Ytifnmgbeepgfiaa
open Go.RowKit
set_option linter.unusedVariables false
set_option linter.unusedSimpArgs false
/-- Is t on the ring d about g, its column and row by multiples of gap? -/
def slX (gap d : Int) (x y a b : Int) : Bool := decide (max (max (x - a) (-(x - a))) (max (y - b) (-(y - b))) = d ∧ (x - a) % gap = 0 ∧ (y - b) % gap = 0)
def slP (W : Int) (g : Nat) (gap d : Int) (t : Nat) : Bool := slX gap d ((t : Int) % W) ((t : Int) / W) ((g : Int) % W) ((g : Int) / W)
def ringL (W : Int) (g n : Nat) (gap d : Int) : List Nat := (List.range n).filter (slP W g gap d)
def slF (W : Int) (g n : Nat) (gd : Nat → Bool) (gap d : Int) : List Nat := (ringL W g n gap d).filter gd
/-- All of the first f rings. -/
def slL (W : Int) (g n : Nat) (gd : Nat → Bool) (gap : Int) : Nat → List Nat
  | 0 => []
  | f + 1 => slL W g n gd gap f ++ slF W g n gd gap f
theorem filter_range_step {n : Nat} {p q : Nat → Bool} {k : Nat} (hk : k < n) (h1 : ∀ t, t < n → q t = (p t || decide (t = k))) (h2 : ∀ t, t < n → p t = true → t < k) : (List.range n).filter q = (List.range n).filter p ++ [k] := by
  obtain ⟨m, rfl⟩ : ∃ m, n = k + 1 + m := ⟨n - (k + 1), by omega⟩
  rw [List.range_add, List.range_succ]
  simp only [List.filter_append]
  have e1 : (List.range k).filter q = (List.range k).filter p := List.filter_congr fun t ht => by
    have := List.mem_range.1 ht
    rw [h1 t (by omega)]
    have : decide (t = k) = false := decide_eq_false (by omega)
    rw [this, Bool.or_false]
  have e2 : (List.map (fun x => k + 1 + x) (List.range m)).filter q = [] := by
    rw [List.filter_eq_nil_iff]
    intro t ht
    obtain ⟨j, hj, rfl⟩ := List.mem_map.1 ht
    have hj := List.mem_range.1 hj
    rw [h1 _ (by omega)]
    intro hh
    rw [Bool.or_eq_true] at hh
    rcases hh with hh | hh
    · have := h2 _ (by omega) hh; omega
    · have := of_decide_eq_true hh; omega
  have e3 : (List.map (fun x => k + 1 + x) (List.range m)).filter p = [] := by
    rw [List.filter_eq_nil_iff]
    intro t ht
    obtain ⟨j, hj, rfl⟩ := List.mem_map.1 ht
    have hj := List.mem_range.1 hj
    intro hh
    have := h2 _ (by omega) hh
    omega
  have e4 : [k].filter q = [k] := by
    rw [List.filter_cons_of_pos]
    · rfl
    · rw [h1 k (by omega)]; simp
  have e5 : [k].filter p = [] := by
    rw [List.filter_cons_of_neg]
    · rfl
    · intro hh
      have := h2 k (by omega) hh
      omega
  rw [e1, e2, e3, e4, e5]
  simp
theorem filter_range_same {n : Nat} {p q : Nat → Bool} (h : ∀ t, t < n → q t = p t) : (List.range n).filter q = (List.range n).filter p :=
  List.filter_congr fun t ht => h t (List.mem_range.1 ht)
/-- Before a row, and in it before a column. -/
def befP (W : Int) (g : Nat) (gap d row col : Int) (t : Nat) : Bool := slP W g gap d t && decide ((t : Int) / W < row ∨ ((t : Int) / W = row ∧ (t : Int) % W < col))
def befL (W : Int) (g n : Nat) (gap d row col : Int) : List Nat := (List.range n).filter (befP W g gap d row col)
structure SlOk (W H : Int) (n g : Nat) (gap d : Int) : Prop where
  w1 : 1 ≤ W
  w2 : W ≤ 128
  h1 : 1 ≤ H
  h2 : H ≤ 128
  nn : (n : Int) = W * H
  gn : g < n
  gp : gap = 1 ∨ gap = 3 ∨ gap = 5 ∨ gap = 7
  d0 : 0 ≤ d
  d1 : d % gap = 0
  d2 : d ≤ 300
section
variable {W H : Int} {n g : Nat} {gap d row col nx : Int}
theorem SlOk.xy (h : SlOk W H n g gap d) {t : Nat} (ht : t < n) : 0 ≤ (t : Int) % W ∧ (t : Int) % W < W ∧ 0 ≤ (t : Int) / W ∧ (t : Int) / W < H ∧ (t : Int) % W + W * ((t : Int) / W) = t := by
  have := h.w1
  have := h.nn
  exact ⟨Int.emod_nonneg _ (by omega), Int.emod_lt_of_pos _ (by omega), Int.ediv_nonneg (by omega) (by omega), Int.ediv_lt_of_lt_mul (by omega) (by rw [Int.mul_comm]; omega), Int.emod_add_mul_ediv _ _⟩
theorem slX_iff (x y a b : Int) : slX gap d x y a b = true ↔ max (max (x - a) (-(x - a))) (max (y - b) (-(y - b))) = d ∧ (x - a) % gap = 0 ∧ (y - b) % gap = 0 := by unfold slX; rw [decide_eq_true_iff]
/-- Nothing lies before the first row. -/
theorem bef_start (h : SlOk W H n g gap d) : befL W g n gap d ((g : Int) / W - d) ((g : Int) % W - d) = [] := by
  unfold befL
  rw [List.filter_eq_nil_iff]
  intro t ht hh
  have ht := List.mem_range.1 ht
  unfold befP at hh
  rw [Bool.and_eq_true] at hh
  obtain ⟨h1, h2⟩ := hh
  have h2 := of_decide_eq_true h2
  have h1 := (slX_iff _ _ _ _).1 h1
  omega
/-- A row's end is the next one's beginning. -/
theorem bef_row (h : SlOk W H n g gap d) {c c' : Int} (hr : (row - (g : Int) / W) % gap = 0) (hc : (g : Int) % W + d < c) (hc' : c' = (g : Int) % W - d) : befL W g n gap d (row + gap) c' = befL W g n gap d row c := by
  unfold befL
  refine filter_range_same fun t ht => ?_
  unfold befP
  by_cases hs : slP W g gap d t = true
  · rw [hs]
    have h1 := (slX_iff _ _ _ _).1 hs
    obtain ⟨a, b, e⟩ := h1
    congr 1
    have hd := h.d1
    have : ((t : Int) / W < row + gap ∨ (t : Int) / W = row + gap ∧ (t : Int) % W < c') ↔ ((t : Int) / W < row ∨ (t : Int) / W = row ∧ (t : Int) % W < c) := by
      rcases h.gp with q | q | q | q <;> subst q <;> omega
    exact decide_eq_decide.2 this
  · rw [Bool.not_eq_true] at hs
    rw [hs]
    rfl
/-- All is before a row behind the last one. -/
theorem bef_end (h : SlOk W H n g gap d) (hr : (g : Int) / W + d < row) : befL W g n gap d row col = ringL W g n gap d := by
  unfold befL ringL
  refine filter_range_same fun t ht => ?_
  unfold befP
  by_cases hs : slP W g gap d t = true
  · rw [hs]
    have h1 := (slX_iff _ _ _ _).1 hs
    have : decide ((t : Int) / W < row ∨ ((t : Int) / W = row ∧ (t : Int) % W < col)) = true := decide_eq_true (by omega)
    rw [this]
    rfl
  · rw [Bool.not_eq_true] at hs
    rw [hs]
    rfl
/-- What is known of a place in the loops. -/
structure SlAt (gx gy gap d row col nx : Int) : Prop where
  r0 : gy - d ≤ row
  r1 : row ≤ gy + d
  rm : (row - gy) % gap = 0
  c0 : gx - d ≤ col
  c1 : col ≤ gx + d
  cm : (col - gx) % gap = 0
  nx : ((row = gy - d ∨ row = gy + d) ∧ nx = gap) ∨ (gy - d < row ∧ row < gy + d ∧ nx = 2 * d ∧ (col = gx - d ∨ col = gx + d))
theorem SlAt.on (q : SlAt ((g : Int) % W) ((g : Int) / W) gap d row col nx) : slX gap d col row ((g : Int) % W) ((g : Int) / W) = true := by
  rw [slX_iff]
  obtain ⟨a, b, c, d, e, f, i⟩ := q
  exact ⟨by omega, f, c⟩
theorem bef_in (h : SlOk W H n g gap d) (q : SlAt ((g : Int) % W) ((g : Int) / W) gap d row col nx) (k : Nat) (hk : (k : Int) = col + W * row) (x0 : 0 ≤ col) (x1 : col < W) (y0 : 0 ≤ row) (y1 : row < H) : k < n ∧ befL W g n gap d row (col + nx) = befL W g n gap d row col ++ [k] := by
  have w1 := h.w1
  have hn := h.nn
  have hkn : k < n := by
    have q : W * (row + 1) ≤ W * H := Int.mul_le_mul_of_nonneg_left (by omega) (by omega)
    rw [Int.mul_add] at q
    omega
  have kx : (k : Int) % W = col := by rw [hk, Int.add_mul_emod_self_left, Int.emod_eq_of_lt x0 x1]
  have ky : (k : Int) / W = row := by rw [hk, Int.add_mul_ediv_left _ _ (by omega), Int.ediv_eq_zero_of_lt x0 x1]; omega
  refine ⟨hkn, ?_⟩
  have hon := q.on
  unfold befL
  refine filter_range_step hkn (fun t ht => ?_) (fun t ht hp => ?_)
  · obtain ⟨t0, t1, t2, t3, te⟩ := h.xy ht
    by_cases e : t = k
    · subst e
      unfold befP slP
      rw [kx, ky, hon]
      have hd := h.d0
      have hg := h.gp
      have hnx : 0 < nx := by have := q.nx; omega
      have : decide (row < row ∨ row = row ∧ col < col + nx) = true := decide_eq_true (by omega)
      rw [this]
      simp
    · have e' : decide (t = k) = false := decide_eq_false e
      rw [e', Bool.or_false]
      unfold befP
      by_cases hs : slP W g gap d t = true
      · rw [hs]
        obtain ⟨s1, s2, s3⟩ := (slX_iff _ _ _ _).1 hs
        have hne : ¬ ((t : Int) / W = row ∧ (t : Int) % W = col) := by
          rintro ⟨e1, e2⟩
          rw [e1, e2] at te
          omega
        congr 1
        have hd0 := h.d0
        have hd1 := h.d1
        obtain ⟨a, b, c, d', e', f, i⟩ := q
        refine decide_eq_decide.2 ?_
        generalize (t : Int) / W = ty at *
        generalize (t : Int) % W = tx at *
        generalize (g : Int) / W = gy at *
        generalize (g : Int) % W = gx at *
        rcases h.gp with q | q | q | q <;> subst q <;> omega
      · rw [Bool.not_eq_true] at hs
        rw [hs]
        rfl
  · obtain ⟨t0, t1, t2, t3, te⟩ := h.xy ht
    unfold befP at hp
    rw [Bool.and_eq_true] at hp
    have hp := of_decide_eq_true hp.2
    rcases hp with hp | ⟨hp, hp2⟩
    · have q : W * ((t : Int) / W + 1) ≤ W * row := Int.mul_le_mul_of_nonneg_left (by omega) (by omega)
      rw [Int.mul_add] at q
      omega
    · rw [hp] at te
      omega
theorem bef_out (h : SlOk W H n g gap d) (q : SlAt ((g : Int) % W) ((g : Int) / W) gap d row col nx) (ho : ¬ (0 ≤ col ∧ col < W ∧ 0 ≤ row ∧ row < H)) : befL W g n gap d row (col + nx) = befL W g n gap d row col := by
  unfold befL
  refine filter_range_same fun t ht => ?_
  obtain ⟨t0, t1, t2, t3, te⟩ := h.xy ht
  unfold befP
  by_cases hs : slP W g gap d t = true
  · rw [hs]
    obtain ⟨s1, s2, s3⟩ := (slX_iff _ _ _ _).1 hs
    congr 1
    have hd0 := h.d0
    have hd1 := h.d1
    obtain ⟨a, b, c, d', e', f, i⟩ := q
    refine decide_eq_decide.2 ?_
    generalize (t : Int) / W = ty at *
    generalize (t : Int) % W = tx at *
    generalize (g : Int) / W = gy at *
    generalize (g : Int) % W = gx at *
    rcases h.gp with q | q | q | q <;> subst q <;> omega
  · rw [Bool.not_eq_true] at hs
    rw [hs]
    rfl
/-- No ring that is no multiple of the gap has a place. -/
theorem ring_none (h : gap = 1 ∨ gap = 3 ∨ gap = 5 ∨ gap = 7) {f : Int} (hf : f % gap ≠ 0) : ringL W g n gap f = [] := by
  unfold ringL
  rw [List.filter_eq_nil_iff]
  intro t ht hh
  obtain ⟨s1, s2, s3⟩ := (slX_iff _ _ _ _).1 hh
  generalize (t : Int) / W = ty at *
  generalize (t : Int) % W = tx at *
  generalize (g : Int) / W = gy at *
  generalize (g : Int) % W = gx at *
  rcases h with q | q | q | q <;> subst q <;> omega
end
theorem slL_skip (W : Int) (g n : Nat) (gd : Nat → Bool) {gap : Int} (h : gap = 1 ∨ gap = 3 ∨ gap = 5 ∨ gap = 7) {f : Nat} (hf : (f : Int) % gap = 0) : ∀ k : Nat, (k : Int) < gap → slL W g n gd gap (f + 1 + k) = slL W g n gd gap (f + 1)
  | 0, _ => rfl
  | k + 1, hk => by
    show slL W g n gd gap (f + 1 + k) ++ slF W g n gd gap (f + 1 + k : Nat) = _
    rw [slL_skip W g n gd h hf k (by omega)]
    unfold slF
    rw [ring_none h (by rcases h with q | q | q | q <;> subst q <;> omega)]
    simp
end Go.Proofs.Ytifnmgbeepgfiaa
/- Layer 20: one ring. -/
namespace Go.Proofs.Ytifnmgbeepgfiaa
open Go.ChangeShapes Go.WideShapes Go.ChangeAt Go.RowKit Go.Deep
set_option linter.unusedVariables false
set_option linter.unusedSimpArgs false
def natsL (l : List Nat) : List Value := l.map fun t => .int .i64 (t : Nat)
theorem befL_len (W : Int) (g n : Nat) (gap d row col : Int) : (befL W g n gap d row col).length ≤ n := by
  unfold befL
  exact Nat.le_trans (List.length_filter_le _ _) (by simp)
theorem own_le20 {w : World} {B B' s n : Nat} {e : TypeId} {v : Value} {xs : List Value} (h : w.ownsRow B e s v n xs) (hb : B' ≤ B) : w.ownsRow B' e s v n xs := by
  refine ⟨h.1, ?_⟩
  rcases h.2 with q | ⟨g, cap, cur, e1, hg, rest⟩
  · exact Or.inl q
  · exact Or.inr ⟨g, cap, cur, e1, Nat.le_trans hb hg, rest⟩
theorem gap_neg {gap d x : Int} (h : gap = 1 ∨ gap = 3 ∨ gap = 5 ∨ gap = 7) (hd : d % gap = 0) : (x - d - x) % gap = 0 := by
  rcases h with q | q | q | q <;> subst q <;> omega
theorem gap_add {gap x y : Int} (h : gap = 1 ∨ gap = 3 ∨ gap = 5 ∨ gap = 7) (hd : (y - x) % gap = 0) : (y + gap - x) % gap = 0 := by
  rcases h with q | q | q | q <;> subst q <;> omega
theorem gap_two {gap d x y : Int} (h : gap = 1 ∨ gap = 3 ∨ gap = 5 ∨ gap = 7) (hd : d % gap = 0) (hy : y = x - d ∨ y = x + d) : (y + 2 * d - x) % gap = 0 := by
  rcases h with q | q | q | q <;> subst q <;> omega
theorem SlAt.next {gx gy gap d row col nx : Int} (hg : gap = 1 ∨ gap = 3 ∨ gap = 5 ∨ gap = 7) (hd : d % gap = 0) (q : SlAt gx gy gap d row col nx) : gx + d < col + nx ∨ SlAt gx gy gap d row (col + nx) nx := by
  by_cases h : gx + d < col + nx
  · exact Or.inl h
  · obtain ⟨a, b, c, e, f, m, i⟩ := q
    right
    rcases i with ⟨i, rfl⟩ | ⟨i1, i2, rfl, i3⟩
    · exact ⟨a, b, c, by omega, by omega, gap_add hg m, Or.inl ⟨i, rfl⟩⟩
    · exact ⟨a, b, c, by omega, by omega, gap_two hg hd i3, Or.inr ⟨i1, i2, rfl, by omega⟩⟩
end Go.Proofs.Ytifnmgbeepgfiaa
/- Plain words of layer 20: the first N of them; two rows of one's own. -/
namespace Go.Proofs.Ytifnmgbeepgfiaa
open Go.ChangeShapes Go.WideShapes Go.ChangeAt Go.RowKit Go.Deep
set_option linter.unusedVariables false
set_option linter.unusedSimpArgs false
theorem take_more {α : Type} {l : List α} {N : Nat} {x : α} (h : (l.take N).length < N) : (l ++ [x]).take N = l.take N ++ [x] := by
  have hl : l.length < N := by rw [List.length_take] at h; omega
  rw [List.take_of_length_le (by simp; omega), List.take_of_length_le (by omega)]
theorem take_full {α : Type} {l : List α} {N : Nat} (r : List α) (h : ¬ (l.take N).length < N) : (l ++ r).take N = l.take N := by
  have hl : N ≤ l.length := by rw [List.length_take] at h; omega
  rw [List.take_append_of_le_length hl]
theorem filter_take_succ {α : Type} {l : List α} {p : α → Bool} {j : Nat} (h : j < l.length) : (l.take (j + 1)).filter p = (l.take j).filter p ++ (if p l[j] = true then [l[j]] else []) := by
  rw [List.take_succ_eq_append_getElem h, List.filter_append]
  congr 1
  by_cases e : p l[j] = true
  · rw [if_pos e, List.filter_cons_of_pos e]; rfl
  · rw [if_neg e, List.filter_cons_of_neg e]; rfl
theorem slL_pre (W : Int) (g n : Nat) (gd : Nat → Bool) (gap : Int) (f : Nat) : ∀ k, ∃ r, slL W g n gd gap (f + k) = slL W g n gd gap f ++ r
  | 0 => ⟨[], by simp⟩
  | k + 1 => by
    obtain ⟨r, hr⟩ := slL_pre W g n gd gap f k
    refine ⟨r ++ slF W g n gd gap ((f + k : Nat) : Int), ?_⟩
    show slL W g n gd gap (f + k) ++ _ = _
    rw [hr, List.append_assoc]
    rfl
theorem ring_far {W H : Int} {n g : Nat} {gap d : Int} (hW : 1 ≤ W) (hn : (n : Int) = W * H) (hg : g < n) (hd : W + H ≤ d) : ringL W g n gap d = [] := by
  unfold ringL
  rw [List.filter_eq_nil_iff]
  intro t ht hh
  have ht := List.mem_range.1 ht
  have h1 := (slX_iff _ _ _ _).1 hh
  have a0 := Int.emod_nonneg (t : Int) (show W ≠ 0 by omega)
  have a1 := Int.emod_lt_of_pos (t : Int) (show 0 < W by omega)
  have a2 : 0 ≤ (t : Int) / W := Int.ediv_nonneg (by omega) (by omega)
  have a3 : (t : Int) / W < H := Int.ediv_lt_of_lt_mul (by omega) (by rw [Int.mul_comm]; omega)
  have b0 := Int.emod_nonneg (g : Int) (show W ≠ 0 by omega)
  have b1 := Int.emod_lt_of_pos (g : Int) (show 0 < W by omega)
  have b2 : 0 ≤ (g : Int) / W := Int.ediv_nonneg (by omega) (by omega)
  have b3 : (g : Int) / W < H := Int.ediv_lt_of_lt_mul (by omega) (by rw [Int.mul_comm]; omega)
  omega
theorem slL_far {W H : Int} {n g : Nat} {gd : Nat → Bool} {gap : Int} (hW : 1 ≤ W) (hn : (n : Int) = W * H) (hg : g < n) {f : Nat} (hf : W + H ≤ (f : Int)) : ∀ k, slL W g n gd gap (f + k) = slL W g n gd gap f
  | 0 => rfl
  | k + 1 => by
    show slL W g n gd gap (f + k) ++ slF W g n gd gap ((f + k : Nat) : Int) = _
    rw [slL_far hW hn hg hf k]
    unfold slF
    rw [ring_far hW hn hg (by omega)]
    simp
/-- All places that are asked for. -/
def slA (W H : Int) (g n : Nat) (gd : Nat → Bool) (gap : Int) (N : Nat) : List Nat := (slL W g n gd gap (W + H + 1).toNat).take N
theorem slA_end {W H : Int} {n g : Nat} {gd : Nat → Bool} {gap : Int} {N f : Nat} (hW : 1 ≤ W) (hH : 1 ≤ H) (hn : (n : Int) = W * H) (hg : g < n) (h : ¬ ((f : Int) ≤ W + H ∧ ((slL W g n gd gap f).take N).length < N)) : (slL W g n gd gap f).take N = slA W H g n gd gap N := by
  unfold slA
  by_cases c : (f : Int) ≤ W + H
  · obtain ⟨r, hr⟩ := slL_pre W g n gd gap f ((W + H + 1).toNat - f)
    rw [show f + ((W + H + 1).toNat - f) = (W + H + 1).toNat by omega] at hr
    rw [hr, take_full r (fun q => h ⟨c, q⟩)]
  · have := slL_far (gd := gd) (gap := gap) (f := (W + H + 1).toNat) hW hn hg (by omega) (f - (W + H + 1).toNat)
    rw [show (W + H + 1).toNat + (f - (W + H + 1).toNat) = f by omega] at this
    rw [this]
theorem slA_len (W H : Int) (g n : Nat) (gd : Nat → Bool) (gap : Int) (N : Nat) : (slA W H g n gd gap N).length ≤ N := by
  unfold slA; rw [List.length_take]; omega
/-- Two rows of numbers of one's own, apart. -/
structure Sq (w : World) (S : Nat) (v v' : Value) (A R : List Nat) : Prop where
  rf : w.ownsRow S 3 1 v A.length (natsL A)
  rr : w.ownsRow S 3 1 v' R.length (natsL R)
  ap : v.ownBlock = none ∨ v'.ownBlock = none ∨ v.ownBlock ≠ v'.ownBlock
theorem Sq.later {w w' : World} {S : Nat} {v v' : Value} {A R : List Nat} (h : Sq w S v v' A R) (hb : Below w.heap.size w w') : Sq w' S v v' A R :=
  ⟨(Fr.of_below hb).row h.rf (fun j hj hm => by have := (h.rf.lt j hj).2; omega), (Fr.of_below hb).row h.rr (fun j hj hm => by have := (h.rr.lt j hj).2; omega), h.ap⟩
theorem Sq.of {w w' : World} {S : Nat} {v v' : Value} {A R : List Nat} (h : w.ownsRow S 3 1 v A.length (natsL A)) (hb : Below w.heap.size w w') (hS : S ≤ w.heap.size) (h' : w'.ownsRow w.heap.size 3 1 v' R.length (natsL R)) : Sq w' S v v' A R := by
  refine ⟨(Fr.of_below hb).row h (fun j hj hm => by have := (h.lt j hj).2; omega), own_le20 h' hS, ?_⟩
  by_cases c : v.ownBlock = none
  · exact Or.inl c
  · obtain ⟨j, hj⟩ := Option.ne_none_iff_exists'.1 c
    right
    right
    rw [hj]
    intro e
    have a := (h.lt j hj).2
    have b := (h'.lt j e.symm).1
    omega
theorem Sq.put {w z : World} {S t : Nat} {v v' u : Value} {A R : List Nat} (h : Sq w S v v' A R) (hown : z.ownsRow S 3 1 u (A.length + 1) (natsL A ++ [.int .i64 (t : Nat)])) (hg : w.grownBy z v.ownBlock) (hat : u.ownBlock = v.ownBlock ∨ u.ownBlock = some w.heap.size) : Sq z S u v' (A ++ [t]) R := by
  refine ⟨by simpa [natsL] using hown, h.rr.kept hg ?_, ?_⟩
  · rcases h.ap with e | e | e
    · by_cases c : v'.ownBlock = none
      · exact Or.inl c
      · right; rw [e]; exact c
    · exact Or.inl e
    · exact Or.inr fun e' => e e'.symm
  · rcases hat with e | e
    · rw [e]; exact h.ap
    · by_cases c : v'.ownBlock = none
      · exact Or.inr (Or.inl c)
      right
      right
      rw [e]
      intro e'
      have := (h.rr.lt _ e'.symm).2
      omega
theorem own_form20 {w : World} {S : Nat} {v : Value} {R : List Nat} (h : w.ownsRow S 3 1 v R.length (natsL R)) : ∃ a c, v = .slice a R.length c ∧ (0 < R.length → ∃ g, a = some ⟨g, 0, none⟩) := by
  rcases h.2 with ⟨e, h0⟩ | ⟨g, cap, cur, e, _⟩
  · exact ⟨none, 0, by rw [h0]; exact e, fun q => by omega⟩
  · exact ⟨_, _, e, fun _ => ⟨g, rfl⟩⟩
theorem own_at20 {w : World} {S g c j : Nat} {R : List Nat} (h : w.ownsRow S 3 1 (.slice (some ⟨g, 0, none⟩) R.length c) R.length (natsL R)) (hj : j < R.length) : w.cell? ⟨g, j, none⟩ = some (.int .i64 (R[j] : Nat)) := by
  rw [h.cellAt j (by omega)]
  simp [natsL, hj]
end Go.Proofs.Ytifnmgbeepgfiaa
/- Layer 6: what the statements call. -/
namespace Go.Proofs.Ytifnmgbeepgfiaa
open Go.RowKit
set_option linter.unusedVariables false
theorem gr_new (w : World) (W H : Int) (n m : Nat) (hm : (m : Int) = W * H) (t : TypeId) (hW : 1 ≤ W ∧ W ≤ 128) (hH : 1 ≤ H ∧ H ≤ 128) : GOk W H m (List.replicate m 0) := ⟨hW.1, hW.2, hH.1, hH.2, hm, fun x hx => by rw [List.eq_of_mem_replicate hx]; omega⟩
theorem nq_lit (w : World) (xs : List Int) (t : TypeId) (n : Nat) (hl : xs.length = n) : Nq (w.alloc (.cells (xs.map (Value.int .i64)).toArray t)) (w.heap.size + 1) (some ⟨w.heap.size, 0, none⟩) n xs := by
  refine ⟨hl, fun _ => ⟨_, _, rfl, by omega, fun k hk => ?_⟩⟩
  rw [Nat.zero_add, World.cell?_alloc_mark]
  simp [List.getD, List.getElem?_eq_getElem (show k < xs.length by omega)]
theorem byt_zeros : ∀ b ∈ ([0, 0, 0, 0, 0, 0] : List Int), Fn.Byt b := by
  intro b hb
  simp at hb
  subst hb
  unfold Fn.Byt; omega
theorem nb_320 : nbL 3 2 0 = [-1, 1, 3, -1, -1, 4, -1, -1] := by decide
/-- Eight numbers of a block of our own. -/
structure A8 (base g : Nat) (w0 w : World) (F : Nat → Int) : Prop where
  c : ∀ j, j < 8 → w.cell? ⟨g, j, none⟩ = some (.int .i64 (F j))
  f : ∀ j, w.frozen? ⟨g, j, none⟩ = false
  hs : g < w.heap.size
  hb : base ≤ g
  hB : Below base w0 w
theorem A8.set {base g : Nat} {w0 w : World} {F : Nat → Int} (h : A8 base g w0 w F) (k : Nat) (v : Int) (hk : k < 8) : A8 base g w0 (w.setCell ⟨g, k, none⟩ (.int .i64 v)) (fun j => if j = k then v else F j) := by
  refine ⟨fun j hj => ?_, fun j => ?_, ?_, h.hb, h.hB.setCell h.hb _⟩
  · by_cases e : j = k
    · subst e; rw [if_pos rfl]; exact World.cell?_setCell_same _ _ _ (u := .int .i64 (F j)) (h.c j hj)
    · rw [if_neg e, World.cell?_setCell_other _ _ _ _ (by simp <;> omega)]; exact h.c j hj
  · simpa using h.f j
  · simpa using h.hs
set_option maxRecDepth 100000 in
theorem numbers8 (base g : Nat) (w0 w : World) (F : Nat → Int) (h : A8 base g w0 w F) (hw : base ≤ w.heap.size) :
    Calls Try.prog 14 #[.slice (some ⟨g, 0, none⟩) 8 8] w fun e w' => e = .returned (.tuple #[]) ∧ Below base w0 w' := by
  obtain ⟨i0, hi, hz0, hz1, hz2⟩ := info_parts info_int
  have HO := Hk.mk h
  clear h
  go_enter Try.func14, Try.ntmps14
  go_wp2
  go_loopw [2] (fun i wr => ∃ (k : Nat), i = .int .i64 k ∧ k ≤ 8 ∧ Hk (∃ F, A8 base g w0 wr F) ∧ base ≤ wr.heap.size) (fun i _ => 8 - (intOf i).toNat)
  case atStart => exact ⟨0, rfl, by omega, ⟨_, HO.out⟩, hw⟩
  case round =>
    obtain ⟨k, rfl, hk, HP, hwr⟩ := hrel
    obtain ⟨F, HF⟩ := HP.out
    clear HP
    by_cases hlt : k < 8
    · have hcx := HF.c k hlt
      have hfz := HF.f k
      have j1 : (0 : Int) ≤ (k : Int) := by omega
      have j2 : (k : Int) < 8 := by omega
      have H3 := Hk.mk (HF.set k (-99) hlt)
      clear HF
      go_wp2
      go_roundw
      case rel => exact ⟨k + 1, by go_num, by omega, ⟨_, H3.out⟩, by simpa using hwr⟩
      case measure => simp [intOf]; omega
    · obtain rfl : k = 8 := by omega
      have H3 := Hk.mk HF
      clear HF
      go_wp2_with (at_builtin; go_must (refine wpList_append_arg _ rfl _ _ 23 rfl 3 i0 (.int .i64 0) 1 8 Try.underlying23 hi hz0 hz1 hz2 rfl (by decide) g 0 8 8 ((List.range 8).map (fun j => .int .i64 (F j))) rfl (by simp) ?c0 ⟨wr.heap.size, 0, none⟩ 1 1 [.int .i64 5] rfl rfl (one_new _ _ _) ?c2 (fun h => absurd h (by omega)) (by unfold maxLen; omega) (by omega) (fun h => absurd h (by omega)) ?_))
      case c0 =>
        intro j u hj
        by_cases hj8 : j < 8
        · have e := (Below.cell (p := ⟨g, j, none⟩) ((Below.refl wr.heap.size wr).alloc (Nat.le_refl _) (.cells #[.int .i64 5] 3)) H3.out.hs).trans (H3.out.c j hj8)
          simp [hj8] at hj
          rw [Nat.zero_add, e, ← hj]
        · rw [List.getElem?_eq_none (by simp; omega)] at hj
          cases hj
      case c2 => intro u hu; simp at hu; subst hu; rfl
      · intro v' w1 _ hgrow
        have HG := Hk.mk hgrow
        clear hgrow
        go_wp2
        go_end0
        exact ⟨rfl, (H3.out.hB.alloc hwr _).grown HG.out (by simp; omega) (fun g hg => by cases hg)⟩
theorem numbers0 (base : Nat) (w0 w : World) (h : Below base w0 w) (hw : base ≤ w.heap.size) :
    Calls Try.prog 14 #[.slice none 0 0] w fun e w' => e = .returned (.tuple #[]) ∧ Below base w0 w' := by
  obtain ⟨i0, hi, hz0, hz1, hz2⟩ := info_parts info_int
  have HB := Hk.mk h
  have HO := Hk.mk (World.ownsRow_nil w base 3 1)
  clear h
  go_enter Try.func14, Try.ntmps14
  go_wp2
  go_loopw [2] (fun i wr => i = .int .i64 0 ∧ wr = w) (fun i _ => 0)
  case atStart => exact ⟨rfl, rfl⟩
  case round =>
    obtain ⟨rfl, rfl⟩ := hrel
    go_wp2_with (at_builtin; refine wpList_append_own _ rfl _ _ 23 rfl base 3 i0 (.int .i64 0) 1 8 Try.underlying23 hi hz0 hz1 hz2 rfl (by decide) _ _ _ rfl (HO.out.alloc _) ⟨wr.heap.size, 0, none⟩ 1 1 [.int .i64 5] rfl rfl (one_new _ _ _) ?c2 (by unfold maxLen; omega) (by omega) ?c5 ?_)
    case c2 => intro u hu; simp at hu; subst hu; rfl
    case c5 => simp; omega
    · intro v' w1 hown' hgrow _
      have HG := Hk.mk hgrow
      clear hgrow hown'
      go_wp2
      go_end0
      exact ⟨rfl, (HB.out.alloc hw _).grown HG.out (by simp; omega) (fun g hg => by cases hg)⟩
end Go.Proofs.Ytifnmgbeepgfiaa
/- Lists of one's own spoilt; lists of booleans compared. -/
namespace Go.Proofs.Ytifnmgbeepgfiaa
open Go.RowKit
set_option linter.unusedVariables false
theorem own_of_arr {base g n : Nat} {w : World} {T : TypeId} {f : Nat → Value} (h : Arr w g n T f) (hb : base ≤ g) (hn : n ≤ 1099511627776) : w.ownsRow base T 1 (.slice (some ⟨g, 0, none⟩) n n) n ((List.range n).map f) := by
  obtain ⟨cur, e, hs, hc⟩ := h.ex
  refine ⟨by simp, Or.inr ⟨g, n, cur, rfl, hb, e, Nat.le_refl _, by unfold maxLen; omega, by omega, ?_⟩⟩
  apply List.ext_getElem?
  intro k
  by_cases hk : k < n
  · have := hc k hk
    simp [hk, hs]
    simpa [Array.getElem?_eq_some_iff, hs, hk] using this
  · rw [List.getElem?_eq_none (by simp; omega), List.getElem?_eq_none (by simp; omega)]
theorem Arr.nq {w : World} {g n B : Nat} {T : TypeId} {F : Nat → Int} (h : Arr w g n T (fun k => .int .i64 (F k))) (hg : g < B) : Nq w B (some ⟨g, 0, none⟩) n ((List.range n).map F) :=
  ⟨by simp, fun hn => ⟨g, 0, rfl, hg, fun k hk => by rw [Nat.zero_add, h.cell hk]; simp [List.getD, hk]⟩⟩
set_option maxRecDepth 100000 in
theorem numbers_as (n g : Nat) (F : Nat → Int) (w : World) (h : Arr w g n 3 (fun k => .int .i64 (F k))) (hn : n ≤ 1099511627776) :
    Calls Try.prog 14 #[.slice (some ⟨g, 0, none⟩) n n] w fun e w' => e = .returned (.tuple #[]) ∧ Below g w w' := by
  have infoT : (Try.prog.info? 3).map (fun i => (i.zero, i.size, i.bytes)) = some (some (.int .i64 default), 1, 8) := by kernel_rfl
  obtain ⟨i0, hi, hz0, hz1, hz2⟩ := info_parts infoT
  clear infoT
  have HO := Hk.mk h
  have hgw := h.lt
  clear h
  go_enter Try.func14, Try.ntmps14
  go_wp2
  go_loopw [2] (fun i wr => ∃ (k : Nat), i = .int .i64 k ∧ k ≤ n ∧ Hk (∃ F : Nat → Int, Arr wr g n 3 (fun k => .int .i64 (F k))) ∧ Hk (Fr (fun q => q = g) w wr)) (fun i _ => n - (intOf i).toNat)
  case atStart => exact ⟨0, rfl, by omega, ⟨_, HO.out⟩, ⟨Fr.refl _ _⟩⟩
  case round =>
    obtain ⟨k, rfl, hk, HP, HF⟩ := hrel
    obtain ⟨F, HA⟩ := HP.out
    clear HP HO
    by_cases hlt : k < n
    · have hcx := HA.cell hlt
      have hfz := HA.frozen k
      have j1 : (0 : Int) ≤ (k : Int) := by omega
      have j2 : (k : Int) < (n : Int) := by omega
      have H3 := Hk.mk (HA.set hlt (.int .i64 (-99)))
      have H4 := Hk.mk (HF.out.setCell (p := ⟨g, k, none⟩) (fun _ => rfl) (.int .i64 (-99)))
      clear HA HF
      go_wp2
      go_roundw
      case rel => exact ⟨k + 1, by go_num, by omega, ⟨fun j => if j = k then -99 else F j, H3.out.congr fun j hj => by by_cases e : j = k <;> simp [e]⟩, H4⟩
      case measure => simp [intOf]; omega
    · obtain rfl : k = n := by omega
      have hgr := HA.lt
      have H3 := Hk.mk (own_of_arr HA (Nat.le_refl g) hn)
      have H5 := Hk.mk HA
      clear HA
      go_wp2_with (at_builtin; go_must (refine wpList_append_own _ rfl _ _ 23 rfl g 3 i0 (.int .i64 default) 1 8 Try.underlying23 hi hz0 hz1 hz2 rfl (by decide) _ k _ rfl (H3.out.alloc _) ⟨wr.heap.size, 0, none⟩ 1 1 [.int .i64 (5)] rfl rfl (one_new _ _ _) ?c2 (by unfold maxLen; omega) (by omega) ?c5 ?_))
      case c2 => intro u hu; simp at hu; subst hu; rfl
      case c5 => simp; omega
      · intro v' w1 hown' hgrow _
        have HG := Hk.mk hgrow
        clear hgrow hown'
        go_wp2
        go_end0
        exact ⟨rfl, ((HF.out.below (B := g) (by omega) (fun q _ e => by subst e; exact Nat.le_refl _)).alloc (by omega) _).grown HG.out (by simp; omega) (fun g hg => by simp [Value.ownBlock] at hg; omega)⟩
theorem rd_nil (w : World) (B : Nat) (a : Option Addr) (f : Nat → Value) : Rd w B a 0 f := fun h => absurd h (by omega)
theorem Arr.rd0 {w : World} {g n : Nat} {T : TypeId} {f : Nat → Value} (h : Arr w g n T f) : Rd w (g + 1) (some ⟨g, 0, none⟩) n f := h.rd (Nat.lt_succ_self g)
theorem eqbl_yes (a a' : Option Addr) (n c c' B B' : Nat) (F : Nat → Bool) (w : World) (h : Rd w B a n (fun k => .bool (F k))) (h' : Rd w B' a' n (fun k => .bool (F k))) (hn : n ≤ 1099511627776) :
    Calls Try.prog 13 #[.slice a n c, .slice a' n c'] w fun e w' => e = .returned (.bool true) ∧ ∃ m, w' = w.drewN m := by
  have H := Hk.mk h
  have H' := Hk.mk h'
  clear h h'
  go_enter Try.func13, Try.ntmps13
  go_wp2
  go_loopw [5] (fun i wr => ∃ k : Nat, k ≤ n ∧ i = .int .i64 k ∧ Hk (∃ m, wr = w.drewN m)) (fun i _ => n - (intOf i).toNat)
  case atStart => exact ⟨0, Nat.zero_le _, rfl, ⟨0, rfl⟩⟩
  case round =>
    obtain ⟨k, hk, rfl, HB⟩ := hrel
    by_cases hlt : k < n
    · obtain ⟨b, off, rfl, hbl, hc⟩ := H.out (by omega)
      obtain ⟨b', off', rfl, hbl', hc'⟩ := H'.out (by omega)
      have hcx : wr.cell? ⟨b, off + k, none⟩ = some (.bool (F k)) := by obtain ⟨m, rfl⟩ := HB.out; exact hc k hlt
      have hcy : wr.cell? ⟨b', off' + k, none⟩ = some (.bool (F k)) := by obtain ⟨m, rfl⟩ := HB.out; exact hc' k hlt
      clear hc hc'
      generalize F k = x at *
      have i1 : (0 : Int) ≤ (k : Int) := by omega
      have i2 : (k : Int) < (n : Int) := by omega
      cases x <;>
       (go_wp2
        go_quiet (fail)
        go_wp2
        go_roundw
        case rel => exact ⟨k + 1, by omega, by go_num, ⟨by obtain ⟨m, rfl⟩ := HB.out; exact ⟨_, by rw [World.drewN_drewN]⟩⟩⟩
        case measure => simp [intOf]; omega)
    · have hkn : k = n := by omega
      subst hkn
      go_wp2
      go_ret
      exact ⟨rfl, HB.out⟩
end Go.Proofs.Ytifnmgbeepgfiaa
