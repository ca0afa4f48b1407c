import Derived.Test.YtjjodfdmbiebnaaDoorKdf
import Derived.Test.YtjjodfdmbiebnaaDoorKdr
import Derived.Test.YtjjodfdmbiebnaaDoorKdq
import Derived.Deep.QuietTactic
import Derived.BigQuiet
import Derived.Deep.RegionWith
import Derived.Deep.RegionHeld3
import Derived.Deep.DeepCutAuto
import Derived.Deep.DeepFit
import Derived.Outline
import Derived.Test.YtjjodfdmbiebnaaDoorKdo
/- The argument of the statements of layer 17. -/
namespace Go.Proofs.YtjjodfdmbiebnaaDoor
open Go.ChangeShapes Go.WideShapes Go.ChangeAt Go.RowKit Go.Deep
set_option linter.unusedVariables false
/-- The slice reads as these numbers of 64 bits. -/
structure N64 (w : World) (B : Nat) (a : Option Addr) (n : Nat) (f : Nat → Int) : Prop where
  num : ∀ k, k < n → Fx.I64 (f k)
  rd : 0 < n → ∃ b off, a = some ⟨b, off, none⟩ ∧ b < B ∧ ∀ k, k < n → w.cell? ⟨b, off + k, none⟩ = some (.int .i64 (f k))
theorem N64.below {w w' : World} {B B' n : Nat} {a : Option Addr} {f : Nat → Int} (h : N64 w B a n f) (hb : Below B' w w') (hB : B ≤ B') : N64 w' B a n f := ⟨h.num, fun hn => by
  obtain ⟨b, off, e, hlt, hc⟩ := h.rd hn
  exact ⟨b, off, e, hlt, fun k hk => (hb.cell (p := ⟨b, off + k, none⟩) (Nat.lt_of_lt_of_le hlt hB)).trans (hc k hk)⟩⟩
theorem n64_of {H : Type} {enc : TypeId × Value → H} {w : World} {base : Nat} {spare : Nat → Bool} {held : Bool} {fuel : Nat} {x : DataW H × List MemPlace} {v : Value}
    (hf : DataW.trod enc Tryd.prog w base spare held fuel 63 [v] = some x) : ∃ a n c f, v = .slice a n c ∧ n ≤ 9223372036854775807 ∧ N64 w w.heap.size a n f := by
  rcases open_ints Tryd.underlying63 Tryd.underlying2 (by kernel_rfl) hf with ⟨hcs, _⟩ | ⟨a, l, c, zs, hcs, _, hl, hm, hz, _, hc, hwf⟩
  · simp at hcs; subst hcs
    exact ⟨none, 0, 0, fun _ => 0, rfl, by omega, fun k h => absurd h (by omega), fun h => absurd h (by omega)⟩
  · simp at hcs; subst hcs
    have hzl : l ≤ zs.length := by rw [hz]; split <;> omega
    refine ⟨_, _, _, fun k => zs.getD k 0, rfl, by unfold maxLen at hm; omega, fun k hk => ?_, fun hn => ?_⟩
    · have hk' : k < zs.length := by omega
      have := hwf (zs.getD k 0) (by simp [List.getD, List.getElem?_eq_getElem hk'])
      exact i64_of_wf this
    · obtain ⟨b, off, spot⟩ := a
      have hs : spot = none := by
        have h0 := World.cell?_spot (hc 0 (by omega))
        simpa [Addr.add] using h0
      subst hs
      refine ⟨b, off, rfl, ?_, fun k hk => ?_⟩
      · have := hc 0 (by omega); rw [aq_plus] at this; exact World.block_lt_of_cell? _ _ this
      · have := hc k (by omega)
        rw [aq_plus] at this
        rw [this]
theorem slice_of {H : Type} {enc : TypeId × Value → H} {w : World} {base : Nat} {spare : Nat → Bool} {held : Bool} {fuel : Nat} {x : DataW H × List MemPlace} {v : Value}
    (hf : DataW.trod enc Tryd.prog w base spare held fuel 46 [v] = some x) : ∃ a n c, v = .slice a n c ∧ n ≤ 9223372036854775807 := by
  rcases open_slice Tryd.underlying46 hf with ⟨hcs, _⟩ | ⟨a', l, c, m, n, D, Pl, hcs, _, hl, hm, hmm, _, hi⟩
  · simp at hcs; exact ⟨none, 0, 0, hcs, by omega⟩
  · simp at hcs; exact ⟨_, _, _, hcs, by unfold maxLen at hm; omega⟩
def Asks17 (w : World) (v : Value) : Prop := ∃ (W H : Int) (a : Option Addr) (n c : Nat) (xs : List Int) (la : Option Addr) (ln lc : Nat) (cl : Int) (ta : Option Addr) (tn tc : Nat) (ts : List Int) (pa : Option Addr) (pn pc : Nat) (f g : Nat → Int) (ra : Option Addr) (rn rc : Nat) (q : Nat → Int),
  v = .agg #[.int .i64 W, .int .i64 H, .slice a n c, .slice la ln lc, .int .i64 cl, .slice ta tn tc, .slice pa pn pc, .slice ra rn rc] ∧ n ≤ 9223372036854775807 ∧ ln ≤ 9223372036854775807 ∧ tn ≤ 9223372036854775807 ∧ pn ≤ 9223372036854775807 ∧ rn ≤ 9223372036854775807 ∧
  By w w.heap.size a n xs ∧ Nq w w.heap.size ta tn ts ∧ Vs w w.heap.size pa pn f g ∧ N64 w w.heap.size ra rn q
set_option maxRecDepth 100000 in
theorem asks17_of {H : Type} {enc : TypeId × Value → H} {w : World} {base : Nat} {spare : Nat → Bool} {held : Bool} {fuel : Nat} {x : DataW H × List MemPlace} {cs : Array Value} (hcs : cs.size = Tryd.prog.cellsOf 65)
    (hf : DataW.trod enc Tryd.prog w base spare held fuel 65 cs.toList = some x) : Asks17 w (.agg cs) := by
  have hC : Tryd.prog.cellsOf 65 = 8 := by kernel_rfl
  have h1 : Tryd.prog.cellsOf 24 = 3 := by kernel_rfl
  have h2 : Tryd.prog.cellsOf 25 = 1 := by kernel_rfl
  have h3 : Tryd.prog.cellsOf 26 = 1 := by kernel_rfl
  have h4 : Tryd.prog.cellsOf 46 = 1 := by kernel_rfl
  have h5 : Tryd.prog.cellsOf 3 = 1 := by kernel_rfl
  have h6 : Tryd.prog.cellsOf 63 = 1 := by kernel_rfl
  rw [hC] at hcs
  obtain ⟨l⟩ := cs
  match l, hcs with
  | [c0, c1, c2, c3, c4, c5, c6, c7], _ =>
    obtain ⟨ys, n', _, _, _, hyl, hg⟩ := DataW.trod_struct Tryd.underlying65 hf
    match ys, hyl with
    | [y0, y1, y2, y3, y4, y5], _ =>
      have g0 := hg 0 _ rfl
      have g1 := hg 1 _ rfl
      have g2 := hg 2 _ rfl
      have g3 := hg 3 _ rfl
      have g4 := hg 4 _ rfl
      have g5 := hg 5 _ rfl
      simp [h1, h2, h3, h4, h5, h6] at g0 g1 g2 g3 g4 g5
      obtain ⟨W, H, a, n, c, xs, rfl, rfl, rfl, hn, hby⟩ := vground_of g0
      obtain ⟨la, ln, lc, rfl, hln⟩ := slice_of g1
      obtain ⟨cl, e2, _, _⟩ := DataW.trod_int Tryd.underlying3 g2
      simp at e2
      subst e2
      obtain ⟨ta, tn, tc, ts, rfl, htn, hnq⟩ := nq_of g3
      obtain ⟨pa, pn, pc, f, g, rfl, hpn, hpc, hvs⟩ := vs_of g4
      obtain ⟨ra, rn, rc, q, rfl, hrn, hrq⟩ := n64_of g5
      exact ⟨W, H, a, n, c, xs, la, ln, lc, cl, ta, tn, tc, ts, pa, pn, pc, f, g, ra, rn, rc, q, rfl, hn, hln, htn, by omega, hrn, hby, hnq, hvs, hrq⟩
def hv17 (n ln tn pn rn : Nat) : Bool := decide (700 < n ∨ 30 < ln ∨ 30 < tn ∨ 20 < pn ∨ 20 < rn)
def gr17 (n ln : Nat) : Bool := decide (700 < n ∨ 30 < ln)
theorem great17_any (W H : Int) (a la : Option Addr) (n c ln lc : Nat) (w : World) (hn : n ≤ 9223372036854775807) (hln : ln ≤ 9223372036854775807) : Calls Tryd.prog 55 #[.agg #[.int .i64 W, .int .i64 H, .slice a n c], .slice la ln lc] w fun e w' => e = .returned (.bool (gr17 n ln)) ∧ Below w.heap.size w w' := by
  by_cases q0 : 700 < n
  · have b0 : decide ((700 : Int) < n) = true := by simp; omega
    have R : Hk (gr17 n ln = true) := ⟨by unfold gr17; simp; omega⟩
    go_enter Tryd.func55, Tryd.ntmps55
    go_wp2
    go_ret
    exact ⟨rbo R.out.symm, (Below.refl _ _).alloc (Nat.le_refl _) _⟩
  have b0 : decide ((700 : Int) < n) = false := by simp; omega
  by_cases q1 : 30 < ln
  · have b1 : decide ((30 : Int) < ln) = true := by simp; omega
    have R : Hk (gr17 n ln = true) := ⟨by unfold gr17; simp; omega⟩
    go_enter Tryd.func55, Tryd.ntmps55
    go_wp2
    go_ret
    exact ⟨rbo R.out.symm, (Below.refl _ _).alloc (Nat.le_refl _) _⟩
  have b1 : decide ((30 : Int) < ln) = false := by simp; omega
  have R : Hk (gr17 n ln = false) := ⟨by unfold gr17; simp; omega⟩
  go_enter Tryd.func55, Tryd.ntmps55
  go_wp2
  go_ret
  exact ⟨rbo R.out.symm, (Below.refl _ _).alloc (Nat.le_refl _) _⟩
theorem great17_as (r : Bool) (W H : Int) (a la : Option Addr) (n c ln lc : Nat) (w : World) (hn : n ≤ 9223372036854775807) (hln : ln ≤ 9223372036854775807) (E : Hk (gr17 n ln = r)) : Calls Tryd.prog 55 #[.agg #[.int .i64 W, .int .i64 H, .slice a n c], .slice la ln lc] w fun e w' => e = .returned (.bool r) ∧ Below w.heap.size w w' := by
  obtain ⟨rfl⟩ := E; exact great17_any W H a la n c ln lc w hn hln
theorem heavy17_any (W H cl : Int) (a la ta pa ra : Option Addr) (n c ln lc tn tc pn pc rn rc : Nat) (w : World) (hn : n ≤ 9223372036854775807) (hln : ln ≤ 9223372036854775807) (htn : tn ≤ 9223372036854775807) (hpn : pn ≤ 9223372036854775807) (hrn : rn ≤ 9223372036854775807) : Calls Tryd.prog 37 #[.agg #[.int .i64 W, .int .i64 H, .slice a n c, .slice la ln lc, .int .i64 cl, .slice ta tn tc, .slice pa pn pc, .slice ra rn rc]] w fun e w' => e = .returned (.bool (hv17 n ln tn pn rn)) ∧ Below w.heap.size w w' := by
  by_cases hg : 700 < n ∨ 30 < ln
  · have EG : Hk (gr17 n ln = true) := ⟨by unfold gr17; simpa using hg⟩
    have R : Hk (hv17 n ln tn pn rn = true) := ⟨by unfold hv17; simp; omega⟩
    clear hg
    go_enter Tryd.func37, Tryd.ntmps37
    go_wp2_with (go_at_call 55; (with_reducible refine (great17_as true W H a la n c ln lc _ hn hln EG).mono ?_); rintro e w1 ⟨rfl, hb1⟩; obtain ⟨hc1, hf1⟩ := bcellg' hb1; have hz1 := hb1.size; simp at hz1; have q0' : w.heap.size < w1.heap.size := (by omega); clear hz1; have HB1 := Hk.mk hb1; clear hb1)
    go_ret
    exact ⟨rbo R.out.symm, ((Below.refl _ _).alloc (Nat.le_refl _) _).trans (HB1.out.mono (by simp))⟩
  have EG : Hk (gr17 n ln = false) := ⟨by unfold gr17; simp; omega⟩
  by_cases q0 : 30 < tn
  · have b0 : decide ((30 : Int) < tn) = true := by simp; omega
    have R : Hk (hv17 n ln tn pn rn = true) := ⟨by unfold hv17; simp; omega⟩
    go_enter Tryd.func37, Tryd.ntmps37
    go_wp2_with (go_at_call 55; (with_reducible refine (great17_as false W H a la n c ln lc _ hn hln EG).mono ?_); rintro e w1 ⟨rfl, hb1⟩; obtain ⟨hc1, hf1⟩ := bcellg' hb1; have hz1 := hb1.size; simp at hz1; have q0' : w.heap.size < w1.heap.size := (by omega); clear hz1; have HB1 := Hk.mk hb1; clear hb1)
    go_ret
    exact ⟨rbo R.out.symm, ((Below.refl _ _).alloc (Nat.le_refl _) _).trans (HB1.out.mono (by simp))⟩
  have b0 : decide ((30 : Int) < tn) = false := by simp; omega
  by_cases q1 : 20 < pn
  · have b1 : decide ((20 : Int) < pn) = true := by simp; omega
    have R : Hk (hv17 n ln tn pn rn = true) := ⟨by unfold hv17; simp; omega⟩
    go_enter Tryd.func37, Tryd.ntmps37
    go_wp2_with (go_at_call 55; (with_reducible refine (great17_as false W H a la n c ln lc _ hn hln EG).mono ?_); rintro e w1 ⟨rfl, hb1⟩; obtain ⟨hc1, hf1⟩ := bcellg' hb1; have hz1 := hb1.size; simp at hz1; have q0' : w.heap.size < w1.heap.size := (by omega); clear hz1; have HB1 := Hk.mk hb1; clear hb1)
    go_ret
    exact ⟨rbo R.out.symm, ((Below.refl _ _).alloc (Nat.le_refl _) _).trans (HB1.out.mono (by simp))⟩
  have b1 : decide ((20 : Int) < pn) = false := by simp; omega
  by_cases q2 : 20 < rn
  · have b2 : decide ((20 : Int) < rn) = true := by simp; omega
    have R : Hk (hv17 n ln tn pn rn = true) := ⟨by unfold hv17; simp; omega⟩
    go_enter Tryd.func37, Tryd.ntmps37
    go_wp2_with (go_at_call 55; (with_reducible refine (great17_as false W H a la n c ln lc _ hn hln EG).mono ?_); rintro e w1 ⟨rfl, hb1⟩; obtain ⟨hc1, hf1⟩ := bcellg' hb1; have hz1 := hb1.size; simp at hz1; have q0' : w.heap.size < w1.heap.size := (by omega); clear hz1; have HB1 := Hk.mk hb1; clear hb1)
    go_ret
    exact ⟨rbo R.out.symm, ((Below.refl _ _).alloc (Nat.le_refl _) _).trans (HB1.out.mono (by simp))⟩
  have b2 : decide ((20 : Int) < rn) = false := by simp; omega
  have R : Hk (hv17 n ln tn pn rn = false) := ⟨by unfold hv17; simp; omega⟩
  go_enter Tryd.func37, Tryd.ntmps37
  go_wp2_with (go_at_call 55; (with_reducible refine (great17_as false W H a la n c ln lc _ hn hln EG).mono ?_); rintro e w1 ⟨rfl, hb1⟩; obtain ⟨hc1, hf1⟩ := bcellg' hb1; have hz1 := hb1.size; simp at hz1; have q0' : w.heap.size < w1.heap.size := (by omega); clear hz1; have HB1 := Hk.mk hb1; clear hb1)
  go_ret
  exact ⟨rbo R.out.symm, ((Below.refl _ _).alloc (Nat.le_refl _) _).trans (HB1.out.mono (by simp))⟩
theorem heavy17_as (r : Bool) (W H cl : Int) (a la ta pa ra : Option Addr) (n c ln lc tn tc pn pc rn rc : Nat) (w : World) (hn : n ≤ 9223372036854775807) (hln : ln ≤ 9223372036854775807) (htn : tn ≤ 9223372036854775807) (hpn : pn ≤ 9223372036854775807) (hrn : rn ≤ 9223372036854775807) (E : Hk (hv17 n ln tn pn rn = r)) : Calls Tryd.prog 37 #[.agg #[.int .i64 W, .int .i64 H, .slice a n c, .slice la ln lc, .int .i64 cl, .slice ta tn tc, .slice pa pn pc, .slice ra rn rc]] w fun e w' => e = .returned (.bool r) ∧ Below w.heap.size w w' := by
  obtain ⟨rfl⟩ := E; exact heavy17_any W H cl a la ta pa ra n c ln lc tn tc pn pc rn rc w hn hln htn hpn hrn
end Go.Proofs.YtjjodfdmbiebnaaDoor
/- Layer 17: the opener, buildings among it. -/
namespace Go.Proofs.YtjjodfdmbiebnaaDoor
open Go.ChangeShapes Go.WideShapes Go.ChangeAt Go.RowKit Go.Deep
set_option linter.unusedVariables false
def Asks17b (w : World) (v : Value) : Prop := ∃ (W H : Int) (a : Option Addr) (n c : Nat) (xs : List Int) (la : Option Addr) (ln lc : Nat) (bs : List Bd) (x : Int) (ta : Option Addr) (tn tc : Nat) (ts : List Int) (pa : Option Addr) (pn pc : Nat) (f g : Nat → Int) (ra : Option Addr) (rn rc : Nat) (q : Nat → Int),
  v = .agg #[.int .i64 W, .int .i64 H, .slice a n c, .slice la ln lc, .int .i64 x, .slice ta tn tc, .slice pa pn pc, .slice ra rn rc] ∧ n ≤ 9223372036854775807 ∧ ln ≤ 9223372036854775807 ∧ tn ≤ 9223372036854775807 ∧ pn ≤ 9223372036854775807 ∧ rn ≤ 9223372036854775807 ∧
  By w w.heap.size a n xs ∧ Bq w w.heap.size la ln bs ∧ Nq w w.heap.size ta tn ts ∧ Vs w w.heap.size pa pn f g ∧ N64 w w.heap.size ra rn q
set_option maxRecDepth 100000 in
theorem asks17b_of {H : Type} {enc : TypeId × Value → H} {w : World} {base : Nat} {spare : Nat → Bool} {held : Bool} {fuel : Nat} {x : DataW H × List MemPlace} {cs : Array Value} (hcs : cs.size = Tryd.prog.cellsOf 65)
    (hf : DataW.trod enc Tryd.prog w base spare held fuel 65 cs.toList = some x) : Asks17b w (.agg cs) := by
  have hC : Tryd.prog.cellsOf 65 = 8 := by kernel_rfl
  have h1 : Tryd.prog.cellsOf 24 = 3 := by kernel_rfl
  have h2 : Tryd.prog.cellsOf 25 = 1 := by kernel_rfl
  have h3 : Tryd.prog.cellsOf 26 = 1 := by kernel_rfl
  have h4 : Tryd.prog.cellsOf 46 = 1 := by kernel_rfl
  have h5 : Tryd.prog.cellsOf 3 = 1 := by kernel_rfl
  have h6 : Tryd.prog.cellsOf 63 = 1 := by kernel_rfl
  rw [hC] at hcs
  obtain ⟨l⟩ := cs
  match l, hcs with
  | [c0, c1, c2, c3, c4, c5, c6, c7], _ =>
    obtain ⟨ys, n', _, _, _, hyl, hg⟩ := DataW.trod_struct Tryd.underlying65 hf
    match ys, hyl with
    | [y0, y1, y2, y3, y4, y5], _ =>
      have g0 := hg 0 _ rfl
      have g1 := hg 1 _ rfl
      have g2 := hg 2 _ rfl
      have g3 := hg 3 _ rfl
      have g4 := hg 4 _ rfl
      have g5 := hg 5 _ rfl
      simp [h1, h2, h3, h4, h5, h6] at g0 g1 g2 g3 g4 g5
      obtain ⟨W, H, a, n, c, xs, rfl, rfl, rfl, hW, hH, hn, hby⟩ := op_ground g0
      obtain ⟨la, ln, lc, bs, rfl, hlc, hlcc, hbq, hi⟩ := op_bds g1
      obtain ⟨cl, rfl, hcl⟩ := op_int g2
      obtain ⟨ta, tn, tc, ts, rfl, htn, hnq⟩ := nq_of g3
      obtain ⟨pa, pn, pc, f, g, rfl, hpn, hpc, hvs⟩ := vs_of g4
      obtain ⟨ra, rn, rc, q, rfl, hrn, hrq⟩ := n64_of g5
      exact ⟨W, H, a, n, c, xs, la, ln, lc, bs, cl, ta, tn, tc, ts, pa, pn, pc, f, g, ra, rn, rc, q, rfl, hn, by omega, htn, by omega, hrn, hby, hbq, hnq, hvs, hrq⟩
end Go.Proofs.YtjjodfdmbiebnaaDoor
/- Layer 17: what disc.Meets and disc.Free answer, as functions of the radius. -/
namespace Go.Proofs.YtjjodfdmbiebnaaDoor
open Go.RowKit Go.Deep
set_option linter.unusedVariables false
set_option linter.unusedSimpArgs false
theorem sq_mono {a b : Int} (h0 : 0 ≤ a) (h : a ≤ b) : a * a ≤ b * b := Int.le_trans (Int.mul_le_mul_of_nonneg_left h h0) (Int.mul_le_mul_of_nonneg_right h (by omega))
theorem meets_mono {W t px py a b : Int} (h0 : 0 ≤ a) (h : a ≤ b) (hm : meetsS W t px py a = true) : meetsS W t px py b = true := by
  unfold meetsS at hm ⊢
  rw [Bool.and_eq_true, Bool.and_eq_true, decide_eq_true_iff, decide_eq_true_iff, decide_eq_true_iff] at hm ⊢
  have := sq_mono h0 h
  generalize bsS px (t % W) = X at *
  generalize bsS py (t / W) = Y at *
  generalize X * X + Y * Y = Z at *
  omega
theorem bsS_nn (x c : Int) : 0 ≤ bsS x c := by unfold bsS; (repeat' split) <;> omega
theorem meets_zero (W t px py : Int) : meetsS W t px py 0 = false := by
  unfold meetsS
  rw [decide_eq_false (by have := bsS_nn px (t % W); omega)]
  rfl
theorem frS_mono {W H : Int} {F : Nat → Bool} {n : Nat} {px py a b : Int} (h0 : 0 ≤ a) (h : a ≤ b) (hm : frS W H F n px py b = true) : frS W H F n px py a = true := by
  have hm' := hm
  unfold frS inD at hm'
  rw [Bool.and_eq_true, decide_eq_true_iff] at hm'
  refine frS_yes (by omega) fun t ht => ?_
  cases hF : F t
  · cases q : meetsS W t px py a
    · exact Or.inr rfl
    · rw [frS_hit ht hF (meets_mono h0 h q)] at hm; cases hm
  · exact Or.inl rfl
theorem fmD_zero {px py r : Int} (h : fmD px py r = true) : fmD px py 0 = true := by
  unfold fmD at h ⊢; simp at h ⊢; omega
/-- disc.Meets of one tile and one place, for every radius that may be. -/
theorem dmeets_two (t px py : Int) (W H : Int) (a : Option Addr) (n c : Nat) (xs : List Int) (hn : n ≤ 140737488355328) : ∃ (E : Int) (V : Int → Bool), (∀ r s, 0 ≤ r → r ≤ s → V r = true → V s = true) ∧ V 0 = false ∧
    ∀ (r : Int) (w : World), By w w.heap.size a n xs → fmD px py r = true →
      Calls Tryd.prog 49 #[.agg #[.int .i64 W, .int .i64 H, .slice a n c], .int .i64 t, .agg #[.int .i64 px, .int .i64 py], .int .i64 r] w fun e' w' => e' = .returned (.tuple #[.bool (V r), .int .i64 E]) ∧ Below w.heap.size w w' := by
  by_cases g : GOk W H n xs
  · by_cases ht : 0 ≤ t ∧ t < W * H
    · exact ⟨0, meetsS W t px py, fun r s h0 h => meets_mono h0 h, meets_zero W t px py, fun r w h hf => dmeets_yes t px py r W H a n c w.heap.size xs w h (Nat.le_refl _) hn g ⟨hf⟩ ht.1 ht.2⟩
    · exact ⟨3, fun _ => false, fun _ _ _ _ h => h, rfl, fun r w h hf => dmeets_none t px py r W H a n c w.heap.size xs w h (Nat.le_refl _) hn g ⟨hf⟩ ht⟩
  · exact ⟨1, fun _ => false, fun _ _ _ _ h => h, rfl, fun r w h hf => dmeets_form t px py r W H a n c w.heap.size xs w h (Nat.le_refl _) hn g⟩
/-- disc.Free at one place, for every radius that may be. -/
theorem dfree_two (px py : Int) (W H : Int) (a : Option Addr) (n c : Nat) (xs : List Int) (la : Option Addr) (ln lc : Nat) (bs : List Bd) (x : Int) (hn : n ≤ 140737488355328) (hln : ln ≤ 1099511627776) : ∃ (E : Int) (V : Int → Bool), (∀ r s, 0 ≤ r → r ≤ s → V s = true → V r = true) ∧
    ∀ (r : Int) (w : World), By w w.heap.size a n xs → Bq w w.heap.size la ln bs → LC w → fmD px py r = true →
      Calls Tryd.prog 42 #[.agg #[.int .i64 W, .int .i64 H, .slice a n c], .slice la ln lc, .int .i64 x, .agg #[.int .i64 px, .int .i64 py], .int .i64 r] w fun e' w' => e' = .returned (.tuple #[.bool (V r), .int .i64 E]) ∧ Below w.heap.size w w' := by
  by_cases M : MOk W H n xs bs ∧ 0 ≤ x ∧ x ≤ 2
  · obtain ⟨cl, rfl⟩ : ∃ cl : Nat, x = cl := ⟨x.toNat, by omega⟩
    exact ⟨0, frS W H (opn W xs bs cl) n px py, fun r s h0 h => frS_mono h0 h, fun r w h hb hL hf => dfree_yes W H a n c xs la ln lc bs cl px py r w h hb hn hln hL (by omega) ⟨M.1⟩ ⟨hf⟩⟩
  · exact ⟨1, fun _ => false, fun _ _ _ _ h => h, fun r w h hb hL hf => dfree_no W H a n c xs la ln lc bs x px py r w h hb hn hln ⟨M⟩⟩
theorem of5 (w : World) : Calls Tryd.prog 50 #[.int .i64 5] w fun e w' => e = .returned (.int .i64 5) ∧ w = w' := by
  have h := of_any 5 w (by unfold Fx.I64; omega)
  have e : Fx.cnt 5 = 5 := by decide
  rw [e] at h
  exact h
end Go.Proofs.YtjjodfdmbiebnaaDoor
/- Layer 13: what its statements and those behind it share. -/
namespace Go.Proofs.YtjjodfdmbiebnaaDoor
open Go.ChangeShapes Go.WideShapes Go.ChangeAt Go.RowKit Go.Deep
set_option linter.unusedVariables false
set_option linter.unusedSimpArgs false
theorem rnum13_as (r : Bool) (i j : Int) (w : World) (E : Hk (decide (0 ≤ i ∧ i ≤ j) = r)) : Calls Tryd.prog 70 #[.int .i64 i, .int .i64 j] w fun e w' => e = .returned (.bool r) ∧ w = w' := by
  by_cases c1 : 0 ≤ i
  · have d1 : decide (0 ≤ i) = true := by simpa using c1
    have d2 : decide (i ≤ j) = r := by rw [← E.out]; simp [c1]
    go_enter Tryd.func70, Tryd.ntmps70
    go_wp2_with fail
    go_ret
    exact ⟨by go_num, rfl⟩
  · have d1 : decide (0 ≤ i) = false := by simpa using c1
    have d2 : r = false := by rw [← E.out]; simp [c1]
    subst d2
    go_enter Tryd.func70, Tryd.ntmps70
    go_wp2_with fail
    go_ret
    exact ⟨rfl, rfl⟩
set_option maxRecDepth 100000 in
theorem rmay13_as (r : Bool) (W H : Int) (a : Option Addr) (n c : Nat) (xs : List Int) (la : Option Addr) (ln lc : Nat) (bs : List Bd) (x sz : Int) (w : World) (h : By w w.heap.size a n xs) (hb0 : Bq w w.heap.size la ln bs) (hn : n ≤ 140737488355328) (hln : ln ≤ 1099511627776) (E : Hk (r = true ↔ (MOk W H n xs bs ∧ (0 ≤ x ∧ x ≤ 2) ∧ 0 ≤ sz ∧ sz ≤ 3))) :
    Calls Tryd.prog 46 #[.agg #[.int .i64 W, .int .i64 H, .slice a n c], .slice la ln lc, .int .i64 x, .int .i64 sz] w fun e w' => e = .returned (.bool r) ∧ Below w.heap.size w w' := by
  have HWB : Hk (Below w.heap.size w (w.alloc (.cells #[.int .i64 W, .int .i64 H, .slice a n c] 24))) := ⟨(Below.refl _ _).alloc (Nat.le_refl _) _⟩
  have hNW : w.heap.size + 1 ≤ ((w.alloc (.cells #[.int .i64 W, .int .i64 H, .slice a n c] 24))).heap.size := by simp
  have HB : Hk (Below (w.heap.size + 1) (w.alloc (.cells #[.int .i64 W, .int .i64 H, .slice a n c] 24)) (w.alloc (.cells #[.int .i64 W, .int .i64 H, .slice a n c] 24))) := ⟨Below.refl _ _⟩
  have HTR : Hk (∀ X, Below (w.heap.size + 1) (w.alloc (.cells #[.int .i64 W, .int .i64 H, .slice a n c] 24)) X → Below w.heap.size w X) := ⟨fun X hX => HWB.out.trans (hX.mono (by omega))⟩
  have HBY := Hk.mk (fun (X : World) (hX : Below (w.heap.size + 1) (w.alloc (.cells #[.int .i64 W, .int .i64 H, .slice a n c] 24)) X) => h.below (HTR.out X hX) (Nat.le_refl _))
  have HBQ := Hk.mk (fun (X : World) (hX : Below (w.heap.size + 1) (w.alloc (.cells #[.int .i64 W, .int .i64 H, .slice a n c] 24)) X) => hb0.below (HTR.out X hX) (Nat.le_refl _))
  clear h hb0
  obtain ⟨hc, hf, hl, hn', hm⟩ := kw_rules HB.out hNW
  by_cases hM : MOk W H n xs bs
  · have HM := Hk.mk hM
    clear hM
    by_cases hx : 0 ≤ x ∧ x ≤ 2
    · have HX := Hk.mk hx
      clear hx
      have E3 : Hk (decide (0 ≤ sz ∧ sz ≤ 3) = r) := ⟨by
        have := E.out
        by_cases hs : 0 ≤ sz ∧ sz ≤ 3
        · rw [this.2 ⟨HM.out, HX.out, hs⟩]; exact decide_eq_true hs
        · cases r
          · exact decide_eq_false hs
          · exact absurd (this.1 rfl).2.2 hs⟩
      go_enter Tryd.func46, Tryd.ntmps46
      go_wp2_with (first | (go_at_call 38; (with_reducible refine (may_as true W H a n c xs la ln lc bs _ ?_ ?_ hn hln ⟨⟨fun _ => HM.out, fun _ => rfl⟩⟩).mono ?_); (exact (HBY.out _ HB.out).mono (hsz1 HB.out)); (exact (HBQ.out _ HB.out).mono (hsz1 HB.out)); rintro e z ⟨rfl, hb⟩; replace HB := Hk.mk (kw_step HB.out hNW hb); clear hb; clear hc hf hl hn' hm; obtain ⟨hc, hf, hl, hn', hm⟩ := kw_rules HB.out hNW) | (go_at_call 39; (with_reducible refine (classC_as true x _ ⟨decide_eq_true HX.out⟩).mono ?_); rintro e z ⟨rfl, rfl⟩) | (go_at_call 70; (with_reducible refine (rnum13_as r sz 3 _ E3).mono ?_); rintro e z ⟨rfl, rfl⟩))
      go_ret
      exact ⟨rfl, HTR.out _ HB.out⟩
    · have HX := Hk.mk hx
      clear hx
      obtain rfl : r = false := by
        cases r
        · rfl
        · exact absurd (E.out.1 rfl).2.1 HX.out
      go_enter Tryd.func46, Tryd.ntmps46
      go_wp2_with (first | (go_at_call 38; (with_reducible refine (may_as true W H a n c xs la ln lc bs _ ?_ ?_ hn hln ⟨⟨fun _ => HM.out, fun _ => rfl⟩⟩).mono ?_); (exact (HBY.out _ HB.out).mono (hsz1 HB.out)); (exact (HBQ.out _ HB.out).mono (hsz1 HB.out)); rintro e z ⟨rfl, hb⟩; replace HB := Hk.mk (kw_step HB.out hNW hb); clear hb; clear hc hf hl hn' hm; obtain ⟨hc, hf, hl, hn', hm⟩ := kw_rules HB.out hNW) | (go_at_call 39; (with_reducible refine (classC_as false x _ ⟨decide_eq_false HX.out⟩).mono ?_); rintro e z ⟨rfl, rfl⟩))
      go_ret
      exact ⟨rfl, HTR.out _ HB.out⟩
  · have HM := Hk.mk hM
    clear hM
    obtain rfl : r = false := by
      cases r
      · rfl
      · exact absurd (E.out.1 rfl).1 HM.out
    go_enter Tryd.func46, Tryd.ntmps46
    go_wp2_with (go_at_call 38; (with_reducible refine (may_as false W H a n c xs la ln lc bs _ ?_ ?_ hn hln ⟨⟨fun h => (by cases h), fun h => absurd h HM.out⟩⟩).mono ?_); (exact (HBY.out _ HB.out).mono (hsz1 HB.out)); (exact (HBQ.out _ HB.out).mono (hsz1 HB.out)); rintro e z ⟨rfl, hb⟩; replace HB := Hk.mk (kw_step HB.out hNW hb); clear hb; clear hc hf hl hn' hm; obtain ⟨hc, hf, hl, hn', hm⟩ := kw_rules HB.out hNW)
    go_ret
    exact ⟨rfl, HTR.out _ HB.out⟩
def hv13 (n ln tn : Nat) : Bool := gtP n ln || decide (30 < tn)
theorem heavy13_as (r : Bool) (W H x sz : Int) (a la ta : Option Addr) (n c ln lc tn tc : Nat) (w : World) (hn : n ≤ 9223372036854775807) (hln : ln ≤ 9223372036854775807) (htn : tn ≤ 9223372036854775807) (E : Hk (hv13 n ln tn = r)) :
    Calls Tryd.prog 45 #[.agg #[.int .i64 W, .int .i64 H, .slice a n c, .slice la ln lc, .int .i64 x, .int .i64 sz, .slice ta tn tc]] w fun e w' => e = .returned (.bool r) ∧ Below w.heap.size w w' := by
  have HWB : Hk (Below w.heap.size w (w.alloc (.cells #[.int .i64 W, .int .i64 H, .slice a n c, .slice la ln lc, .int .i64 x, .int .i64 sz, .slice ta tn tc] 74))) := ⟨(Below.refl _ _).alloc (Nat.le_refl _) _⟩
  have hNW : w.heap.size + 1 ≤ ((w.alloc (.cells #[.int .i64 W, .int .i64 H, .slice a n c, .slice la ln lc, .int .i64 x, .int .i64 sz, .slice ta tn tc] 74))).heap.size := by simp
  have HB : Hk (Below (w.heap.size + 1) (w.alloc (.cells #[.int .i64 W, .int .i64 H, .slice a n c, .slice la ln lc, .int .i64 x, .int .i64 sz, .slice ta tn tc] 74)) (w.alloc (.cells #[.int .i64 W, .int .i64 H, .slice a n c, .slice la ln lc, .int .i64 x, .int .i64 sz, .slice ta tn tc] 74))) := ⟨Below.refl _ _⟩
  have HTR : Hk (∀ X, Below (w.heap.size + 1) (w.alloc (.cells #[.int .i64 W, .int .i64 H, .slice a n c, .slice la ln lc, .int .i64 x, .int .i64 sz, .slice ta tn tc] 74)) X → Below w.heap.size w X) := ⟨fun X hX => HWB.out.trans (hX.mono (by omega))⟩
  obtain ⟨hc, hf, hl, hn', hm⟩ := kw_rules HB.out hNW
  cases hg : gtP n ln
  · have HG := Hk.mk hg
    have d : decide ((30 : Int) < (tn : Int)) = r := by rw [← E.out]; unfold hv13; rw [hg]; simp; omega
    clear hg
    go_enter Tryd.func45, Tryd.ntmps45
    go_wp2_with (go_at_call 55; (with_reducible refine (great_as false W H a n c la ln lc _ hn hln HG).mono ?_); rintro e z ⟨rfl, hb⟩; replace HB := Hk.mk (kw_step HB.out hNW hb); clear hb; clear hc hf hl hn' hm; obtain ⟨hc, hf, hl, hn', hm⟩ := kw_rules HB.out hNW)
    go_ret
    exact ⟨by go_num, HTR.out _ HB.out⟩
  · have HG := Hk.mk hg
    obtain rfl : r = true := by rw [← E.out]; unfold hv13; rw [hg]; rfl
    clear hg
    go_enter Tryd.func45, Tryd.ntmps45
    go_wp2_with (go_at_call 55; (with_reducible refine (great_as true W H a n c la ln lc _ hn hln HG).mono ?_); rintro e z ⟨rfl, hb⟩; replace HB := Hk.mk (kw_step HB.out hNW hb); clear hb; clear hc hf hl hn' hm; obtain ⟨hc, hf, hl, hn', hm⟩ := kw_rules HB.out hNW)
    go_ret
    exact ⟨rfl, HTR.out _ HB.out⟩
set_option maxRecDepth 100000 in
theorem rgood_any (W H : Int) (a : Option Addr) (n c : Nat) (xs : List Int) (la : Option Addr) (ln lc : Nat) (bs : List Bd) (cl s : Nat) (w : World) (h : By w w.heap.size a n xs) (hb0 : Bq w w.heap.size la ln bs) (hn : n ≤ 140737488355328) (hc3 : cl < 3) (hs : s ≤ 3) (MM : Hk (MOk W H n xs bs)) :
    Calls Tryd.prog 47 #[.agg #[.int .i64 W, .int .i64 H, .slice a n c], .slice la ln lc, .int .i64 cl, .int .i64 s] w fun e w' => ∃ g, e = .returned (.slice (some ⟨g, 0, none⟩) n n) ∧ w.heap.size ≤ g ∧ Arr w' g n 4 (fun k => .bool (decide (s < sC W H (opn W xs bs cl) k))) ∧ Below w.heap.size w w' := by
  have info_b : (Tryd.prog.info? 4).map (fun i => (i.zero, i.size, i.bytes)) = some (some (.bool false), 1, 1) := by kernel_rfl
  obtain ⟨i0, hi, hz0, hz1, hz2⟩ := info_parts info_b
  clear info_b
  have HWB : Hk (Below w.heap.size w (w.alloc (.cells #[.int .i64 W, .int .i64 H, .slice a n c] 24))) := ⟨(Below.refl _ _).alloc (Nat.le_refl _) _⟩
  have hNW : w.heap.size + 1 ≤ ((w.alloc (.cells #[.int .i64 W, .int .i64 H, .slice a n c] 24))).heap.size := by simp
  have HB : Hk (Below (w.heap.size + 1) (w.alloc (.cells #[.int .i64 W, .int .i64 H, .slice a n c] 24)) (w.alloc (.cells #[.int .i64 W, .int .i64 H, .slice a n c] 24))) := ⟨Below.refl _ _⟩
  have HTR : Hk (∀ X, Below (w.heap.size + 1) (w.alloc (.cells #[.int .i64 W, .int .i64 H, .slice a n c] 24)) X → Below w.heap.size w X) := ⟨fun X hX => HWB.out.trans (hX.mono (by omega))⟩
  have HBY := Hk.mk (fun (X : World) (hX : Below (w.heap.size + 1) (w.alloc (.cells #[.int .i64 W, .int .i64 H, .slice a n c] 24)) X) => h.below (HTR.out X hX) (Nat.le_refl _))
  have HBQ := Hk.mk (fun (X : World) (hX : Below (w.heap.size + 1) (w.alloc (.cells #[.int .i64 W, .int .i64 H, .slice a n c] 24)) X) => hb0.below (HTR.out X hX) (Nat.le_refl _))
  clear h hb0
  obtain ⟨hc, hf, hl, hn', hm⟩ := kw_rules HB.out hNW
  go_enter Tryd.func47, Tryd.ntmps47
  go_wp2_with (first
    | (go_at_call 31; (with_reducible refine (rgrid_any W H a n c xs la ln lc bs _ ?_ ?_ cl hc3 MM).mono ?_); (exact (HBY.out _ HB.out).mono (hsz1 HB.out)); (exact (HBQ.out _ HB.out).mono (hsz1 HB.out)); rintro e z ⟨I, rfl, hg1, hA1, hb⟩; have HA1 := Hk.mk hA1; clear hA1 hg1; replace HB := Hk.mk (kw_step HB.out hNW hb); clear hb; clear hc hf hl hn' hm; obtain ⟨hc, hf, hl, hn', hm⟩ := kw_rules HB.out hNW)
    | (at_make; go_must (refine wpList_make_full _ rfl _ _ 51 rfl (w.heap.size + 1) 4 i0 (.bool false) 1 Tryd.underlying51 hi hz0 hz1 .i64 .i64 _ _ n rfl rfl rfl rfl (by rw [hz2]; omega) (by unfold maxLen; omega) (kw_size HB.out hNW) ?_); intro z1 hown hgrow; have HA2 := Hk.mk (Arr.made hown rfl (z := .bool false)); have hb := below_grown hgrow; have HIZ := Hk.mk HA1.out.lt; have HQZ : Hk (w.heap.size + 1 ≤ _) := ⟨kw_size HB.out hNW⟩; replace HA1 := Hk.mk (HA1.out.below hb HA1.out.lt); replace HB := Hk.mk (kw_step HB.out hNW hb); clear hb; clear hc hf hl hn' hm; obtain ⟨hc, hf, hl, hn', hm⟩ := kw_rules HB.out hNW))
  have HA1 := HA1; have HA2 := HA2
  have hIQ : ¬ I = z.heap.size := by have := HIZ.out; omega
  have HQN : Hk (w.heap.size + 1 ≤ z.heap.size) := HQZ
  clear HIZ HQZ
  clear hc hf hl hn' hm
  generalize z.heap.size = Q at *
  go_loopw [11] (fun s' wr => ∃ t : Nat, s' = .int .i64 t ∧ t ≤ n ∧ Hk (Below (w.heap.size + 1) (w.alloc (.cells #[.int .i64 W, .int .i64 H, .slice a n c] 24)) wr) ∧ Hk (Arr wr I n 3 (fun k => .int .i64 (sC W H (opn W xs bs cl) k))) ∧ Hk (Arr wr Q n 4 (fun k => .bool (if k < t then decide (s < sC W H (opn W xs bs cl) k) else false)))) (fun s' _ => n - (intOf s').toNat)
  case atStart => exact ⟨0, rfl, by omega, HB, HA1, ⟨HA2.out.congr fun k hk => by rw [if_neg (by omega)]⟩⟩
  case round =>
    clear HB HA1 HA2
    obtain ⟨t, rfl, ht, HB, HA1, HA2⟩ := hrel
    obtain ⟨hc, hf, hl, hn', hm⟩ := kw_rules HB.out hNW
    by_cases hlt : t < n
    · have t0 : (0 : Int) ≤ (t : Int) := by omega
      have t1 : (t : Int) < (n : Int) := by omega
      have c1 := HA1.out.cell hlt
      have c2 := HA2.out.cell hlt
      have c3 := HA2.out.frozen t
      rw [if_neg (by omega)] at c2
      obtain ⟨v, hv⟩ : ∃ v, sC W H (opn W xs bs cl) t = v := ⟨_, rfl⟩
      rw [hv] at c1
      have HD : Hk (decide (s < sC W H (opn W xs bs cl) t) = decide (s < v)) := ⟨by rw [hv]⟩
      clear hv
      go_wp2_with fail
      exact ⟨⟨t + 1, by go_num, by omega, ⟨HB.out.setCell (by exact HQN.out) _⟩, ⟨HA1.out.far _ _ hIQ⟩, ⟨(HA2.out.set hlt _).congr fun k hk => by
        by_cases e : k = t
        · subst e; rw [if_pos (by omega), if_pos rfl, HD.out]
        · rw [if_neg e]
          by_cases e2 : k < t
          · rw [if_pos (by omega), if_pos e2]
          · rw [if_neg (by omega), if_neg e2]⟩⟩, by simp [intOf]; omega⟩
    · have htn : t = n := by omega
      subst htn
      go_wp2_with fail
      go_ret
      exact ⟨Q, rfl, by have := HQN.out; omega, HA2.out.congr fun k hk => by rw [if_pos hk], HTR.out _ HB.out⟩
def Asks13 (w : World) (v : Value) : Prop := ∃ (W H : Int) (a : Option Addr) (n c : Nat) (xs : List Int) (la : Option Addr) (ln lc : Nat) (bs : List Bd) (x sz : Int) (ta : Option Addr) (tn tc : Nat) (ts : List Int),
  v = .agg #[.int .i64 W, .int .i64 H, .slice a n c, .slice la ln lc, .int .i64 x, .int .i64 sz, .slice ta tn tc] ∧ n ≤ 9223372036854775807 ∧ ln ≤ 9223372036854775807 ∧ tn ≤ 9223372036854775807 ∧ ln ≤ lc ∧ I64' W ∧ I64' H ∧ I64' x ∧ I64' sz ∧
  By w w.heap.size a n xs ∧ Bq w w.heap.size la ln bs ∧ Nq w w.heap.size ta tn ts
set_option maxRecDepth 100000 in
theorem asks13_of {H : Type} {enc : TypeId × Value → H} {w : World} {base : Nat} {spare : Nat → Bool} {held : Bool} {fuel : Nat} {x : DataW H × List MemPlace} {cs : Array Value} (hcs : cs.size = Tryd.prog.cellsOf 74)
    (hf : DataW.trod enc Tryd.prog w base spare held fuel 74 cs.toList = some x) : Asks13 w (.agg cs) := by
  have hC : Tryd.prog.cellsOf 74 = 7 := by kernel_rfl
  have h1 : Tryd.prog.cellsOf 24 = 3 := by kernel_rfl
  have h2 : Tryd.prog.cellsOf 25 = 1 := by kernel_rfl
  have h4 : Tryd.prog.cellsOf 46 = 1 := by kernel_rfl
  have h5 : Tryd.prog.cellsOf 3 = 1 := by kernel_rfl
  rw [hC] at hcs
  obtain ⟨l⟩ := cs
  match l, hcs with
  | [c0, c1, c2, c3, c4, c5, c6], _ =>
    obtain ⟨ys, n', _, _, _, hyl, hg⟩ := DataW.trod_struct Tryd.underlying74 hf
    match ys, hyl with
    | [y0, y1, y2, y3, y4], _ =>
      have g0 := hg 0 _ rfl
      have g1 := hg 1 _ rfl
      have g2 := hg 2 _ rfl
      have g3 := hg 3 _ rfl
      have g4 := hg 4 _ rfl
      simp [h1, h2, h4, h5] at g0 g1 g2 g3 g4
      obtain ⟨W, H, a, n, c, xs, rfl, rfl, rfl, hW, hH, hn, hby⟩ := op_ground g0
      obtain ⟨la, ln, lc, bs, rfl, hlc, hlcc, hbq, hi⟩ := op_bds g1
      obtain ⟨cl, rfl, hcl⟩ := op_int g2
      obtain ⟨sz, rfl, hsz⟩ := op_int g3
      obtain ⟨ta, tn, tc, ts, rfl, htn, hnq⟩ := nq_of g4
      exact ⟨W, H, a, n, c, xs, la, ln, lc, bs, cl, sz, ta, tn, tc, ts, rfl, hn, by omega, htn, hlc, hW, hH, hcl, hsz, hby, hbq, hnq⟩
end Go.Proofs.YtjjodfdmbiebnaaDoor
