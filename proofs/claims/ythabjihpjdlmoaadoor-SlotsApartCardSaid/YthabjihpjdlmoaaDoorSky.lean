import Derived.Test.YthabjihpjdlmoaaDoorSkx
import Derived.Test.YthabjihpjdlmoaaDoorSkb
import Derived.Test.YthabjihpjdlmoaaDoorSks
import Derived.Deep.QuietTactic
import Derived.BigQuiet
import Derived.Deep.RegionWith
import Derived.Deep.RegionHeld3
import Derived.Deep.DeepCutAuto
import Derived.Deep.DeepFit
import Derived.Outline
import Derived.Test.YthabjihpjdlmoaaDoorSkw
import Derived.Test.YthabjihpjdlmoaaDoorSkc
import Derived.Test.YthabjihpjdlmoaaDoorSkh
import Derived.Test.YthabjihpjdlmoaaDoorSkf
/- Arguments that hold slices of numbers, of ways, grounds: what is known of them. -/
namespace Go.Proofs.YthabjihpjdlmoaaDoor
open Go.ChangeShapes Go.WideShapes Go.ChangeAt Go.RowKit Go.Deep
set_option linter.unusedVariables false
theorem vground_of {H : Type} {enc : TypeId × Value → H} {w : World} {base : Nat} {spare : Nat → Bool} {held : Bool} {fuel : Nat} {x : DataW H × List MemPlace} {c0 c1 c2 : Value}
    (hf : DataW.trod enc Tryd.prog w base spare held fuel 24 [c0, c1, c2] = some x) : ∃ (W H : Int) (a : Option Addr) (n c : Nat) (xs : List Int), c0 = .int .i64 W ∧ c1 = .int .i64 H ∧ c2 = .slice a n c ∧ n ≤ 9223372036854775807 ∧ By w w.heap.size a n xs := by
  have h2 : Tryd.prog.cellsOf 3 = 1 := by kernel_rfl
  have h3 : Tryd.prog.cellsOf 22 = 1 := by kernel_rfl
  obtain ⟨ys, n', _, _, _, hyl, hg⟩ := DataW.trod_struct Tryd.underlying24 hf
  match ys, hyl with
  | [y0, y1, y2], _ =>
    have g0 := hg 0 _ rfl
    have g1 := hg 1 _ rfl
    have g2 := hg 2 _ rfl
    simp [h2, h3] at g0 g1 g2
    obtain ⟨x0, e0, _, w0⟩ := DataW.trod_int Tryd.underlying3 g0
    obtain ⟨x1, e1, _, w1⟩ := DataW.trod_int Tryd.underlying3 g1
    obtain ⟨a, n, c, xs, rfl, hn, hc, hby⟩ := by_of g2
    simp at e0 e1
    exact ⟨x0, x1, a, n, c, xs, e0, e1, rfl, by omega, hby⟩
end Go.Proofs.YthabjihpjdlmoaaDoor
/- The argument of the statements of layer 17. -/
namespace Go.Proofs.YthabjihpjdlmoaaDoor
open Go.ChangeShapes Go.WideShapes Go.ChangeAt Go.RowKit Go.Deep
set_option linter.unusedVariables false
/-- The slice reads as these numbers of 64 bits. -/
structure N64 (w : World) (B : Nat) (a : Option Addr) (n : Nat) (f : Nat → Int) : Prop where
  num : ∀ k, k < n → Fx.I64 (f k)
  rd : 0 < n → ∃ b off, a = some ⟨b, off, none⟩ ∧ b < B ∧ ∀ k, k < n → w.cell? ⟨b, off + k, none⟩ = some (.int .i64 (f k))
theorem N64.below {w w' : World} {B B' n : Nat} {a : Option Addr} {f : Nat → Int} (h : N64 w B a n f) (hb : Below B' w w') (hB : B ≤ B') : N64 w' B a n f := ⟨h.num, fun hn => by
  obtain ⟨b, off, e, hlt, hc⟩ := h.rd hn
  exact ⟨b, off, e, hlt, fun k hk => (hb.cell (p := ⟨b, off + k, none⟩) (Nat.lt_of_lt_of_le hlt hB)).trans (hc k hk)⟩⟩
theorem slice_of {H : Type} {enc : TypeId × Value → H} {w : World} {base : Nat} {spare : Nat → Bool} {held : Bool} {fuel : Nat} {x : DataW H × List MemPlace} {v : Value}
    (hf : DataW.trod enc Tryd.prog w base spare held fuel 25 [v] = some x) : ∃ a n c, v = .slice a n c ∧ n ≤ 9223372036854775807 := by
  rcases open_slice Tryd.underlying25 hf with ⟨hcs, _⟩ | ⟨a', l, c, m, n, D, Pl, hcs, _, hl, hm, hmm, _, hi⟩
  · simp at hcs; exact ⟨none, 0, 0, hcs, by omega⟩
  · simp at hcs; exact ⟨_, _, _, hcs, by unfold maxLen at hm; omega⟩
def Asks17 (w : World) (v : Value) : Prop := ∃ (W H : Int) (a : Option Addr) (n c : Nat) (xs : List Int) (la : Option Addr) (ln lc : Nat) (cl : Int) (ta : Option Addr) (tn tc : Nat) (ts : List Int) (pa : Option Addr) (pn pc : Nat) (f g : Nat → Int) (ra : Option Addr) (rn rc : Nat) (q : Nat → Int),
  v = .agg #[.int .i64 W, .int .i64 H, .slice a n c, .slice la ln lc, .int .i64 cl, .slice ta tn tc, .slice pa pn pc, .slice ra rn rc] ∧ n ≤ 9223372036854775807 ∧ ln ≤ 9223372036854775807 ∧ tn ≤ 9223372036854775807 ∧ pn ≤ 9223372036854775807 ∧ rn ≤ 9223372036854775807 ∧
  By w w.heap.size a n xs ∧ Nq w w.heap.size ta tn ts ∧ Vs w w.heap.size pa pn f g ∧ N64 w w.heap.size ra rn q
def hv17 (n ln tn pn rn : Nat) : Bool := decide (700 < n ∨ 30 < ln ∨ 30 < tn ∨ 20 < pn ∨ 20 < rn)
def gr17 (n ln : Nat) : Bool := decide (700 < n ∨ 30 < ln)
theorem great17_any (W H : Int) (a la : Option Addr) (n c ln lc : Nat) (w : World) (hn : n ≤ 9223372036854775807) (hln : ln ≤ 9223372036854775807) : Calls Tryd.prog 52 #[.agg #[.int .i64 W, .int .i64 H, .slice a n c], .slice la ln lc] w fun e w' => e = .returned (.bool (gr17 n ln)) ∧ Below w.heap.size w w' := by
  by_cases q0 : 700 < n
  · have b0 : decide ((700 : Int) < n) = true := by simp; omega
    have R : Hk (gr17 n ln = true) := ⟨by unfold gr17; simp; omega⟩
    go_enter Tryd.func52, Tryd.ntmps52
    go_wp2
    go_ret
    exact ⟨rbo R.out.symm, (Below.refl _ _).alloc (Nat.le_refl _) _⟩
  have b0 : decide ((700 : Int) < n) = false := by simp; omega
  by_cases q1 : 30 < ln
  · have b1 : decide ((30 : Int) < ln) = true := by simp; omega
    have R : Hk (gr17 n ln = true) := ⟨by unfold gr17; simp; omega⟩
    go_enter Tryd.func52, Tryd.ntmps52
    go_wp2
    go_ret
    exact ⟨rbo R.out.symm, (Below.refl _ _).alloc (Nat.le_refl _) _⟩
  have b1 : decide ((30 : Int) < ln) = false := by simp; omega
  have R : Hk (gr17 n ln = false) := ⟨by unfold gr17; simp; omega⟩
  go_enter Tryd.func52, Tryd.ntmps52
  go_wp2
  go_ret
  exact ⟨rbo R.out.symm, (Below.refl _ _).alloc (Nat.le_refl _) _⟩
theorem great17_as (r : Bool) (W H : Int) (a la : Option Addr) (n c ln lc : Nat) (w : World) (hn : n ≤ 9223372036854775807) (hln : ln ≤ 9223372036854775807) (E : Hk (gr17 n ln = r)) : Calls Tryd.prog 52 #[.agg #[.int .i64 W, .int .i64 H, .slice a n c], .slice la ln lc] w fun e w' => e = .returned (.bool r) ∧ Below w.heap.size w w' := by
  obtain ⟨rfl⟩ := E; exact great17_any W H a la n c ln lc w hn hln
end Go.Proofs.YthabjihpjdlmoaaDoor
/- Layer 17: the opener, buildings among it. -/
namespace Go.Proofs.YthabjihpjdlmoaaDoor
open Go.ChangeShapes Go.WideShapes Go.ChangeAt Go.RowKit Go.Deep
set_option linter.unusedVariables false
def Asks17b (w : World) (v : Value) : Prop := ∃ (W H : Int) (a : Option Addr) (n c : Nat) (xs : List Int) (la : Option Addr) (ln lc : Nat) (bs : List Bd) (x : Int) (ta : Option Addr) (tn tc : Nat) (ts : List Int) (pa : Option Addr) (pn pc : Nat) (f g : Nat → Int) (ra : Option Addr) (rn rc : Nat) (q : Nat → Int),
  v = .agg #[.int .i64 W, .int .i64 H, .slice a n c, .slice la ln lc, .int .i64 x, .slice ta tn tc, .slice pa pn pc, .slice ra rn rc] ∧ n ≤ 9223372036854775807 ∧ ln ≤ 9223372036854775807 ∧ tn ≤ 9223372036854775807 ∧ pn ≤ 9223372036854775807 ∧ rn ≤ 9223372036854775807 ∧
  By w w.heap.size a n xs ∧ Bq w w.heap.size la ln bs ∧ Nq w w.heap.size ta tn ts ∧ Vs w w.heap.size pa pn f g ∧ N64 w w.heap.size ra rn q
end Go.Proofs.YthabjihpjdlmoaaDoor
/- Layer 13: what its statements and those behind it share. -/
namespace Go.Proofs.YthabjihpjdlmoaaDoor
open Go.ChangeShapes Go.WideShapes Go.ChangeAt Go.RowKit Go.Deep
set_option linter.unusedVariables false
set_option linter.unusedSimpArgs false
theorem rnum13_as (r : Bool) (i j : Int) (w : World) (E : Hk (decide (0 ≤ i ∧ i ≤ j) = r)) : Calls Tryd.prog 44 #[.int .i64 i, .int .i64 j] w fun e w' => e = .returned (.bool r) ∧ w = w' := by
  by_cases c1 : 0 ≤ i
  · have d1 : decide (0 ≤ i) = true := by simpa using c1
    have d2 : decide (i ≤ j) = r := by rw [← E.out]; simp [c1]
    go_enter Tryd.func44, Tryd.ntmps44
    go_wp2_with fail
    go_ret
    exact ⟨by go_num, rfl⟩
  · have d1 : decide (0 ≤ i) = false := by simpa using c1
    have d2 : r = false := by rw [← E.out]; simp [c1]
    subst d2
    go_enter Tryd.func44, Tryd.ntmps44
    go_wp2_with fail
    go_ret
    exact ⟨rfl, rfl⟩
set_option maxRecDepth 100000 in
theorem rmay13_as (r : Bool) (W H : Int) (a : Option Addr) (n c : Nat) (xs : List Int) (la : Option Addr) (ln lc : Nat) (bs : List Bd) (x sz : Int) (w : World) (h : By w w.heap.size a n xs) (hb0 : Bq w w.heap.size la ln bs) (hn : n ≤ 140737488355328) (hln : ln ≤ 1099511627776) (E : Hk (r = true ↔ (MOk W H n xs bs ∧ (0 ≤ x ∧ x ≤ 2) ∧ 0 ≤ sz ∧ sz ≤ 3))) :
    Calls Tryd.prog 37 #[.agg #[.int .i64 W, .int .i64 H, .slice a n c], .slice la ln lc, .int .i64 x, .int .i64 sz] w fun e w' => e = .returned (.bool r) ∧ Below w.heap.size w w' := by
  have HWB : Hk (Below w.heap.size w (w.alloc (.cells #[.int .i64 W, .int .i64 H, .slice a n c] 24))) := ⟨(Below.refl _ _).alloc (Nat.le_refl _) _⟩
  have hNW : w.heap.size + 1 ≤ ((w.alloc (.cells #[.int .i64 W, .int .i64 H, .slice a n c] 24))).heap.size := by simp
  have HB : Hk (Below (w.heap.size + 1) (w.alloc (.cells #[.int .i64 W, .int .i64 H, .slice a n c] 24)) (w.alloc (.cells #[.int .i64 W, .int .i64 H, .slice a n c] 24))) := ⟨Below.refl _ _⟩
  have HTR : Hk (∀ X, Below (w.heap.size + 1) (w.alloc (.cells #[.int .i64 W, .int .i64 H, .slice a n c] 24)) X → Below w.heap.size w X) := ⟨fun X hX => HWB.out.trans (hX.mono (by omega))⟩
  have HBY := Hk.mk (fun (X : World) (hX : Below (w.heap.size + 1) (w.alloc (.cells #[.int .i64 W, .int .i64 H, .slice a n c] 24)) X) => h.below (HTR.out X hX) (Nat.le_refl _))
  have HBQ := Hk.mk (fun (X : World) (hX : Below (w.heap.size + 1) (w.alloc (.cells #[.int .i64 W, .int .i64 H, .slice a n c] 24)) X) => hb0.below (HTR.out X hX) (Nat.le_refl _))
  clear h hb0
  obtain ⟨hc, hf, hl, hn', hm⟩ := kw_rules HB.out hNW
  by_cases hM : MOk W H n xs bs
  · have HM := Hk.mk hM
    clear hM
    by_cases hx : 0 ≤ x ∧ x ≤ 2
    · have HX := Hk.mk hx
      clear hx
      have E3 : Hk (decide (0 ≤ sz ∧ sz ≤ 3) = r) := ⟨by
        have := E.out
        by_cases hs : 0 ≤ sz ∧ sz ≤ 3
        · rw [this.2 ⟨HM.out, HX.out, hs⟩]; exact decide_eq_true hs
        · cases r
          · exact decide_eq_false hs
          · exact absurd (this.1 rfl).2.2 hs⟩
      go_enter Tryd.func37, Tryd.ntmps37
      go_wp2_with (first | (go_at_call 64; (with_reducible refine (may_as true W H a n c xs la ln lc bs _ ?_ ?_ hn hln ⟨⟨fun _ => HM.out, fun _ => rfl⟩⟩).mono ?_); (exact (HBY.out _ HB.out).mono (hsz1 HB.out)); (exact (HBQ.out _ HB.out).mono (hsz1 HB.out)); rintro e z ⟨rfl, hb⟩; replace HB := Hk.mk (kw_step HB.out hNW hb); clear hb; clear hc hf hl hn' hm; obtain ⟨hc, hf, hl, hn', hm⟩ := kw_rules HB.out hNW) | (go_at_call 65; (with_reducible refine (classC_as true x _ ⟨decide_eq_true HX.out⟩).mono ?_); rintro e z ⟨rfl, rfl⟩) | (go_at_call 44; (with_reducible refine (rnum13_as r sz 3 _ E3).mono ?_); rintro e z ⟨rfl, rfl⟩))
      go_ret
      exact ⟨rfl, HTR.out _ HB.out⟩
    · have HX := Hk.mk hx
      clear hx
      obtain rfl : r = false := by
        cases r
        · rfl
        · exact absurd (E.out.1 rfl).2.1 HX.out
      go_enter Tryd.func37, Tryd.ntmps37
      go_wp2_with (first | (go_at_call 64; (with_reducible refine (may_as true W H a n c xs la ln lc bs _ ?_ ?_ hn hln ⟨⟨fun _ => HM.out, fun _ => rfl⟩⟩).mono ?_); (exact (HBY.out _ HB.out).mono (hsz1 HB.out)); (exact (HBQ.out _ HB.out).mono (hsz1 HB.out)); rintro e z ⟨rfl, hb⟩; replace HB := Hk.mk (kw_step HB.out hNW hb); clear hb; clear hc hf hl hn' hm; obtain ⟨hc, hf, hl, hn', hm⟩ := kw_rules HB.out hNW) | (go_at_call 65; (with_reducible refine (classC_as false x _ ⟨decide_eq_false HX.out⟩).mono ?_); rintro e z ⟨rfl, rfl⟩))
      go_ret
      exact ⟨rfl, HTR.out _ HB.out⟩
  · have HM := Hk.mk hM
    clear hM
    obtain rfl : r = false := by
      cases r
      · rfl
      · exact absurd (E.out.1 rfl).1 HM.out
    go_enter Tryd.func37, Tryd.ntmps37
    go_wp2_with (go_at_call 64; (with_reducible refine (may_as false W H a n c xs la ln lc bs _ ?_ ?_ hn hln ⟨⟨fun h => (by cases h), fun h => absurd h HM.out⟩⟩).mono ?_); (exact (HBY.out _ HB.out).mono (hsz1 HB.out)); (exact (HBQ.out _ HB.out).mono (hsz1 HB.out)); rintro e z ⟨rfl, hb⟩; replace HB := Hk.mk (kw_step HB.out hNW hb); clear hb; clear hc hf hl hn' hm; obtain ⟨hc, hf, hl, hn', hm⟩ := kw_rules HB.out hNW)
    go_ret
    exact ⟨rfl, HTR.out _ HB.out⟩
def hv13 (n ln tn : Nat) : Bool := gtP n ln || decide (30 < tn)
theorem heavy13_as (r : Bool) (W H x sz : Int) (a la ta : Option Addr) (n c ln lc tn tc : Nat) (w : World) (hn : n ≤ 9223372036854775807) (hln : ln ≤ 9223372036854775807) (htn : tn ≤ 9223372036854775807) (E : Hk (hv13 n ln tn = r)) :
    Calls Tryd.prog 17 #[.agg #[.int .i64 W, .int .i64 H, .slice a n c, .slice la ln lc, .int .i64 x, .int .i64 sz, .slice ta tn tc]] w fun e w' => e = .returned (.bool r) ∧ Below w.heap.size w w' := by
  have HWB : Hk (Below w.heap.size w (w.alloc (.cells #[.int .i64 W, .int .i64 H, .slice a n c, .slice la ln lc, .int .i64 x, .int .i64 sz, .slice ta tn tc] 28))) := ⟨(Below.refl _ _).alloc (Nat.le_refl _) _⟩
  have hNW : w.heap.size + 1 ≤ ((w.alloc (.cells #[.int .i64 W, .int .i64 H, .slice a n c, .slice la ln lc, .int .i64 x, .int .i64 sz, .slice ta tn tc] 28))).heap.size := by simp
  have HB : Hk (Below (w.heap.size + 1) (w.alloc (.cells #[.int .i64 W, .int .i64 H, .slice a n c, .slice la ln lc, .int .i64 x, .int .i64 sz, .slice ta tn tc] 28)) (w.alloc (.cells #[.int .i64 W, .int .i64 H, .slice a n c, .slice la ln lc, .int .i64 x, .int .i64 sz, .slice ta tn tc] 28))) := ⟨Below.refl _ _⟩
  have HTR : Hk (∀ X, Below (w.heap.size + 1) (w.alloc (.cells #[.int .i64 W, .int .i64 H, .slice a n c, .slice la ln lc, .int .i64 x, .int .i64 sz, .slice ta tn tc] 28)) X → Below w.heap.size w X) := ⟨fun X hX => HWB.out.trans (hX.mono (by omega))⟩
  obtain ⟨hc, hf, hl, hn', hm⟩ := kw_rules HB.out hNW
  cases hg : gtP n ln
  · have HG := Hk.mk hg
    have d : decide ((30 : Int) < (tn : Int)) = r := by rw [← E.out]; unfold hv13; rw [hg]; simp; omega
    clear hg
    go_enter Tryd.func17, Tryd.ntmps17
    go_wp2_with (go_at_call 52; (with_reducible refine (great_as false W H a n c la ln lc _ hn hln HG).mono ?_); rintro e z ⟨rfl, hb⟩; replace HB := Hk.mk (kw_step HB.out hNW hb); clear hb; clear hc hf hl hn' hm; obtain ⟨hc, hf, hl, hn', hm⟩ := kw_rules HB.out hNW)
    go_ret
    exact ⟨by go_num, HTR.out _ HB.out⟩
  · have HG := Hk.mk hg
    obtain rfl : r = true := by rw [← E.out]; unfold hv13; rw [hg]; rfl
    clear hg
    go_enter Tryd.func17, Tryd.ntmps17
    go_wp2_with (go_at_call 52; (with_reducible refine (great_as true W H a n c la ln lc _ hn hln HG).mono ?_); rintro e z ⟨rfl, hb⟩; replace HB := Hk.mk (kw_step HB.out hNW hb); clear hb; clear hc hf hl hn' hm; obtain ⟨hc, hf, hl, hn', hm⟩ := kw_rules HB.out hNW)
    go_ret
    exact ⟨rfl, HTR.out _ HB.out⟩
set_option maxRecDepth 100000 in
theorem rgood_any (W H : Int) (a : Option Addr) (n c : Nat) (xs : List Int) (la : Option Addr) (ln lc : Nat) (bs : List Bd) (cl s : Nat) (w : World) (h : By w w.heap.size a n xs) (hb0 : Bq w w.heap.size la ln bs) (hn : n ≤ 140737488355328) (hc3 : cl < 3) (hs : s ≤ 3) (MM : Hk (MOk W H n xs bs)) :
    Calls Tryd.prog 19 #[.agg #[.int .i64 W, .int .i64 H, .slice a n c], .slice la ln lc, .int .i64 cl, .int .i64 s] w fun e w' => ∃ g, e = .returned (.slice (some ⟨g, 0, none⟩) n n) ∧ w.heap.size ≤ g ∧ Arr w' g n 4 (fun k => .bool (decide (s < sC W H (opn W xs bs cl) k))) ∧ Below w.heap.size w w' := by
  have info_b : (Tryd.prog.info? 4).map (fun i => (i.zero, i.size, i.bytes)) = some (some (.bool false), 1, 1) := by kernel_rfl
  obtain ⟨i0, hi, hz0, hz1, hz2⟩ := info_parts info_b
  clear info_b
  have HWB : Hk (Below w.heap.size w (w.alloc (.cells #[.int .i64 W, .int .i64 H, .slice a n c] 24))) := ⟨(Below.refl _ _).alloc (Nat.le_refl _) _⟩
  have hNW : w.heap.size + 1 ≤ ((w.alloc (.cells #[.int .i64 W, .int .i64 H, .slice a n c] 24))).heap.size := by simp
  have HB : Hk (Below (w.heap.size + 1) (w.alloc (.cells #[.int .i64 W, .int .i64 H, .slice a n c] 24)) (w.alloc (.cells #[.int .i64 W, .int .i64 H, .slice a n c] 24))) := ⟨Below.refl _ _⟩
  have HTR : Hk (∀ X, Below (w.heap.size + 1) (w.alloc (.cells #[.int .i64 W, .int .i64 H, .slice a n c] 24)) X → Below w.heap.size w X) := ⟨fun X hX => HWB.out.trans (hX.mono (by omega))⟩
  have HBY := Hk.mk (fun (X : World) (hX : Below (w.heap.size + 1) (w.alloc (.cells #[.int .i64 W, .int .i64 H, .slice a n c] 24)) X) => h.below (HTR.out X hX) (Nat.le_refl _))
  have HBQ := Hk.mk (fun (X : World) (hX : Below (w.heap.size + 1) (w.alloc (.cells #[.int .i64 W, .int .i64 H, .slice a n c] 24)) X) => hb0.below (HTR.out X hX) (Nat.le_refl _))
  clear h hb0
  obtain ⟨hc, hf, hl, hn', hm⟩ := kw_rules HB.out hNW
  go_enter Tryd.func19, Tryd.ntmps19
  go_wp2_with (first
    | (go_at_call 53; (with_reducible refine (rgrid_any W H a n c xs la ln lc bs _ ?_ ?_ cl hc3 MM).mono ?_); (exact (HBY.out _ HB.out).mono (hsz1 HB.out)); (exact (HBQ.out _ HB.out).mono (hsz1 HB.out)); rintro e z ⟨I, rfl, hg1, hA1, hb⟩; have HA1 := Hk.mk hA1; clear hA1 hg1; replace HB := Hk.mk (kw_step HB.out hNW hb); clear hb; clear hc hf hl hn' hm; obtain ⟨hc, hf, hl, hn', hm⟩ := kw_rules HB.out hNW)
    | (at_make; go_must (refine wpList_make_full _ rfl _ _ 31 rfl (w.heap.size + 1) 4 i0 (.bool false) 1 Tryd.underlying31 hi hz0 hz1 .i64 .i64 _ _ n rfl rfl rfl rfl (by rw [hz2]; omega) (by unfold maxLen; omega) (kw_size HB.out hNW) ?_); intro z1 hown hgrow; have HA2 := Hk.mk (Arr.made hown rfl (z := .bool false)); have hb := below_grown hgrow; have HIZ := Hk.mk HA1.out.lt; have HQZ : Hk (w.heap.size + 1 ≤ _) := ⟨kw_size HB.out hNW⟩; replace HA1 := Hk.mk (HA1.out.below hb HA1.out.lt); replace HB := Hk.mk (kw_step HB.out hNW hb); clear hb; clear hc hf hl hn' hm; obtain ⟨hc, hf, hl, hn', hm⟩ := kw_rules HB.out hNW))
  have HA1 := HA1; have HA2 := HA2
  have hIQ : ¬ I = z.heap.size := by have := HIZ.out; omega
  have HQN : Hk (w.heap.size + 1 ≤ z.heap.size) := HQZ
  clear HIZ HQZ
  clear hc hf hl hn' hm
  generalize z.heap.size = Q at *
  go_loopw [11] (fun s' wr => ∃ t : Nat, s' = .int .i64 t ∧ t ≤ n ∧ Hk (Below (w.heap.size + 1) (w.alloc (.cells #[.int .i64 W, .int .i64 H, .slice a n c] 24)) wr) ∧ Hk (Arr wr I n 3 (fun k => .int .i64 (sC W H (opn W xs bs cl) k))) ∧ Hk (Arr wr Q n 4 (fun k => .bool (if k < t then decide (s < sC W H (opn W xs bs cl) k) else false)))) (fun s' _ => n - (intOf s').toNat)
  case atStart => exact ⟨0, rfl, by omega, HB, HA1, ⟨HA2.out.congr fun k hk => by rw [if_neg (by omega)]⟩⟩
  case round =>
    clear HB HA1 HA2
    obtain ⟨t, rfl, ht, HB, HA1, HA2⟩ := hrel
    obtain ⟨hc, hf, hl, hn', hm⟩ := kw_rules HB.out hNW
    by_cases hlt : t < n
    · have t0 : (0 : Int) ≤ (t : Int) := by omega
      have t1 : (t : Int) < (n : Int) := by omega
      have c1 := HA1.out.cell hlt
      have c2 := HA2.out.cell hlt
      have c3 := HA2.out.frozen t
      rw [if_neg (by omega)] at c2
      obtain ⟨v, hv⟩ : ∃ v, sC W H (opn W xs bs cl) t = v := ⟨_, rfl⟩
      rw [hv] at c1
      have HD : Hk (decide (s < sC W H (opn W xs bs cl) t) = decide (s < v)) := ⟨by rw [hv]⟩
      clear hv
      go_wp2_with fail
      exact ⟨⟨t + 1, by go_num, by omega, ⟨HB.out.setCell (by exact HQN.out) _⟩, ⟨HA1.out.far _ _ hIQ⟩, ⟨(HA2.out.set hlt _).congr fun k hk => by
        by_cases e : k = t
        · subst e; rw [if_pos (by omega), if_pos rfl, HD.out]
        · rw [if_neg e]
          by_cases e2 : k < t
          · rw [if_pos (by omega), if_pos e2]
          · rw [if_neg (by omega), if_neg e2]⟩⟩, by simp [intOf]; omega⟩
    · have htn : t = n := by omega
      subst htn
      go_wp2_with fail
      go_ret
      exact ⟨Q, rfl, by have := HQN.out; omega, HA2.out.congr fun k hk => by rw [if_pos hk], HTR.out _ HB.out⟩
def Asks13 (w : World) (v : Value) : Prop := ∃ (W H : Int) (a : Option Addr) (n c : Nat) (xs : List Int) (la : Option Addr) (ln lc : Nat) (bs : List Bd) (x sz : Int) (ta : Option Addr) (tn tc : Nat) (ts : List Int),
  v = .agg #[.int .i64 W, .int .i64 H, .slice a n c, .slice la ln lc, .int .i64 x, .int .i64 sz, .slice ta tn tc] ∧ n ≤ 9223372036854775807 ∧ ln ≤ 9223372036854775807 ∧ tn ≤ 9223372036854775807 ∧ ln ≤ lc ∧ I64' W ∧ I64' H ∧ I64' x ∧ I64' sz ∧
  By w w.heap.size a n xs ∧ Bq w w.heap.size la ln bs ∧ Nq w w.heap.size ta tn ts
set_option maxRecDepth 100000 in
theorem asks13_of {H : Type} {enc : TypeId × Value → H} {w : World} {base : Nat} {spare : Nat → Bool} {held : Bool} {fuel : Nat} {x : DataW H × List MemPlace} {cs : Array Value} (hcs : cs.size = Tryd.prog.cellsOf 28)
    (hf : DataW.trod enc Tryd.prog w base spare held fuel 28 cs.toList = some x) : Asks13 w (.agg cs) := by
  have hC : Tryd.prog.cellsOf 28 = 7 := by kernel_rfl
  have h1 : Tryd.prog.cellsOf 24 = 3 := by kernel_rfl
  have h2 : Tryd.prog.cellsOf 26 = 1 := by kernel_rfl
  have h4 : Tryd.prog.cellsOf 25 = 1 := by kernel_rfl
  have h5 : Tryd.prog.cellsOf 3 = 1 := by kernel_rfl
  rw [hC] at hcs
  obtain ⟨l⟩ := cs
  match l, hcs with
  | [c0, c1, c2, c3, c4, c5, c6], _ =>
    obtain ⟨ys, n', _, _, _, hyl, hg⟩ := DataW.trod_struct Tryd.underlying28 hf
    match ys, hyl with
    | [y0, y1, y2, y3, y4], _ =>
      have g0 := hg 0 _ rfl
      have g1 := hg 1 _ rfl
      have g2 := hg 2 _ rfl
      have g3 := hg 3 _ rfl
      have g4 := hg 4 _ rfl
      simp [h1, h2, h4, h5] at g0 g1 g2 g3 g4
      obtain ⟨W, H, a, n, c, xs, rfl, rfl, rfl, hW, hH, hn, hby⟩ := op_ground g0
      obtain ⟨la, ln, lc, bs, rfl, hlc, hlcc, hbq, hi⟩ := op_bds g1
      obtain ⟨cl, rfl, hcl⟩ := op_int g2
      obtain ⟨sz, rfl, hsz⟩ := op_int g3
      obtain ⟨ta, tn, tc, ts, rfl, htn, hnq⟩ := nq_of g4
      exact ⟨W, H, a, n, c, xs, la, ln, lc, bs, cl, sz, ta, tn, tc, ts, rfl, hn, by omega, htn, hlc, hW, hH, hcl, hsz, hby, hbq, hnq⟩
end Go.Proofs.YthabjihpjdlmoaaDoor
/- Layer 13: the land: what each tile costs. -/
namespace Go.Proofs.YthabjihpjdlmoaaDoor
open Go.ChangeShapes Go.WideShapes Go.ChangeAt Go.RowKit Go.Deep
set_option linter.unusedVariables false
set_option linter.unusedSimpArgs false
/-- What a class pays on each tile. -/
def kcF (cl : Nat) (xs : List Int) (k : Nat) : Int := ctS cl (xs.getD k 0).toNat
set_option maxRecDepth 100000 in
theorem landon_any (W H : Int) (a : Option Addr) (n c : Nat) (xs : List Int) (ga : Option Addr) (gn gc : Nat) (cl : Nat) (w : World) (hL : LC w) (h : By w w.heap.size a n xs) (hn : n ≤ 16384) (hc3 : cl < 3) (GG : Hk (GOk W H n xs)) :
    Calls Tryd.prog 80 #[.agg #[.int .i64 W, .int .i64 H, .slice a n c], .slice ga gn gc, .int .i64 cl] w fun e w' => ∃ g, e = .returned (.agg #[.int .i64 W, .int .i64 H, .slice ga gn gc, .slice (some ⟨g, 0, none⟩) n n]) ∧ w.heap.size ≤ g ∧ Arr w' g n 3 (fun k => .int .i64 (kcF cl xs k)) ∧ Below w.heap.size w w' := by
  obtain ⟨i0, hi, hz0, hz1, hz2⟩ := info_parts info_int
  have HWB : Hk (Below w.heap.size w (w.alloc (.cells #[.int .i64 W, .int .i64 H, .slice a n c] 24))) := ⟨(Below.refl _ _).alloc (Nat.le_refl _) _⟩
  have hNW : w.heap.size + 1 ≤ ((w.alloc (.cells #[.int .i64 W, .int .i64 H, .slice a n c] 24))).heap.size := by simp
  have HB : Hk (Below (w.heap.size + 1) (w.alloc (.cells #[.int .i64 W, .int .i64 H, .slice a n c] 24)) ((w.alloc (.cells #[.int .i64 W, .int .i64 H, .slice a n c] 24)).alloc (.cells #[.int .i64 0, .int .i64 0, .slice none 0 0, .slice none 0 0] 82))) := ⟨(Below.refl _ _).alloc (by simp) _⟩
  have HTR : Hk (∀ X, Below (w.heap.size + 1) (w.alloc (.cells #[.int .i64 W, .int .i64 H, .slice a n c] 24)) X → Below w.heap.size w X) := ⟨fun X hX => HWB.out.trans (hX.mono (by omega))⟩
  have HBY := Hk.mk (fun (X : World) (hX : Below (w.heap.size + 1) (w.alloc (.cells #[.int .i64 W, .int .i64 H, .slice a n c] 24)) X) => h.below (HTR.out X hX) (Nat.le_refl _))
  have HLL := Hk.mk (fun (X : World) (hX : Below (w.heap.size + 1) (w.alloc (.cells #[.int .i64 W, .int .i64 H, .slice a n c] 24)) X) => hL.below (HTR.out X hX) (Nat.le_refl _))
  have HY := Hk.mk h
  have HR : Hk (Bk ((w.alloc (.cells #[.int .i64 W, .int .i64 H, .slice a n c] 24)).alloc (.cells #[.int .i64 0, .int .i64 0, .slice none 0 0, .slice none 0 0] 82)) (w.alloc (.cells #[.int .i64 W, .int .i64 H, .slice a n c] 24)).heap.size #[.int .i64 0, .int .i64 0, .slice none 0 0, .slice none 0 0]) := ⟨Bk.new _ _ _⟩
  clear h hL
  obtain ⟨hc, hf, hl, hn', hm⟩ := kw_rules HB.out hNW
  go_enter Tryd.func80, Tryd.ntmps80
  go_wp2_with (at_make; go_must (refine wpList_make_full _ rfl _ _ 26 rfl (w.heap.size + 1) 3 i0 (.int .i64 0) 1 Tryd.underlying26 hi hz0 hz1 .i64 .i64 _ _ n rfl rfl rfl rfl (by rw [hz2]; omega) (by unfold maxLen; omega) (kw_size HB.out hNW) ?_); intro z1 hown hgrow; have HA2 := Hk.mk (Arr.made hown rfl (z := .int .i64 0)); have hb := below_grown hgrow; have HQZ : Hk (w.heap.size + 2 ≤ ((w.alloc (.cells #[.int .i64 W, .int .i64 H, .slice a n c] 24)).alloc (.cells #[.int .i64 0, .int .i64 0, .slice none 0 0, .slice none 0 0] 82)).heap.size) := ⟨by simp⟩; replace HR := Hk.mk (HR.out.below hb); replace HB := Hk.mk (kw_step HB.out hNW hb); clear hb; clear hc hf hl hn' hm; obtain ⟨hc, hf, hl, hn', hm⟩ := kw_rules HB.out hNW)
  have hWs : (w.alloc (.cells #[.int .i64 W, .int .i64 H, .slice a n c] 24)).heap.size = w.heap.size + 1 := by simp
  rw [hWs] at HR
  clear hWs
  clear HQZ
  have hQ : ((w.alloc (.cells #[.int .i64 W, .int .i64 H, .slice a n c] 24)).alloc (.cells #[.int .i64 0, .int .i64 0, .slice none 0 0, .slice none 0 0] 82)).heap.size = w.heap.size + 2 := by simp
  rw [hQ] at HA2
  clear hQ
  have n1 : w.heap.size + 1 + 1 = w.heap.size + 2 := rfl
  rw [n1]
  clear n1
  clear hc hf hl hn' hm
  obtain ⟨Q, hQ⟩ : ∃ Q, w.heap.size + 2 = Q := ⟨_, rfl⟩
  rw [hQ] at HA2 ⊢
  have HQN : Hk (w.heap.size + 2 ≤ Q) := ⟨by omega⟩
  clear hQ
  go_loopw [17] (fun s' wr => ∃ t : Nat, s' = .int .i64 t ∧ t ≤ n ∧ Hk (Below (w.heap.size + 1) (w.alloc (.cells #[.int .i64 W, .int .i64 H, .slice a n c] 24)) wr) ∧ Hk (Arr wr Q n 3 (fun k => .int .i64 (if k < t then kcF cl xs k else 0))) ∧ Hk (Bk wr (w.heap.size + 1) #[.int .i64 0, .int .i64 0, .slice none 0 0, .slice none 0 0])) (fun s' _ => n - (intOf s').toNat)
  case atStart => exact ⟨0, rfl, by omega, HB, ⟨HA2.out.congr fun k hk => by rw [if_neg (by omega)]⟩, HR⟩
  case round =>
    clear HB HA2 HR
    obtain ⟨t, rfl, ht, HB, HA2, HR⟩ := hrel
    obtain ⟨hc, hf, hl, hn', hm⟩ := kw_rules HB.out hNW
    by_cases hlt : t < n
    · obtain ⟨bb, off, rfl, hbl, hcc⟩ := HY.out.at_ (by omega)
      have hbw : bb < w.heap.size + 1 := by omega
      have p0 := hcc t hlt
      have hx := HY.out.bd hlt
      have hmem := GG.out.ts (xs.getD t 0) (getD_mem (by rw [HY.out.len]; exact hlt))
      obtain ⟨x, hxx⟩ : ∃ x : Nat, xs.getD t 0 = x := ⟨(xs.getD t 0).toNat, by omega⟩
      rw [hxx] at p0 hx hmem
      have HX := Hk.mk hxx
      have t0 : (0 : Int) ≤ (t : Int) := by omega
      have t1 : (t : Int) < (n : Int) := by omega
      have c2 := HA2.out.cell hlt
      have c3 := HA2.out.frozen t
      rw [if_neg (by omega)] at c2
      obtain ⟨r, hr⟩ : ∃ r, ctS cl x = r := ⟨_, rfl⟩
      have HRC := Hk.mk hr
      have HV : Hk (kcF cl xs t = r) := ⟨by unfold kcF; rw [HX.out]; simpa using hr⟩
      clear hcc hxx hr
      go_wp2_with (go_at_call 109; (with_reducible refine (costC_as cl x _ _ r _ (HLL.out _ HB.out) hc3 (by omega) ⟨rfl⟩ ⟨rfl⟩ HRC).mono ?_); rintro e z2 ⟨rfl, rfl⟩)
      exact ⟨⟨t + 1, by go_num, by omega, ⟨HB.out.setCell (by have := HQN.out; show w.heap.size + 1 ≤ Q; omega) _⟩, ⟨(HA2.out.set hlt _).congr fun k hk => by
        by_cases e : k = t
        · subst e; rw [if_pos (by omega), if_pos rfl, HV.out]
        · rw [if_neg e]
          by_cases e2 : k < t
          · rw [if_pos (by omega), if_pos e2]
          · rw [if_neg (by omega), if_neg e2]⟩, ⟨HR.out.oth (by have := HQN.out; omega) _ _⟩⟩, by simp [intOf]; omega⟩
    · have htn : t = n := by omega
      subst htn
      have r0 := HR.out.c 0
      have r1 := HR.out.c 1
      have r2 := HR.out.c 2
      have r3 := HR.out.c 3
      have g0 := HR.out.f 0
      have g1 := HR.out.f 1
      have g2 := HR.out.f 2
      have g3 := HR.out.f 3
      simp at r0 r1 r2 r3
      have HA3 := Hk.mk ((((HA2.out.far ⟨w.heap.size + 1, 0, none⟩ (.int .i64 W) (by have := HQN.out; show Q ≠ w.heap.size + 1; omega)).far ⟨w.heap.size + 1, 1, none⟩ (.int .i64 H) (by have := HQN.out; show Q ≠ w.heap.size + 1; omega)).far ⟨w.heap.size + 1, 2, none⟩ (.slice ga gn gc) (by have := HQN.out; show Q ≠ w.heap.size + 1; omega)).far ⟨w.heap.size + 1, 3, none⟩ (.slice (some ⟨Q, 0, none⟩) t t) (by have := HQN.out; show Q ≠ w.heap.size + 1; omega))
      have HB3 := Hk.mk ((((HB.out.setCell (p := ⟨w.heap.size + 1, 0, none⟩) (Nat.le_refl _) (.int .i64 W)).setCell (p := ⟨w.heap.size + 1, 1, none⟩) (Nat.le_refl _) (.int .i64 H)).setCell (p := ⟨w.heap.size + 1, 2, none⟩) (Nat.le_refl _) (.slice ga gn gc)).setCell (p := ⟨w.heap.size + 1, 3, none⟩) (Nat.le_refl _) (.slice (some ⟨Q, 0, none⟩) t t))
      go_wp2_with fail
      refine bodyPost_ret (v := .agg #[.int .i64 W, .int .i64 H, .slice ga gn gc, .slice (some ⟨Q, 0, none⟩) t t]) (by simp [results, Tryd.results80, go_sem, r0, r1, r2, r3]) rfl ?_
      exact ⟨Q, rfl, by have := HQN.out; omega, HA3.out.congr fun k hk => by rw [if_pos hk], HTR.out _ HB3.out⟩
end Go.Proofs.YthabjihpjdlmoaaDoor
/- Layer 13: the program's Good. -/
namespace Go.Proofs.YthabjihpjdlmoaaDoor
open Go.ChangeShapes Go.WideShapes Go.ChangeAt Go.RowKit Go.Deep
set_option linter.unusedVariables false
set_option linter.unusedSimpArgs false
set_option maxRecDepth 100000 in
theorem good_no (W H : Int) (a : Option Addr) (n c : Nat) (xs : List Int) (la : Option Addr) (ln lc : Nat) (bs : List Bd) (x sz : Int) (w : World) (hL : LC w) (h : By w w.heap.size a n xs) (hb0 : Bq w w.heap.size la ln bs) (hn : n ≤ 140737488355328) (hln : ln ≤ 1099511627776) (MM : Hk (¬ (MOk W H n xs bs ∧ (0 ≤ x ∧ x ≤ 2) ∧ 0 ≤ sz ∧ sz ≤ 3))) :
    Calls Tryd.prog 20 #[.agg #[.int .i64 W, .int .i64 H, .slice a n c], .slice la ln lc, .int .i64 x, .int .i64 sz] w fun e w' => e = .returned (.tuple #[.slice none 0 0, .int .i64 1]) ∧ Below w.heap.size w w' := by
  have HWB : Hk (Below w.heap.size w (w.alloc (.cells #[.int .i64 W, .int .i64 H, .slice a n c] 24))) := ⟨(Below.refl _ _).alloc (Nat.le_refl _) _⟩
  have hNW : w.heap.size + 1 ≤ ((w.alloc (.cells #[.int .i64 W, .int .i64 H, .slice a n c] 24))).heap.size := by simp
  have HB : Hk (Below (w.heap.size + 1) (w.alloc (.cells #[.int .i64 W, .int .i64 H, .slice a n c] 24)) (w.alloc (.cells #[.int .i64 W, .int .i64 H, .slice a n c] 24))) := ⟨Below.refl _ _⟩
  have HTR : Hk (∀ X, Below (w.heap.size + 1) (w.alloc (.cells #[.int .i64 W, .int .i64 H, .slice a n c] 24)) X → Below w.heap.size w X) := ⟨fun X hX => HWB.out.trans (hX.mono (by omega))⟩
  have HBY := Hk.mk (fun (X : World) (hX : Below (w.heap.size + 1) (w.alloc (.cells #[.int .i64 W, .int .i64 H, .slice a n c] 24)) X) => h.below (HTR.out X hX) (Nat.le_refl _))
  have HBQ := Hk.mk (fun (X : World) (hX : Below (w.heap.size + 1) (w.alloc (.cells #[.int .i64 W, .int .i64 H, .slice a n c] 24)) X) => hb0.below (HTR.out X hX) (Nat.le_refl _))
  have HLL := Hk.mk (fun (X : World) (hX : Below (w.heap.size + 1) (w.alloc (.cells #[.int .i64 W, .int .i64 H, .slice a n c] 24)) X) => hL.below (HTR.out X hX) (Nat.le_refl _))
  clear h hb0 hL
  obtain ⟨hc, hf, hl, hn', hm⟩ := kw_rules HB.out hNW
  by_cases hM : MOk W H n xs bs ∧ 0 ≤ x ∧ x ≤ 2
  · obtain ⟨cl, rfl⟩ : ∃ cl : Nat, x = cl := ⟨x.toNat, by omega⟩
    have hc3 : cl < 3 := by omega
    have M1 := Hk.mk hM.1
    have hs : sz < 0 ∨ 3 < sz := by
      have := MM.out
      by_cases c1 : sz < 0
      · exact Or.inl c1
      · by_cases c2 : 3 < sz
        · exact Or.inr c2
        · exact absurd ⟨hM.1, hM.2, by omega, by omega⟩ this
    clear hM MM
    have MM := M1
    by_cases c1 : sz < 0
    · have d1 : decide (sz < 0) = true := by simpa using c1
      clear hs
      go_enter Tryd.func20, Tryd.ntmps20
      go_wp2_with (go_at_call 54; (refine (grid_yes W H a n c xs la ln lc bs _ ?_ ?_ (by omega) (by omega) cl (HLL.out _ HB.out) hc3 MM).mono ?_); (exact (HBY.out _ HB.out).mono (hsz1 HB.out)); (exact (HBQ.out _ HB.out).mono (hsz1 HB.out)); rintro e z ⟨I, rfl, hg1, hA1, hb⟩; have HA1 := Hk.mk hA1; clear hA1 hg1; replace HB := Hk.mk (kw_step HB.out hNW hb); clear hb; clear hc hf hl hn' hm; obtain ⟨hc, hf, hl, hn', hm⟩ := kw_rules HB.out hNW)
      go_ret2
      exact ⟨rfl, HTR.out _ HB.out⟩
    · have d1 : decide (sz < 0) = false := by simpa using c1
      have d2 : decide (3 < sz) = true := by simp; omega
      clear hs
      go_enter Tryd.func20, Tryd.ntmps20
      go_wp2_with (go_at_call 54; (refine (grid_yes W H a n c xs la ln lc bs _ ?_ ?_ (by omega) (by omega) cl (HLL.out _ HB.out) hc3 MM).mono ?_); (exact (HBY.out _ HB.out).mono (hsz1 HB.out)); (exact (HBQ.out _ HB.out).mono (hsz1 HB.out)); rintro e z ⟨I, rfl, hg1, hA1, hb⟩; have HA1 := Hk.mk hA1; clear hA1 hg1; replace HB := Hk.mk (kw_step HB.out hNW hb); clear hb; clear hc hf hl hn' hm; obtain ⟨hc, hf, hl, hn', hm⟩ := kw_rules HB.out hNW)
      go_ret2
      exact ⟨rfl, HTR.out _ HB.out⟩
  · have M1 := Hk.mk hM
    clear hM MM
    go_enter Tryd.func20, Tryd.ntmps20
    go_wp2_with (go_at_call 54; (refine (grid_no W H a n c xs la ln lc bs _ ?_ ?_ (by omega) (by omega) x M1).mono ?_); (exact (HBY.out _ HB.out).mono (hsz1 HB.out)); (exact (HBQ.out _ HB.out).mono (hsz1 HB.out)); rintro e z ⟨rfl, hb⟩; replace HB := Hk.mk (kw_step HB.out hNW hb); clear hb; clear hc hf hl hn' hm; obtain ⟨hc, hf, hl, hn', hm⟩ := kw_rules HB.out hNW)
    go_ret2
    exact ⟨rfl, HTR.out _ HB.out⟩
set_option maxRecDepth 100000 in
theorem good_yes (W H : Int) (a : Option Addr) (n c : Nat) (xs : List Int) (la : Option Addr) (ln lc : Nat) (bs : List Bd) (cl s : Nat) (w : World) (hL : LC w) (h : By w w.heap.size a n xs) (hb0 : Bq w w.heap.size la ln bs) (hn : n ≤ 140737488355328) (hln : ln ≤ 1099511627776) (hc3 : cl < 3) (hs : s ≤ 3) (MM : Hk (MOk W H n xs bs)) :
    Calls Tryd.prog 20 #[.agg #[.int .i64 W, .int .i64 H, .slice a n c], .slice la ln lc, .int .i64 cl, .int .i64 s] w fun e w' => ∃ g, e = .returned (.tuple #[.slice (some ⟨g, 0, none⟩) n n, .int .i64 0]) ∧ w.heap.size ≤ g ∧ Arr w' g n 4 (fun k => .bool (decide (s < sC W H (opn W xs bs cl) k))) ∧ Below w.heap.size w w' := by
  have info_b : (Tryd.prog.info? 4).map (fun i => (i.zero, i.size, i.bytes)) = some (some (.bool false), 1, 1) := by kernel_rfl
  obtain ⟨i0, hi, hz0, hz1, hz2⟩ := info_parts info_b
  clear info_b
  have d1 : decide ((s : Int) < 0) = false := by simp
  have d2 : decide ((3 : Int) < (s : Int)) = false := by simp; omega
  have HWB : Hk (Below w.heap.size w (w.alloc (.cells #[.int .i64 W, .int .i64 H, .slice a n c] 24))) := ⟨(Below.refl _ _).alloc (Nat.le_refl _) _⟩
  have hNW : w.heap.size + 1 ≤ ((w.alloc (.cells #[.int .i64 W, .int .i64 H, .slice a n c] 24))).heap.size := by simp
  have HB : Hk (Below (w.heap.size + 1) (w.alloc (.cells #[.int .i64 W, .int .i64 H, .slice a n c] 24)) (w.alloc (.cells #[.int .i64 W, .int .i64 H, .slice a n c] 24))) := ⟨Below.refl _ _⟩
  have HTR : Hk (∀ X, Below (w.heap.size + 1) (w.alloc (.cells #[.int .i64 W, .int .i64 H, .slice a n c] 24)) X → Below w.heap.size w X) := ⟨fun X hX => HWB.out.trans (hX.mono (by omega))⟩
  have HBY := Hk.mk (fun (X : World) (hX : Below (w.heap.size + 1) (w.alloc (.cells #[.int .i64 W, .int .i64 H, .slice a n c] 24)) X) => h.below (HTR.out X hX) (Nat.le_refl _))
  have HBQ := Hk.mk (fun (X : World) (hX : Below (w.heap.size + 1) (w.alloc (.cells #[.int .i64 W, .int .i64 H, .slice a n c] 24)) X) => hb0.below (HTR.out X hX) (Nat.le_refl _))
  have HLL := Hk.mk (fun (X : World) (hX : Below (w.heap.size + 1) (w.alloc (.cells #[.int .i64 W, .int .i64 H, .slice a n c] 24)) X) => hL.below (HTR.out X hX) (Nat.le_refl _))
  clear h hb0 hL
  obtain ⟨hc, hf, hl, hn', hm⟩ := kw_rules HB.out hNW
  go_enter Tryd.func20, Tryd.ntmps20
  go_wp2_with (first
    | (go_at_call 54; (refine (grid_yes W H a n c xs la ln lc bs _ ?_ ?_ (by omega) (by omega) cl (HLL.out _ HB.out) hc3 MM).mono ?_); (exact (HBY.out _ HB.out).mono (hsz1 HB.out)); (exact (HBQ.out _ HB.out).mono (hsz1 HB.out)); rintro e z ⟨I, rfl, hg1, hA1, hb⟩; have HA1 := Hk.mk hA1; clear hA1 hg1; replace HB := Hk.mk (kw_step HB.out hNW hb); clear hb; clear hc hf hl hn' hm; obtain ⟨hc, hf, hl, hn', hm⟩ := kw_rules HB.out hNW)
    | (at_make; go_must (refine wpList_make_full _ rfl _ _ 31 rfl (w.heap.size + 1) 4 i0 (.bool false) 1 Tryd.underlying31 hi hz0 hz1 .i64 .i64 _ _ n rfl rfl rfl rfl (by rw [hz2]; omega) (by unfold maxLen; omega) (kw_size HB.out hNW) ?_); intro z1 hown hgrow; have HA2 := Hk.mk (Arr.made hown rfl (z := .bool false)); have hb := below_grown hgrow; have HIZ := Hk.mk HA1.out.lt; have HQZ : Hk (w.heap.size + 1 ≤ _) := ⟨kw_size HB.out hNW⟩; replace HA1 := Hk.mk (HA1.out.below hb HA1.out.lt); replace HB := Hk.mk (kw_step HB.out hNW hb); clear hb; clear hc hf hl hn' hm; obtain ⟨hc, hf, hl, hn', hm⟩ := kw_rules HB.out hNW))
  have HA1 := HA1; have HA2 := HA2
  have hIQ : ¬ I = z.heap.size := by have := HIZ.out; omega
  have HQN : Hk (w.heap.size + 1 ≤ z.heap.size) := HQZ
  clear HIZ HQZ
  clear hc hf hl hn' hm
  generalize z.heap.size = Q at *
  go_loopw [37] (fun s' wr => ∃ t : Nat, s' = .int .i64 t ∧ t ≤ n ∧ Hk (Below (w.heap.size + 1) (w.alloc (.cells #[.int .i64 W, .int .i64 H, .slice a n c] 24)) wr) ∧ Hk (Arr wr I n 3 (fun k => .int .i64 (sC W H (opn W xs bs cl) k))) ∧ Hk (Arr wr Q n 4 (fun k => .bool (if k < t then decide (s < sC W H (opn W xs bs cl) k) else false)))) (fun s' _ => n - (intOf s').toNat)
  case atStart => exact ⟨0, rfl, by omega, HB, HA1, ⟨HA2.out.congr fun k hk => by rw [if_neg (by omega)]⟩⟩
  case round =>
    clear HB HA1 HA2
    obtain ⟨t, rfl, ht, HB, HA1, HA2⟩ := hrel
    obtain ⟨hc, hf, hl, hn', hm⟩ := kw_rules HB.out hNW
    by_cases hlt : t < n
    · have t0 : (0 : Int) ≤ (t : Int) := by omega
      have t1 : (t : Int) < (n : Int) := by omega
      have c1 := HA1.out.cell hlt
      have c2 := HA2.out.cell hlt
      have c3 := HA2.out.frozen t
      rw [if_neg (by omega)] at c2
      obtain ⟨v, hv⟩ : ∃ v, sC W H (opn W xs bs cl) t = v := ⟨_, rfl⟩
      rw [hv] at c1
      have HD : Hk (decide (s < sC W H (opn W xs bs cl) t) = decide (s < v)) := ⟨by rw [hv]⟩
      clear hv
      go_wp2_with fail
      exact ⟨⟨t + 1, by go_num, by omega, ⟨HB.out.setCell (by exact HQN.out) _⟩, ⟨HA1.out.far _ _ hIQ⟩, ⟨(HA2.out.set hlt _).congr fun k hk => by
        by_cases e : k = t
        · subst e; rw [if_pos (by omega), if_pos rfl, HD.out]
        · rw [if_neg e]
          by_cases e2 : k < t
          · rw [if_pos (by omega), if_pos e2]
          · rw [if_neg (by omega), if_neg e2]⟩⟩, by simp [intOf]; omega⟩
    · have htn : t = n := by omega
      subst htn
      go_wp2_with fail
      go_ret2
      exact ⟨Q, rfl, by have := HQN.out; omega, HA2.out.congr fun k hk => by rw [if_pos hk], HTR.out _ HB.out⟩
end Go.Proofs.YthabjihpjdlmoaaDoor
