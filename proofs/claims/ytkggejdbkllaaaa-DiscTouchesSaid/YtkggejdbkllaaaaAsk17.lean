/- The argument of the statements of layer 17. -/
import Derived.Test.YtkggejdbkllaaaaDsb
import Derived.Test.YtkggejdbkllaaaaVq
namespace Go.Proofs.Ytkggejdbkllaaaa
open Go.ChangeShapes Go.WideShapes Go.ChangeAt Go.RowKit Go.Deep
set_option linter.unusedVariables false
/-- The slice reads as these numbers of 64 bits. -/
structure N64 (w : World) (B : Nat) (a : Option Addr) (n : Nat) (f : Nat → Int) : Prop where
  num : ∀ k, k < n → Fx.I64 (f k)
  rd : 0 < n → ∃ b off, a = some ⟨b, off, none⟩ ∧ b < B ∧ ∀ k, k < n → w.cell? ⟨b, off + k, none⟩ = some (.int .i64 (f k))
theorem N64.below {w w' : World} {B B' n : Nat} {a : Option Addr} {f : Nat → Int} (h : N64 w B a n f) (hb : Below B' w w') (hB : B ≤ B') : N64 w' B a n f := ⟨h.num, fun hn => by
  obtain ⟨b, off, e, hlt, hc⟩ := h.rd hn
  exact ⟨b, off, e, hlt, fun k hk => (hb.cell (p := ⟨b, off + k, none⟩) (Nat.lt_of_lt_of_le hlt hB)).trans (hc k hk)⟩⟩
theorem n64_of {H : Type} {enc : TypeId × Value → H} {w : World} {base : Nat} {spare : Nat → Bool} {held : Bool} {fuel : Nat} {x : DataW H × List MemPlace} {v : Value}
    (hf : DataW.trod enc Try.prog w base spare held fuel 52 [v] = some x) : ∃ a n c f, v = .slice a n c ∧ n ≤ 9223372036854775807 ∧ N64 w w.heap.size a n f := by
  rcases open_ints Try.underlying52 Try.underlying2 (by kernel_rfl) hf with ⟨hcs, _⟩ | ⟨a, l, c, zs, hcs, _, hl, hm, hz, _, hc, hwf⟩
  · simp at hcs; subst hcs
    exact ⟨none, 0, 0, fun _ => 0, rfl, by omega, fun k h => absurd h (by omega), fun h => absurd h (by omega)⟩
  · simp at hcs; subst hcs
    have hzl : l ≤ zs.length := by rw [hz]; split <;> omega
    refine ⟨_, _, _, fun k => zs.getD k 0, rfl, by unfold maxLen at hm; omega, fun k hk => ?_, fun hn => ?_⟩
    · have hk' : k < zs.length := by omega
      have := hwf (zs.getD k 0) (by simp [List.getD, List.getElem?_eq_getElem hk'])
      exact i64_of_wf this
    · obtain ⟨b, off, spot⟩ := a
      have hs : spot = none := by
        have h0 := World.cell?_spot (hc 0 (by omega))
        simpa [Addr.add] using h0
      subst hs
      refine ⟨b, off, rfl, ?_, fun k hk => ?_⟩
      · have := hc 0 (by omega); rw [aq_plus] at this; exact World.block_lt_of_cell? _ _ this
      · have := hc k (by omega)
        rw [aq_plus] at this
        rw [this]
theorem slice_of {H : Type} {enc : TypeId × Value → H} {w : World} {base : Nat} {spare : Nat → Bool} {held : Bool} {fuel : Nat} {x : DataW H × List MemPlace} {v : Value}
    (hf : DataW.trod enc Try.prog w base spare held fuel 50 [v] = some x) : ∃ a n c, v = .slice a n c ∧ n ≤ 9223372036854775807 := by
  rcases open_slice Try.underlying50 hf with ⟨hcs, _⟩ | ⟨a', l, c, m, n, D, Pl, hcs, _, hl, hm, hmm, _, hi⟩
  · simp at hcs; exact ⟨none, 0, 0, hcs, by omega⟩
  · simp at hcs; exact ⟨_, _, _, hcs, by unfold maxLen at hm; omega⟩
def Asks17 (w : World) (v : Value) : Prop := ∃ (W H : Int) (a : Option Addr) (n c : Nat) (xs : List Int) (la : Option Addr) (ln lc : Nat) (cl : Int) (ta : Option Addr) (tn tc : Nat) (ts : List Int) (pa : Option Addr) (pn pc : Nat) (f g : Nat → Int) (ra : Option Addr) (rn rc : Nat) (q : Nat → Int),
  v = .agg #[.int .i64 W, .int .i64 H, .slice a n c, .slice la ln lc, .int .i64 cl, .slice ta tn tc, .slice pa pn pc, .slice ra rn rc] ∧ n ≤ 9223372036854775807 ∧ ln ≤ 9223372036854775807 ∧ tn ≤ 9223372036854775807 ∧ pn ≤ 9223372036854775807 ∧ rn ≤ 9223372036854775807 ∧
  By w w.heap.size a n xs ∧ Nq w w.heap.size ta tn ts ∧ Vs w w.heap.size pa pn f g ∧ N64 w w.heap.size ra rn q
set_option maxRecDepth 100000 in
theorem asks17_of {H : Type} {enc : TypeId × Value → H} {w : World} {base : Nat} {spare : Nat → Bool} {held : Bool} {fuel : Nat} {x : DataW H × List MemPlace} {cs : Array Value} (hcs : cs.size = Try.prog.cellsOf 54)
    (hf : DataW.trod enc Try.prog w base spare held fuel 54 cs.toList = some x) : Asks17 w (.agg cs) := by
  have hC : Try.prog.cellsOf 54 = 8 := by kernel_rfl
  have h1 : Try.prog.cellsOf 49 = 3 := by kernel_rfl
  have h2 : Try.prog.cellsOf 23 = 1 := by kernel_rfl
  have h3 : Try.prog.cellsOf 51 = 1 := by kernel_rfl
  have h4 : Try.prog.cellsOf 50 = 1 := by kernel_rfl
  have h5 : Try.prog.cellsOf 3 = 1 := by kernel_rfl
  have h6 : Try.prog.cellsOf 52 = 1 := by kernel_rfl
  rw [hC] at hcs
  obtain ⟨l⟩ := cs
  match l, hcs with
  | [c0, c1, c2, c3, c4, c5, c6, c7], _ =>
    obtain ⟨ys, n', _, _, _, hyl, hg⟩ := DataW.trod_struct Try.underlying54 hf
    match ys, hyl with
    | [y0, y1, y2, y3, y4, y5], _ =>
      have g0 := hg 0 _ rfl
      have g1 := hg 1 _ rfl
      have g2 := hg 2 _ rfl
      have g3 := hg 3 _ rfl
      have g4 := hg 4 _ rfl
      have g5 := hg 5 _ rfl
      simp [h1, h2, h3, h4, h5, h6] at g0 g1 g2 g3 g4 g5
      obtain ⟨W, H, a, n, c, xs, rfl, rfl, rfl, hn, hby⟩ := ground_of g0
      obtain ⟨la, ln, lc, rfl, hln⟩ := slice_of g1
      obtain ⟨cl, e2, _, _⟩ := DataW.trod_int Try.underlying3 g2
      simp at e2
      subst e2
      obtain ⟨ta, tn, tc, ts, rfl, htn, hnq⟩ := nq_of g3
      obtain ⟨pa, pn, pc, f, g, rfl, hpn, hpc, hvs⟩ := vs_of g4
      obtain ⟨ra, rn, rc, q, rfl, hrn, hrq⟩ := n64_of g5
      exact ⟨W, H, a, n, c, xs, la, ln, lc, cl, ta, tn, tc, ts, pa, pn, pc, f, g, ra, rn, rc, q, rfl, hn, hln, htn, by omega, hrn, hby, hnq, hvs, hrq⟩
def hv17 (n ln tn pn rn : Nat) : Bool := decide (700 < n ∨ 30 < ln ∨ 30 < tn ∨ 20 < pn ∨ 20 < rn)
def gr17 (n ln : Nat) : Bool := decide (700 < n ∨ 30 < ln)
theorem great_any (W H : Int) (a la : Option Addr) (n c ln lc : Nat) (w : World) (hn : n ≤ 9223372036854775807) (hln : ln ≤ 9223372036854775807) : Calls Try.prog 46 #[.agg #[.int .i64 W, .int .i64 H, .slice a n c], .slice la ln lc] w fun e w' => e = .returned (.bool (gr17 n ln)) ∧ Below w.heap.size w w' := by
  by_cases q0 : 700 < n
  · have b0 : decide ((700 : Int) < n) = true := by simp; omega
    have R : Hk (gr17 n ln = true) := ⟨by unfold gr17; simp; omega⟩
    go_enter Try.func46, Try.ntmps46
    go_wp2
    go_ret
    exact ⟨rbo R.out.symm, (Below.refl _ _).alloc (Nat.le_refl _) _⟩
  have b0 : decide ((700 : Int) < n) = false := by simp; omega
  by_cases q1 : 30 < ln
  · have b1 : decide ((30 : Int) < ln) = true := by simp; omega
    have R : Hk (gr17 n ln = true) := ⟨by unfold gr17; simp; omega⟩
    go_enter Try.func46, Try.ntmps46
    go_wp2
    go_ret
    exact ⟨rbo R.out.symm, (Below.refl _ _).alloc (Nat.le_refl _) _⟩
  have b1 : decide ((30 : Int) < ln) = false := by simp; omega
  have R : Hk (gr17 n ln = false) := ⟨by unfold gr17; simp; omega⟩
  go_enter Try.func46, Try.ntmps46
  go_wp2
  go_ret
  exact ⟨rbo R.out.symm, (Below.refl _ _).alloc (Nat.le_refl _) _⟩
theorem great_as (r : Bool) (W H : Int) (a la : Option Addr) (n c ln lc : Nat) (w : World) (hn : n ≤ 9223372036854775807) (hln : ln ≤ 9223372036854775807) (E : Hk (gr17 n ln = r)) : Calls Try.prog 46 #[.agg #[.int .i64 W, .int .i64 H, .slice a n c], .slice la ln lc] w fun e w' => e = .returned (.bool r) ∧ Below w.heap.size w w' := by
  obtain ⟨rfl⟩ := E; exact great_any W H a la n c ln lc w hn hln
theorem heavy17_any (W H cl : Int) (a la ta pa ra : Option Addr) (n c ln lc tn tc pn pc rn rc : Nat) (w : World) (hn : n ≤ 9223372036854775807) (hln : ln ≤ 9223372036854775807) (htn : tn ≤ 9223372036854775807) (hpn : pn ≤ 9223372036854775807) (hrn : rn ≤ 9223372036854775807) : Calls Try.prog 29 #[.agg #[.int .i64 W, .int .i64 H, .slice a n c, .slice la ln lc, .int .i64 cl, .slice ta tn tc, .slice pa pn pc, .slice ra rn rc]] w fun e w' => e = .returned (.bool (hv17 n ln tn pn rn)) ∧ Below w.heap.size w w' := by
  by_cases hg : 700 < n ∨ 30 < ln
  · have EG : Hk (gr17 n ln = true) := ⟨by unfold gr17; simpa using hg⟩
    have R : Hk (hv17 n ln tn pn rn = true) := ⟨by unfold hv17; simp; omega⟩
    clear hg
    go_enter Try.func29, Try.ntmps29
    go_wp2_with (go_at_call 46; (with_reducible refine (great_as true W H a la n c ln lc _ hn hln EG).mono ?_); rintro e w1 ⟨rfl, hb1⟩; obtain ⟨hc1, hf1⟩ := bcellg' hb1; have hz1 := hb1.size; simp at hz1; have q0' : w.heap.size < w1.heap.size := (by omega); clear hz1; have HB1 := Hk.mk hb1; clear hb1)
    go_ret
    exact ⟨rbo R.out.symm, ((Below.refl _ _).alloc (Nat.le_refl _) _).trans (HB1.out.mono (by simp))⟩
  have EG : Hk (gr17 n ln = false) := ⟨by unfold gr17; simp; omega⟩
  by_cases q0 : 30 < tn
  · have b0 : decide ((30 : Int) < tn) = true := by simp; omega
    have R : Hk (hv17 n ln tn pn rn = true) := ⟨by unfold hv17; simp; omega⟩
    go_enter Try.func29, Try.ntmps29
    go_wp2_with (go_at_call 46; (with_reducible refine (great_as false W H a la n c ln lc _ hn hln EG).mono ?_); rintro e w1 ⟨rfl, hb1⟩; obtain ⟨hc1, hf1⟩ := bcellg' hb1; have hz1 := hb1.size; simp at hz1; have q0' : w.heap.size < w1.heap.size := (by omega); clear hz1; have HB1 := Hk.mk hb1; clear hb1)
    go_ret
    exact ⟨rbo R.out.symm, ((Below.refl _ _).alloc (Nat.le_refl _) _).trans (HB1.out.mono (by simp))⟩
  have b0 : decide ((30 : Int) < tn) = false := by simp; omega
  by_cases q1 : 20 < pn
  · have b1 : decide ((20 : Int) < pn) = true := by simp; omega
    have R : Hk (hv17 n ln tn pn rn = true) := ⟨by unfold hv17; simp; omega⟩
    go_enter Try.func29, Try.ntmps29
    go_wp2_with (go_at_call 46; (with_reducible refine (great_as false W H a la n c ln lc _ hn hln EG).mono ?_); rintro e w1 ⟨rfl, hb1⟩; obtain ⟨hc1, hf1⟩ := bcellg' hb1; have hz1 := hb1.size; simp at hz1; have q0' : w.heap.size < w1.heap.size := (by omega); clear hz1; have HB1 := Hk.mk hb1; clear hb1)
    go_ret
    exact ⟨rbo R.out.symm, ((Below.refl _ _).alloc (Nat.le_refl _) _).trans (HB1.out.mono (by simp))⟩
  have b1 : decide ((20 : Int) < pn) = false := by simp; omega
  by_cases q2 : 20 < rn
  · have b2 : decide ((20 : Int) < rn) = true := by simp; omega
    have R : Hk (hv17 n ln tn pn rn = true) := ⟨by unfold hv17; simp; omega⟩
    go_enter Try.func29, Try.ntmps29
    go_wp2_with (go_at_call 46; (with_reducible refine (great_as false W H a la n c ln lc _ hn hln EG).mono ?_); rintro e w1 ⟨rfl, hb1⟩; obtain ⟨hc1, hf1⟩ := bcellg' hb1; have hz1 := hb1.size; simp at hz1; have q0' : w.heap.size < w1.heap.size := (by omega); clear hz1; have HB1 := Hk.mk hb1; clear hb1)
    go_ret
    exact ⟨rbo R.out.symm, ((Below.refl _ _).alloc (Nat.le_refl _) _).trans (HB1.out.mono (by simp))⟩
  have b2 : decide ((20 : Int) < rn) = false := by simp; omega
  have R : Hk (hv17 n ln tn pn rn = false) := ⟨by unfold hv17; simp; omega⟩
  go_enter Try.func29, Try.ntmps29
  go_wp2_with (go_at_call 46; (with_reducible refine (great_as false W H a la n c ln lc _ hn hln EG).mono ?_); rintro e w1 ⟨rfl, hb1⟩; obtain ⟨hc1, hf1⟩ := bcellg' hb1; have hz1 := hb1.size; simp at hz1; have q0' : w.heap.size < w1.heap.size := (by omega); clear hz1; have HB1 := Hk.mk hb1; clear hb1)
  go_ret
  exact ⟨rbo R.out.symm, ((Below.refl _ _).alloc (Nat.le_refl _) _).trans (HB1.out.mono (by simp))⟩
theorem heavy17_as (r : Bool) (W H cl : Int) (a la ta pa ra : Option Addr) (n c ln lc tn tc pn pc rn rc : Nat) (w : World) (hn : n ≤ 9223372036854775807) (hln : ln ≤ 9223372036854775807) (htn : tn ≤ 9223372036854775807) (hpn : pn ≤ 9223372036854775807) (hrn : rn ≤ 9223372036854775807) (E : Hk (hv17 n ln tn pn rn = r)) : Calls Try.prog 29 #[.agg #[.int .i64 W, .int .i64 H, .slice a n c, .slice la ln lc, .int .i64 cl, .slice ta tn tc, .slice pa pn pc, .slice ra rn rc]] w fun e w' => e = .returned (.bool r) ∧ Below w.heap.size w w' := by
  obtain ⟨rfl⟩ := E; exact heavy17_any W H cl a la ta pa ra n c ln lc tn tc pn pc rn rc w hn hln htn hpn hrn
end Go.Proofs.Ytkggejdbkllaaaa
