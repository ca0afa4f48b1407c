/- The argument of the statements of layer 10. -/
import Derived.Test.YtkggejdbkllaaaaScf
import Derived.Test.YtkggejdbkllaaaaAsk17
namespace Go.Proofs.Ytkggejdbkllaaaa
open Go.ChangeShapes Go.WideShapes Go.ChangeAt Go.RowKit Go.Deep
set_option linter.unusedVariables false
theorem bools_of {H : Type} {enc : TypeId × Value → H} {w : World} {base : Nat} {spare : Nat → Bool} {held : Bool} {fuel : Nat} {x : DataW H × List MemPlace} {v : Value}
    (hf : DataW.trod enc Try.prog w base spare held fuel 22 [v] = some x) : ∃ a n c, v = .slice a n c ∧ n ≤ 9223372036854775807 := by
  rcases open_slice Try.underlying22 hf with ⟨hcs, _⟩ | ⟨a', l, c, m, n, D, Pl, hcs, _, hl, hm, hmm, _, hi⟩
  · simp at hcs; exact ⟨none, 0, 0, hcs, by omega⟩
  · simp at hcs; exact ⟨_, _, _, hcs, by unfold maxLen at hm; omega⟩
def Asks10 (w : World) (v : Value) : Prop := ∃ (W H : Int) (fa : Option Addr) (fn fc : Nat) (ta : Option Addr) (tn tc : Nat) (ts : List Int) (pa : Option Addr) (pn pc : Nat) (ps : List Int),
  v = .agg #[.int .i64 W, .int .i64 H, .slice fa fn fc, .slice ta tn tc, .slice pa pn pc] ∧ fn ≤ 9223372036854775807 ∧ tn ≤ 9223372036854775807 ∧ pn ≤ 9223372036854775807 ∧ Nq w w.heap.size ta tn ts ∧ Nq w w.heap.size pa pn ps
set_option maxRecDepth 100000 in
theorem asks10_of {H : Type} {enc : TypeId × Value → H} {w : World} {base : Nat} {spare : Nat → Bool} {held : Bool} {fuel : Nat} {x : DataW H × List MemPlace} {cs : Array Value} (hcs : cs.size = Try.prog.cellsOf 25)
    (hf : DataW.trod enc Try.prog w base spare held fuel 25 cs.toList = some x) : Asks10 w (.agg cs) := by
  have hC : Try.prog.cellsOf 25 = 5 := by kernel_rfl
  have h2 : Try.prog.cellsOf 23 = 1 := by kernel_rfl
  have h4 : Try.prog.cellsOf 22 = 1 := by kernel_rfl
  have h5 : Try.prog.cellsOf 3 = 1 := by kernel_rfl
  rw [hC] at hcs
  obtain ⟨l⟩ := cs
  match l, hcs with
  | [c0, c1, c2, c3, c4], _ =>
    obtain ⟨ys, n', _, _, _, hyl, hg⟩ := DataW.trod_struct Try.underlying25 hf
    match ys, hyl with
    | [y0, y1, y2, y3, y4], _ =>
      have g0 := hg 0 _ rfl
      have g1 := hg 1 _ rfl
      have g2 := hg 2 _ rfl
      have g3 := hg 3 _ rfl
      have g4 := hg 4 _ rfl
      simp [h2, h4, h5] at g0 g1 g2 g3 g4
      obtain ⟨W, e0, _, _⟩ := DataW.trod_int Try.underlying3 g0
      simp at e0
      subst e0
      obtain ⟨H, e1, _, _⟩ := DataW.trod_int Try.underlying3 g1
      simp at e1
      subst e1
      obtain ⟨fa, fn, fc, rfl, hfn⟩ := bools_of g2
      obtain ⟨ta, tn, tc, ts, rfl, htn, hnq⟩ := nq_of g3
      obtain ⟨pa, pn, pc, ps, rfl, hpn, hpq⟩ := nq_of g4
      exact ⟨W, H, fa, fn, fc, ta, tn, tc, ts, pa, pn, pc, ps, rfl, hfn, htn, hpn, hnq, hpq⟩
end Go.Proofs.Ytkggejdbkllaaaa
