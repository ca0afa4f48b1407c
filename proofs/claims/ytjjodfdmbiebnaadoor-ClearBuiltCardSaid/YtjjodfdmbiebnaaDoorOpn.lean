/- Openers: a number, a ground, buildings that came in. -/
import Derived.Test.YtjjodfdmbiebnaaDoorRow
import Derived.Test.YtjjodfdmbiebnaaDoorBub
namespace Go.Proofs.YtjjodfdmbiebnaaDoor
open Go.ChangeShapes Go.WideShapes Go.ChangeAt Go.RowKit Go.Deep
set_option linter.unusedVariables false
theorem opi_wf {n : Int} (h : (Lit.int .i64 n).wf = true) : I64' n := by
  have := bounds_i64 h
  unfold I64'; omega
theorem op_int {H : Type} {enc : TypeId × Value → H} {w : World} {base : Nat} {spare : Nat → Bool} {held : Bool} {fuel : Nat} {x : DataW H × List MemPlace} {v : Value} (hf : DataW.trod enc Tryd.prog w base spare held fuel 3 [v] = some x) : ∃ z : Int, v = .int .i64 z ∧ I64' z := by
  obtain ⟨x0, e0, _, w0⟩ := DataW.trod_int Tryd.underlying3 hf
  simp at e0
  exact ⟨x0, e0, opi_wf w0⟩
theorem op_ground {H : Type} {enc : TypeId × Value → H} {w : World} {base : Nat} {spare : Nat → Bool} {held : Bool} {fuel : Nat} {x : DataW H × List MemPlace} {c0 c1 c2 : Value}
    (hf : DataW.trod enc Tryd.prog w base spare held fuel 24 [c0, c1, c2] = some x) : ∃ (W H : Int) (a : Option Addr) (n c : Nat) (xs : List Int), c0 = .int .i64 W ∧ c1 = .int .i64 H ∧ c2 = .slice a n c ∧ I64' W ∧ I64' H ∧ n ≤ 9223372036854775807 ∧ By w w.heap.size a n xs := by
  have h2 : Tryd.prog.cellsOf 3 = 1 := by kernel_rfl
  have h3 : Tryd.prog.cellsOf 22 = 1 := by kernel_rfl
  obtain ⟨ys, n', _, _, _, hyl, hg⟩ := DataW.trod_struct Tryd.underlying24 hf
  match ys, hyl with
  | [y0, y1, y2], _ =>
    have g0 := hg 0 _ rfl
    have g1 := hg 1 _ rfl
    have g2 := hg 2 _ rfl
    simp [h2, h3] at g0 g1 g2
    obtain ⟨x0, e0, w0⟩ := op_int g0
    obtain ⟨x1, e1, w1⟩ := op_int g1
    obtain ⟨a, n, c, xs, rfl, hn, hc, hby⟩ := by_of g2
    exact ⟨x0, x1, a, n, c, xs, e0, e1, rfl, w0, w1, by omega, hby⟩
theorem op_bd {H : Type} {enc : TypeId × Value → H} {w : World} {base : Nat} {spare : Nat → Bool} {held : Bool} {fuel : Nat} {x : DataW H × List MemPlace} {cs : List Value} (hl : cs.length = 6)
    (hf : DataW.trod enc Tryd.prog w base spare held fuel 96 cs = some x) : ∃ b : Bd, cs = [.int .i64 b.i, .int .i64 b.o, .int .i64 b.x, .int .i64 b.y, .int .i64 b.w, .int .i64 b.h] ∧ ∀ i, I64' (b.c i) := by
  have h2 : Tryd.prog.cellsOf 3 = 1 := by kernel_rfl
  match cs, hl with
  | [c0, c1, c2, c3, c4, c5], _ =>
    obtain ⟨ys, n', _, _, _, hyl, hg⟩ := DataW.trod_struct Tryd.underlying96 hf
    match ys, hyl with
    | [y0, y1, y2, y3, y4, y5], _ =>
      have g0 := hg 0 _ rfl
      have g1 := hg 1 _ rfl
      have g2 := hg 2 _ rfl
      have g3 := hg 3 _ rfl
      have g4 := hg 4 _ rfl
      have g5 := hg 5 _ rfl
      simp [h2] at g0 g1 g2 g3 g4 g5
      obtain ⟨x0, rfl, w0⟩ := op_int g0
      obtain ⟨x1, rfl, w1⟩ := op_int g1
      obtain ⟨x2, rfl, w2⟩ := op_int g2
      obtain ⟨x3, rfl, w3⟩ := op_int g3
      obtain ⟨x4, rfl, w4⟩ := op_int g4
      obtain ⟨x5, rfl, w5⟩ := op_int g5
      refine ⟨⟨x0, x1, x2, x3, x4, x5⟩, rfl, fun i => ?_⟩
      match i with
      | 0 => exact w0
      | 1 => exact w1
      | 2 => exact w2
      | 3 => exact w3
      | 4 => exact w4
      | _ + 5 => exact w5
theorem op_bds {H : Type} {enc : TypeId × Value → H} {w : World} {base : Nat} {spare : Nat → Bool} {held : Bool} {fuel : Nat} {x : DataW H × List MemPlace} {v : Value}
    (hf : DataW.trod enc Tryd.prog w base spare held fuel 46 [v] = some x) : ∃ a n c, ∃ bs : List Bd, v = .slice a n c ∧ n ≤ c ∧ c ≤ 9223372036854775807 ∧ Bq w w.heap.size a n bs ∧ ∀ k, k < n → ∀ i, I64' ((bs.getD k default).c i) := by
  obtain ⟨a, n, c, ys, rfl, hnc, hc, hl, hr⟩ := rows_of (default : Bd) Tryd.underlying46 6 (by kernel_rfl) (by omega) (fun cs b => cs = [.int .i64 b.i, .int .i64 b.o, .int .i64 b.x, .int .i64 b.y, .int .i64 b.w, .int .i64 b.h] ∧ ∀ i, I64' (b.c i)) (fun fuel x cs hl h => op_bd hl h) hf
  refine ⟨a, n, c, ys, rfl, hnc, hc, ⟨hl, fun hn => ?_⟩, fun k hk i => ?_⟩
  · obtain ⟨b, off, e, hb, hcells⟩ := hr hn
    refine ⟨b, off, e, hb, fun k hk i hi => ?_⟩
    obtain ⟨cs, hcl, ⟨hcs, _⟩, hat⟩ := hcells k hk
    rw [hat i hi, hcs]
    match i, hi with
    | 0, _ | 1, _ | 2, _ | 3, _ | 4, _ | 5, _ => rfl
  · obtain ⟨b, off, e, hb, hcells⟩ := hr (by omega)
    obtain ⟨cs, hcl, ⟨hcs, h64⟩, hat⟩ := hcells k hk
    exact h64 i
end Go.Proofs.YtjjodfdmbiebnaaDoor
