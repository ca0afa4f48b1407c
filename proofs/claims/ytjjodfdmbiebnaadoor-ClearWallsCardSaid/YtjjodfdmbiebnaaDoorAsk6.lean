/- The argument of the statements of layer 6: a ground, tiles, places. -/
import Derived.Test.YtjjodfdmbiebnaaDoorAskq
namespace Go.Proofs.YtjjodfdmbiebnaaDoor
open Go.ChangeShapes Go.WideShapes Go.ChangeAt Go.RowKit Go.Deep
set_option linter.unusedVariables false
def Asks6 (w : World) (v : Value) : Prop := ∃ (W H : Int) (a : Option Addr) (n c : Nat) (xs : List Int) (ta : Option Addr) (tn tc : Nat) (ts : List Int) (pa : Option Addr) (pn pc : Nat) (f g : Nat → Int),
  v = .agg #[.int .i64 W, .int .i64 H, .slice a n c, .slice ta tn tc, .slice pa pn pc] ∧ I64' W ∧ I64' H ∧ n ≤ 9223372036854775807 ∧ tn ≤ 9223372036854775807 ∧ pn ≤ 9223372036854775807 ∧ By w w.heap.size a n xs ∧ Nq w w.heap.size ta tn ts ∧ Vq w w.heap.size pa pn f g
theorem ground_of {H : Type} {enc : TypeId × Value → H} {w : World} {base : Nat} {spare : Nat → Bool} {held : Bool} {fuel : Nat} {x : DataW H × List MemPlace} {c0 c1 c2 : Value}
    (hf : DataW.trod enc Tryd.prog w base spare held fuel 24 [c0, c1, c2] = some x) : ∃ (W H : Int) (a : Option Addr) (n c : Nat) (xs : List Int), c0 = .int .i64 W ∧ c1 = .int .i64 H ∧ c2 = .slice a n c ∧ I64' W ∧ I64' H ∧ n ≤ 9223372036854775807 ∧ By w w.heap.size a n xs := by
  have h2 : Tryd.prog.cellsOf 3 = 1 := by kernel_rfl
  have h3 : Tryd.prog.cellsOf 22 = 1 := by kernel_rfl
  obtain ⟨ys, n', _, _, _, hyl, hg⟩ := DataW.trod_struct Tryd.underlying24 hf
  match ys, hyl with
  | [y0, y1, y2], _ =>
    have g0 := hg 0 _ rfl
    have g1 := hg 1 _ rfl
    have g2 := hg 2 _ rfl
    simp [h2, h3] at g0 g1 g2
    obtain ⟨x0, e0, _, w0⟩ := DataW.trod_int Tryd.underlying3 g0
    obtain ⟨x1, e1, _, w1⟩ := DataW.trod_int Tryd.underlying3 g1
    obtain ⟨a, n, c, xs, rfl, hn, hc, hby⟩ := by_of g2
    simp at e0 e1
    exact ⟨x0, x1, a, n, c, xs, e0, e1, rfl, i64q_of_wf w0, i64q_of_wf w1, by omega, hby⟩
set_option maxRecDepth 100000 in
theorem asks6_of {H : Type} {enc : TypeId × Value → H} {w : World} {base : Nat} {spare : Nat → Bool} {held : Bool} {fuel : Nat} {x : DataW H × List MemPlace} {cs : Array Value} (hcs : cs.size = Tryd.prog.cellsOf 28)
    (hf : DataW.trod enc Tryd.prog w base spare held fuel 28 cs.toList = some x) : Asks6 w (.agg cs) := by
  have hC : Tryd.prog.cellsOf 28 = 5 := by kernel_rfl
  have h1 : Tryd.prog.cellsOf 24 = 3 := by kernel_rfl
  have h2 : Tryd.prog.cellsOf 25 = 1 := by kernel_rfl
  have h3 : Tryd.prog.cellsOf 26 = 1 := by kernel_rfl
  rw [hC] at hcs
  obtain ⟨l⟩ := cs
  match l, hcs with
  | [c0, c1, c2, c3, c4], _ =>
    obtain ⟨ys, n', _, _, _, hyl, hg⟩ := DataW.trod_struct Tryd.underlying28 hf
    match ys, hyl with
    | [y0, y1, y2], _ =>
      have g0 := hg 0 _ rfl
      have g1 := hg 1 _ rfl
      have g2 := hg 2 _ rfl
      simp [h1, h2, h3] at g0 g1 g2
      obtain ⟨W, H, a, n, c, xs, rfl, rfl, rfl, hW, hH, hn, hby⟩ := ground_of g0
      obtain ⟨ta, tn, tc, ts, rfl, htn, hnq⟩ := nq_of g1
      obtain ⟨pa, pn, pc, f, g, rfl, hpn, hpc, hvq⟩ := vq_of g2
      exact ⟨W, H, a, n, c, xs, ta, tn, tc, ts, pa, pn, pc, f, g, rfl, hW, hH, hn, htn, by omega, hby, hnq, hvq⟩
theorem hsz_of {w X : World} {o : Obj} (h : Below (w.heap.size + 1) (w.alloc o) X) : w.heap.size + 1 ≤ X.heap.size := by simpa using h.size
def heavyB (n tn pn : Nat) : Bool := decide (20000 < n ∨ 60 < tn ∨ 60 < pn)
theorem heavy6_any (W H : Int) (a ta pa : Option Addr) (n c tn tc pn pc : Nat) (w : World) (hn : n ≤ 9223372036854775807) (htn : tn ≤ 9223372036854775807) (hpn : pn ≤ 9223372036854775807) :
    Calls Tryd.prog 13 #[.agg #[.int .i64 W, .int .i64 H, .slice a n c, .slice ta tn tc, .slice pa pn pc]] w fun e w' => e = .returned (.bool (heavyB n tn pn)) ∧ Below w.heap.size w w' := by
  by_cases q1 : 20000 < n
  · have b1 : decide ((20000 : Int) < n) = true := by simp; omega
    have R : Hk (heavyB n tn pn = true) := ⟨by unfold heavyB; simp; omega⟩
    go_enter Tryd.func13, Tryd.ntmps13
    go_wp2
    go_ret
    exact ⟨rbo R.out.symm, (Below.refl _ _).alloc (Nat.le_refl _) _⟩
  have b1 : decide ((20000 : Int) < n) = false := by simp; omega
  by_cases q2 : 60 < tn
  · have b2 : decide ((60 : Int) < tn) = true := by simp; omega
    have R : Hk (heavyB n tn pn = true) := ⟨by unfold heavyB; simp; omega⟩
    go_enter Tryd.func13, Tryd.ntmps13
    go_wp2
    go_ret
    exact ⟨rbo R.out.symm, (Below.refl _ _).alloc (Nat.le_refl _) _⟩
  have b2 : decide ((60 : Int) < tn) = false := by simp; omega
  by_cases q3 : 60 < pn
  · have b3 : decide ((60 : Int) < pn) = true := by simp; omega
    have R : Hk (heavyB n tn pn = true) := ⟨by unfold heavyB; simp; omega⟩
    go_enter Tryd.func13, Tryd.ntmps13
    go_wp2
    go_ret
    exact ⟨rbo R.out.symm, (Below.refl _ _).alloc (Nat.le_refl _) _⟩
  · have b3 : decide ((60 : Int) < pn) = false := by simp; omega
    have R : Hk (heavyB n tn pn = false) := ⟨by unfold heavyB; simp; omega⟩
    go_enter Tryd.func13, Tryd.ntmps13
    go_wp2
    go_ret
    exact ⟨rbo R.out.symm, (Below.refl _ _).alloc (Nat.le_refl _) _⟩
theorem heavy6_as (r : Bool) (W H : Int) (a ta pa : Option Addr) (n c tn tc pn pc : Nat) (w : World) (hn : n ≤ 9223372036854775807) (htn : tn ≤ 9223372036854775807) (hpn : pn ≤ 9223372036854775807) (R : Hk (heavyB n tn pn = r)) :
    Calls Tryd.prog 13 #[.agg #[.int .i64 W, .int .i64 H, .slice a n c, .slice ta tn tc, .slice pa pn pc]] w fun e w' => e = .returned (.bool r) ∧ Below w.heap.size w w' := by
  obtain ⟨rfl⟩ := R; exact heavy6_any W H a ta pa n c tn tc pn pc w hn htn hpn
end Go.Proofs.YtjjodfdmbiebnaaDoor
