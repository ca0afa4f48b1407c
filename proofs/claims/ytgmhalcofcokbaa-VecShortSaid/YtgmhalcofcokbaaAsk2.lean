/- The argument of the statements of layer 2: what is known of a list of two ways and a number each. -/
import Derived.Test.YtgmhalcofcokbaaVece
namespace Go.Proofs.Ytgmhalcofcokbaa
open Go.ChangeShapes Go.WideShapes Go.ChangeAt Go.RowKit Go.Deep
set_option linter.unusedVariables false

/-- A list of two ways and a number each: every element lies in memory, each number fits its kind. -/
def Asks2 (w : World) (a : Option Addr) (len cap : Nat) : Prop :=
  len ≤ cap ∧ cap ≤ 9223372036854775807 ∧ ∀ i, i < len → ∃ (b off : Nat) (x y u v k : Int), a = some ⟨b, off, none⟩ ∧ b < w.heap.size ∧ Fx.I64 x ∧ Fx.I64 y ∧ Fx.I64 u ∧ Fx.I64 v ∧ Fx.I64 k ∧
    w.cell? ⟨b, off + i * 5, none⟩ = some (.int .i64 x) ∧ w.cell? ⟨b, off + i * 5 + 1, none⟩ = some (.int .i64 y) ∧ w.cell? ⟨b, off + i * 5 + 2, none⟩ = some (.int .i64 u) ∧
    w.cell? ⟨b, off + i * 5 + 3, none⟩ = some (.int .i64 v) ∧ w.cell? ⟨b, off + i * 5 + 4, none⟩ = some (.int .i64 k)

theorem vec_of {H : Type} {enc : TypeId × Value → H} {w : World} {base : Nat} {spare : Nat → Bool} {held : Bool} {fuel : Nat} {x : DataW H × List MemPlace} {c0 c1 : Value}
    (hf : DataW.trod enc Try.prog w base spare held fuel 24 [c0, c1] = some x) : ∃ x y : Int, c0 = .int .i64 x ∧ c1 = .int .i64 y ∧ Fx.I64 x ∧ Fx.I64 y := by
  have h2 : Try.prog.cellsOf 2 = 1 := by kernel_rfl
  obtain ⟨ys, n', _, _, _, hyl, hg⟩ := DataW.trod_struct Try.underlying24 hf
  match ys, hyl with
  | [y0, y1], _ =>
    have g0 := hg 0 _ rfl
    have g1 := hg 1 _ rfl
    simp [h2] at g0 g1
    obtain ⟨x0, e0, _, w0⟩ := DataW.trod_int Try.underlying2 g0
    obtain ⟨x1, e1, _, w1⟩ := DataW.trod_int Try.underlying2 g1
    simp at e0 e1
    exact ⟨x0, x1, e0, e1, i64_of_wf w0, i64_of_wf w1⟩

set_option maxRecDepth 100000 in
theorem asks2_of {H : Type} {enc : TypeId × Value → H} {w : World} {base : Nat} {held : Bool} {fuel : Nat} {x : DataW H × List MemPlace} {a : Option Addr} {len cap : Nat}
    (hf : DataW.trod enc Try.prog w base (fun _ => true) held fuel 22 [.slice a len cap] = some x) : Asks2 w a len cap := by
  rcases open_slice Try.underlying22 hf with ⟨hcs, _⟩ | ⟨a', l, c, m, n, D, Pl, hcs, _, hl, hm, hmm, _, hi⟩
  · simp at hcs
    obtain ⟨rfl, rfl, rfl⟩ := hcs
    exact ⟨Nat.le_refl _, by omega, fun i h => absurd h (by omega)⟩
  · simp at hcs
    obtain ⟨rfl, rfl, rfl⟩ := hcs
    refine ⟨hl, by unfold maxLen at hm; omega, fun i hlt => ?_⟩
    have hC : Try.prog.cellsOf 26 = 5 := by kernel_rfl
    have h1 : Try.prog.cellsOf 2 = 1 := by kernel_rfl
    have h2 : Try.prog.cellsOf 24 = 2 := by kernel_rfl
    obtain ⟨cs', hc, ht⟩ := hi i (by rw [hmm]; simp; omega)
    rw [hC] at hc
    obtain ⟨ys, n', _, _, _, hyl, hg⟩ := DataW.trod_struct Try.underlying26 ht
    obtain ⟨_, hcl, hat⟩ := World.cells?_some hc
    match cs', hcl with
    | [c0, c1, c2, c3, c4], _ =>
      match ys, hyl with
      | [y0, y1, y2], _ =>
        have g0 := hg 0 _ rfl
        have g1 := hg 1 _ rfl
        have g2 := hg 2 _ rfl
        simp [h1, h2] at g0 g1 g2
        obtain ⟨x0, x1, rfl, rfl, w0, w1⟩ := vec_of g0
        obtain ⟨x2, x3, rfl, rfl, w2, w3⟩ := vec_of g1
        obtain ⟨x4, e4, _, w4⟩ := DataW.trod_int Try.underlying2 g2
        simp at e4
        subst e4
        have k0 := hat 0 (by omega)
        have k1 := hat 1 (by omega)
        have k2 := hat 2 (by omega)
        have k3 := hat 3 (by omega)
        have k4 := hat 4 (by omega)
        obtain ⟨b, off, spot⟩ := a'
        have hs : spot = none := by
          obtain ⟨cs2, hc2, _⟩ := hi 0 (by rw [hmm]; simp; omega)
          rw [hC] at hc2
          obtain ⟨_, hcl2, hat2⟩ := World.cells?_some hc2
          have h0 := hat2 0 (by omega)
          rw [List.getElem?_eq_getElem (by omega)] at h0
          simpa [Addr.add] using World.cell?_spot h0
        subst hs
        simp only [addr_plus, Nat.add_zero] at k0 k1 k2 k3 k4
        exact ⟨b, off, x0, x1, x2, x3, x4, rfl, World.block_lt_of_cell? _ _ k0, w0, w1, w2, w3, i64_of_wf w4, k0, k1, k2, k3, k4⟩
end Go.Proofs.Ytgmhalcofcokbaa
