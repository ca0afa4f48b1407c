/- The argument of the statements of layer 3: a sum, bytes, a place. -/
import Derived.Test.YtdammgpflfoppabByb
namespace Go.Proofs.Ytdammgpflfoppab
open Go.ChangeShapes Go.WideShapes Go.ChangeAt Go.RowKit Go.Deep
set_option linter.unusedVariables false
def Asks3 (w : World) (a : Option Addr) (len cap : Nat) : Prop :=
  len ≤ cap ∧ cap ≤ 9223372036854775807 ∧ ∀ i, i < len → ∃ (b off : Nat) (s : Int) (ab : Option Addr) (nb cb : Nat) (xs : List Int) (k : Int), a = some ⟨b, off, none⟩ ∧ b < w.heap.size ∧ Fn.U64 s ∧ nb ≤ cb ∧ cb ≤ 9223372036854775807 ∧ By w w.heap.size ab nb xs ∧ (-9223372036854775808 ≤ k ∧ k ≤ 9223372036854775807) ∧
    w.cell? ⟨b, off + i * 3, none⟩ = some (.int .u64 s) ∧ w.cell? ⟨b, off + i * 3 + 1, none⟩ = some (.slice ab nb cb) ∧ w.cell? ⟨b, off + i * 3 + 2, none⟩ = some (.int .i64 k)
set_option maxRecDepth 100000 in
theorem asks3_of {H : Type} {enc : TypeId × Value → H} {w : World} {base : Nat} {held : Bool} {fuel : Nat} {x : DataW H × List MemPlace} {a : Option Addr} {len cap : Nat}
    (hf : DataW.trod enc Try.prog w base (fun _ => true) held fuel 37 [.slice a len cap] = some x) : Asks3 w a len cap := by
  rcases open_slice Try.underlying37 hf with ⟨hcs, _⟩ | ⟨a', l, c, m, n, D, Pl, hcs, _, hl, hm, hmm, _, hi⟩
  · simp at hcs
    obtain ⟨rfl, rfl, rfl⟩ := hcs
    exact ⟨Nat.le_refl _, by omega, fun i h => absurd h (by omega)⟩
  · simp at hcs
    obtain ⟨rfl, rfl, rfl⟩ := hcs
    refine ⟨hl, by unfold maxLen at hm; omega, fun i hlt => ?_⟩
    have hC : Try.prog.cellsOf 41 = 3 := by kernel_rfl
    have h1 : Try.prog.cellsOf 3 = 1 := by kernel_rfl
    have h2 : Try.prog.cellsOf 38 = 1 := by kernel_rfl
    have h3 : Try.prog.cellsOf 39 = 1 := by kernel_rfl
    obtain ⟨cs', hc, ht⟩ := hi i (by rw [hmm]; simp; omega)
    rw [hC] at hc
    obtain ⟨ys, n', _, _, _, hyl, hg⟩ := DataW.trod_struct Try.underlying41 ht
    obtain ⟨_, hcl, hat⟩ := World.cells?_some hc
    match cs', hcl with
    | [c0, c1, c2], _ =>
      match ys, hyl with
      | [y0, y1, y2], _ =>
        have g0 := hg 0 _ rfl
        have g1 := hg 1 _ rfl
        have g2 := hg 2 _ rfl
        simp [h1, h2, h3] at g0 g1 g2
        obtain ⟨x0, e0, _, w0⟩ := DataW.trod_int Try.underlying38 g0
        obtain ⟨ab, nb, cb, xs, rfl, hn, hcb, hby⟩ := by_of g1
        obtain ⟨x2, e2, _, w2⟩ := DataW.trod_int Try.underlying3 g2
        simp at e0 e2
        subst e0 e2
        have k0 := hat 0 (by omega)
        have k1 := hat 1 (by omega)
        have k2 := hat 2 (by omega)
        obtain ⟨b, off, spot⟩ := a'
        have hs : spot = none := by
          obtain ⟨cs2, hc2, _⟩ := hi 0 (by rw [hmm]; simp; omega)
          rw [hC] at hc2
          obtain ⟨_, hcl2, hat2⟩ := World.cells?_some hc2
          have h0 := hat2 0 (by omega)
          rw [List.getElem?_eq_getElem (by omega)] at h0
          simpa [Addr.add] using World.cell?_spot h0
        subst hs
        simp only [add_plus, Nat.add_zero] at k0 k1 k2
        exact ⟨b, off, x0, ab, nb, cb, xs, x2, rfl, World.block_lt_of_cell? _ _ k0, bounds_u64 w0, hn, hcb, hby, bounds_i64 w2, k0, k1, k2⟩
end Go.Proofs.Ytdammgpflfoppab
