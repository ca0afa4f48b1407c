/- The argument of the statements of layer 22. -/
import Derived.Test.YtkffleclofkjmaaCma
namespace Go.Proofs.Ytkffleclofkjmaa
open Go.ChangeShapes Go.WideShapes Go.ChangeAt Go.RowKit Go.Deep
set_option linter.unusedVariables false
theorem by_of22 {H : Type} {enc : TypeId × Value → H} {w : World} {base : Nat} {spare : Nat → Bool} {held : Bool} {fuel : Nat} {x : DataW H × List MemPlace} {v : Value}
    (hf : DataW.trod enc Try.prog w base spare held fuel 29 [v] = some x) : ∃ a n c xs, v = .slice a n c ∧ n ≤ c ∧ c ≤ 9223372036854775807 ∧ (a = none → c = 0) ∧ By w w.heap.size a n xs := by
  obtain ⟨a, n, c, xs, rfl, h1, h2, h3⟩ := by_of hf
  refine ⟨a, n, c, xs, rfl, h1, h2, fun ha => ?_, h3⟩
  rcases open_ints Try.underlying29 Try.underlying5 (by kernel_rfl) hf with ⟨hcs, _⟩ | ⟨a', l, c', zs, hcs, _⟩
  · simp at hcs; exact hcs.2.2
  · simp at hcs; rw [hcs.1] at ha; cases ha
theorem vec22_of {H : Type} {enc : TypeId × Value → H} {w : World} {base : Nat} {spare : Nat → Bool} {held : Bool} {fuel : Nat} {x : DataW H × List MemPlace} {c0 c1 : Value}
    (hf : DataW.trod enc Try.prog w base spare held fuel 26 [c0, c1] = some x) : ∃ x y : Int, c0 = .int .i64 x ∧ c1 = .int .i64 y := by
  have h2 : Try.prog.cellsOf 2 = 1 := by kernel_rfl
  obtain ⟨ys, n', _, _, _, hyl, hg⟩ := DataW.trod_struct Try.underlying26 hf
  match ys, hyl with
  | [y0, y1], _ =>
    have g0 := hg 0 _ rfl
    have g1 := hg 1 _ rfl
    simp [h2] at g0 g1
    obtain ⟨x0, e0, _, w0⟩ := DataW.trod_int Try.underlying2 g0
    obtain ⟨x1, e1, _, w1⟩ := DataW.trod_int Try.underlying2 g1
    simp at e0 e1
    exact ⟨x0, x1, e0, e1⟩
theorem command_of {H : Type} {enc : TypeId × Value → H} {w : World} {base : Nat} {spare : Nat → Bool} {held : Bool} {fuel : Nat} {x : DataW H × List MemPlace} {c0 c1 c2 c3 c4 c5 c6 c7 c8 c9 : Value}
    (hf : DataW.trod enc Try.prog w base spare held fuel 28 [c0, c1, c2, c3, c4, c5, c6, c7, c8, c9] = some x) : ∃ (p s k n : Int) (a : Option Addr) (m c : Nat) (u : List Int) (t wd h x y : Int), (c0 = .int .i64 p ∧ c1 = .int .i64 s ∧ c2 = .int .i64 k ∧ c3 = .int .i64 n ∧ c4 = .slice a m c ∧ c5 = .int .i64 t ∧ c6 = .int .i64 wd ∧ c7 = .int .i64 h ∧ c8 = .int .i64 x ∧ c9 = .int .i64 y) ∧ m ≤ 9223372036854775807 ∧ Nq w w.heap.size a m u := by
  have h1 : Try.prog.cellsOf 3 = 1 := by kernel_rfl
  have h3 : Try.prog.cellsOf 24 = 1 := by kernel_rfl
  have h4 : Try.prog.cellsOf 26 = 2 := by kernel_rfl
  obtain ⟨ys, n', _, _, _, hyl, hg⟩ := DataW.trod_struct Try.underlying28 hf
  match ys, hyl with
  | [y0, y1, y2, y3, y4, y5, y6, y7, y8], _ =>
    have g0 := hg 0 _ rfl
    have g1 := hg 1 _ rfl
    have g2 := hg 2 _ rfl
    have g3 := hg 3 _ rfl
    have g4 := hg 4 _ rfl
    have g5 := hg 5 _ rfl
    have g6 := hg 6 _ rfl
    have g7 := hg 7 _ rfl
    have g8 := hg 8 _ rfl
    simp [h1, h3, h4] at g0 g1 g2 g3 g4 g5 g6 g7 g8
    obtain ⟨x0, e0, _, w0⟩ := DataW.trod_int Try.underlying3 g0
    obtain ⟨x1, e1, _, w1⟩ := DataW.trod_int Try.underlying3 g1
    obtain ⟨x2, e2, _, w2⟩ := DataW.trod_int Try.underlying3 g2
    obtain ⟨x3, e3, _, w3⟩ := DataW.trod_int Try.underlying3 g3
    obtain ⟨x5, e5, _, w5⟩ := DataW.trod_int Try.underlying3 g5
    obtain ⟨x6, e6, _, w6⟩ := DataW.trod_int Try.underlying3 g6
    obtain ⟨x7, e7, _, w7⟩ := DataW.trod_int Try.underlying3 g7
    obtain ⟨a, m, c, u, rfl, hm, hq⟩ := nq_of g4
    obtain ⟨x8, x9, rfl, rfl⟩ := vec22_of g8
    simp at e0 e1 e2 e3 e5 e6 e7
    exact ⟨x0, x1, x2, x3, a, m, c, u, x5, x6, x7, x8, x9, ⟨e0, e1, e2, e3, rfl, e5, e6, e7, rfl, rfl⟩, hm, hq⟩
/-- The argument: a command, bytes. -/
def Asks22 (w : World) (a0 : Option Addr) (len cap : Nat) : Prop :=
  len ≤ cap ∧ cap ≤ 9223372036854775807 ∧ ∀ i, i < len → ∃ (b off : Nat) (p s k n : Int) (a : Option Addr) (m c : Nat) (u : List Int) (t wd h x y : Int) (ax : Option Addr) (nx cx : Nat) (ys : List Int), a0 = some ⟨b, off, none⟩ ∧ b < w.heap.size ∧ m ≤ 9223372036854775807 ∧ Nq w w.heap.size a m u ∧ (nx ≤ cx ∧ cx ≤ 9223372036854775807 ∧ (ax = none → cx = 0) ∧ By w w.heap.size ax nx ys) ∧
    w.cell? ⟨b, off + i * 11, none⟩ = some (.int .i64 p) ∧ w.cell? ⟨b, off + i * 11 + 1, none⟩ = some (.int .i64 s) ∧ w.cell? ⟨b, off + i * 11 + 2, none⟩ = some (.int .i64 k) ∧ w.cell? ⟨b, off + i * 11 + 3, none⟩ = some (.int .i64 n) ∧ w.cell? ⟨b, off + i * 11 + 4, none⟩ = some (.slice a m c) ∧ w.cell? ⟨b, off + i * 11 + 5, none⟩ = some (.int .i64 t) ∧ w.cell? ⟨b, off + i * 11 + 6, none⟩ = some (.int .i64 wd) ∧ w.cell? ⟨b, off + i * 11 + 7, none⟩ = some (.int .i64 h) ∧ w.cell? ⟨b, off + i * 11 + 8, none⟩ = some (.int .i64 x) ∧ w.cell? ⟨b, off + i * 11 + 9, none⟩ = some (.int .i64 y) ∧ w.cell? ⟨b, off + i * 11 + 10, none⟩ = some (.slice ax nx cx)
set_option maxRecDepth 100000 in
theorem asks22_of {H : Type} {enc : TypeId × Value → H} {w : World} {base : Nat} {held : Bool} {fuel : Nat} {x : DataW H × List MemPlace} {a : Option Addr} {len cap : Nat}
    (hf : DataW.trod enc Try.prog w base (fun _ => true) held fuel 22 [.slice a len cap] = some x) : Asks22 w a len cap := by
  rcases open_slice Try.underlying22 hf with ⟨hcs, _⟩ | ⟨a', l, c, m, n, D, Pl, hcs, _, hl, hm, hmm, _, hi⟩
  · simp at hcs
    obtain ⟨rfl, rfl, rfl⟩ := hcs
    exact ⟨Nat.le_refl _, by omega, fun i h => absurd h (by omega)⟩
  · simp at hcs
    obtain ⟨rfl, rfl, rfl⟩ := hcs
    refine ⟨hl, by unfold maxLen at hm; omega, fun i hlt => ?_⟩
    have hC : Try.prog.cellsOf 31 = 11 := by kernel_rfl
    have h1 : Try.prog.cellsOf 28 = 10 := by kernel_rfl
    have h3 : Try.prog.cellsOf 29 = 1 := by kernel_rfl
    obtain ⟨cs', hc, ht⟩ := hi i (by rw [hmm]; simp; omega)
    rw [hC] at hc
    obtain ⟨ys, n', _, _, _, hyl, hg⟩ := DataW.trod_struct Try.underlying31 ht
    obtain ⟨_, hcl, hat⟩ := World.cells?_some hc
    match cs', hcl with
    | [c0, c1, c2, c3, c4, c5, c6, c7, c8, c9, c10], _ =>
      match ys, hyl with
      | [y0, y1], _ =>
        have g0 := hg 0 _ rfl
        have g1 := hg 1 _ rfl
        simp [h1, h3] at g0 g1
        obtain ⟨p, s, k, n, ua, um, uc, u, t, wd, h, x, y, ⟨rfl, rfl, rfl, rfl, rfl, rfl, rfl, rfl, rfl, rfl⟩, hum, hq⟩ := command_of g0
        obtain ⟨ax, nx, cx, zs, rfl, hn2, hcb2, hab2, hby2⟩ := by_of22 g1
        have k0 := hat 0 (by omega)
        have k1 := hat 1 (by omega)
        have k2 := hat 2 (by omega)
        have k3 := hat 3 (by omega)
        have k4 := hat 4 (by omega)
        have k5 := hat 5 (by omega)
        have k6 := hat 6 (by omega)
        have k7 := hat 7 (by omega)
        have k8 := hat 8 (by omega)
        have k9 := hat 9 (by omega)
        have k10 := hat 10 (by omega)
        obtain ⟨b, off, spot⟩ := a'
        have hs : spot = none := by
          obtain ⟨cs2, hc2, _⟩ := hi 0 (by rw [hmm]; simp; omega)
          rw [hC] at hc2
          obtain ⟨_, hcl2, hat2⟩ := World.cells?_some hc2
          have h0 := hat2 0 (by omega)
          rw [List.getElem?_eq_getElem (by omega)] at h0
          simpa [Addr.add] using World.cell?_spot h0
        subst hs
        simp only [aq_plus, Nat.add_zero] at k0 k1 k2 k3 k4 k5 k6 k7 k8 k9 k10
        exact ⟨b, off, p, s, k, n, ua, um, uc, u, t, wd, h, x, y, ax, nx, cx, zs, rfl, World.block_lt_of_cell? _ _ k0, hum, hq, ⟨hn2, hcb2, hab2, hby2⟩, k0, k1, k2, k3, k4, k5, k6, k7, k8, k9, k10⟩
end Go.Proofs.Ytkffleclofkjmaa
