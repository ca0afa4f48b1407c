/- Arguments that hold slices of numbers, of ways, of bytes: what is known of them. -/
import Derived.Test.YtjjodfdmbiebnaaDoorGrk
import Derived.Test.YtjjodfdmbiebnaaDoorByb
namespace Go.Proofs.YtjjodfdmbiebnaaDoor
open Go.ChangeShapes Go.WideShapes Go.ChangeAt Go.RowKit Go.Deep
set_option linter.unusedVariables false
theorem i64q_of_wf {n : Int} (h : (Lit.int .i64 n).wf = true) : I64' n := by
  have := bounds_i64 h
  unfold I64'; omega
theorem vecq_of {H : Type} {enc : TypeId × Value → H} {w : World} {base : Nat} {spare : Nat → Bool} {held : Bool} {fuel : Nat} {x : DataW H × List MemPlace} {c0 c1 : Value}
    (hf : DataW.trod enc Tryd.prog w base spare held fuel 38 [c0, c1] = some x) : ∃ x y : Int, c0 = .int .i64 x ∧ c1 = .int .i64 y ∧ I64' x ∧ I64' y := by
  have h2 : Tryd.prog.cellsOf 2 = 1 := by kernel_rfl
  obtain ⟨ys, n', _, _, _, hyl, hg⟩ := DataW.trod_struct Tryd.underlying38 hf
  match ys, hyl with
  | [y0, y1], _ =>
    have g0 := hg 0 _ rfl
    have g1 := hg 1 _ rfl
    simp [h2] at g0 g1
    obtain ⟨x0, e0, _, w0⟩ := DataW.trod_int Tryd.underlying2 g0
    obtain ⟨x1, e1, _, w1⟩ := DataW.trod_int Tryd.underlying2 g1
    simp at e0 e1
    exact ⟨x0, x1, e0, e1, i64q_of_wf w0, i64q_of_wf w1⟩

/-- The slice's n elements are the ways (f k, g k). -/
structure Vq (w : World) (B : Nat) (a : Option Addr) (n : Nat) (f g : Nat → Int) : Prop where
  num : ∀ k, k < n → I64' (f k) ∧ I64' (g k)
  rd : 0 < n → ∃ b off, a = some ⟨b, off, none⟩ ∧ b < B ∧ ∀ k, k < n → w.cell? ⟨b, off + k * 2, none⟩ = some (.int .i64 (f k)) ∧ w.cell? ⟨b, off + k * 2 + 1, none⟩ = some (.int .i64 (g k))
theorem Vq.nil (w : World) (B : Nat) (a : Option Addr) (f g : Nat → Int) : Vq w B a 0 f g := ⟨fun k h => absurd h (by omega), fun h => absurd h (by omega)⟩
theorem Vq.below {w w' : World} {B B' n : Nat} {a : Option Addr} {f g : Nat → Int} (h : Vq w B a n f g) (hb : Below B' w w') (hB : B ≤ B') : Vq w' B a n f g := ⟨h.num, fun hn => by
  obtain ⟨b, off, e, hlt, hc⟩ := h.rd hn
  exact ⟨b, off, e, hlt, fun k hk => ⟨(hb.cell (p := ⟨b, off + k * 2, none⟩) (Nat.lt_of_lt_of_le hlt hB)).trans (hc k hk).1, (hb.cell (p := ⟨b, off + k * 2 + 1, none⟩) (Nat.lt_of_lt_of_le hlt hB)).trans (hc k hk).2⟩⟩⟩
theorem Vq.mono {w : World} {B B' n : Nat} {a : Option Addr} {f g : Nat → Int} (h : Vq w B a n f g) (hB : B ≤ B') : Vq w B' a n f g := ⟨h.num, fun hn => by
  obtain ⟨b, off, e, hlt, hc⟩ := h.rd hn
  exact ⟨b, off, e, by omega, hc⟩⟩
set_option maxRecDepth 100000 in
theorem vq_of {H : Type} {enc : TypeId × Value → H} {w : World} {base : Nat} {spare : Nat → Bool} {held : Bool} {fuel : Nat} {x : DataW H × List MemPlace} {v : Value}
    (hf : DataW.trod enc Tryd.prog w base spare held fuel 26 [v] = some x) : ∃ a n c f g, v = .slice a n c ∧ n ≤ c ∧ c ≤ 9223372036854775807 ∧ Vq w w.heap.size a n f g := by
  rcases open_slice Tryd.underlying26 hf with ⟨hcs, _⟩ | ⟨a', l, c, m, n, D, Pl, hcs, _, hl, hm, hmm, _, hi⟩
  · simp at hcs
    exact ⟨none, 0, 0, fun _ => 0, fun _ => 0, hcs, by omega, by omega, Vq.nil _ _ _ _ _⟩
  · simp at hcs
    have hC : Tryd.prog.cellsOf 38 = 2 := by kernel_rfl
    have hall : ∀ k, ∃ p : Int × Int, k < l → I64' p.1 ∧ I64' p.2 ∧ ∃ b off, a' = ⟨b, off, none⟩ ∧ b < w.heap.size ∧ w.cell? ⟨b, off + k * 2, none⟩ = some (.int .i64 p.1) ∧ w.cell? ⟨b, off + k * 2 + 1, none⟩ = some (.int .i64 p.2) := by
      intro k
      by_cases hk : k < l
      · obtain ⟨cs', hc, ht⟩ := hi k (by rw [hmm]; split <;> omega)
        rw [hC] at hc
        obtain ⟨_, hcl, hat⟩ := World.cells?_some hc
        match cs', hcl with
        | [c0, c1], _ =>
          obtain ⟨x0, x1, rfl, rfl, w0, w1⟩ := vecq_of ht
          have k0 := hat 0 (by omega)
          have k1 := hat 1 (by omega)
          obtain ⟨b, off, spot⟩ := a'
          have hs : spot = none := by
            obtain ⟨cs2, hc2, _⟩ := hi 0 (by rw [hmm]; split <;> omega)
            rw [hC] at hc2
            obtain ⟨_, hcl2, hat2⟩ := World.cells?_some hc2
            have h0 := hat2 0 (by omega)
            rw [List.getElem?_eq_getElem (by omega)] at h0
            simpa [Addr.add] using World.cell?_spot h0
          subst hs
          simp only [aq_plus, Nat.add_zero] at k0 k1
          exact ⟨(x0, x1), fun _ => ⟨w0, w1, b, off, rfl, World.block_lt_of_cell? _ _ k0, k0, k1⟩⟩
      · exact ⟨(0, 0), fun h => absurd h hk⟩
    obtain ⟨p, hp⟩ := Classical.skolem.1 hall
    refine ⟨_, l, c, fun k => (p k).1, fun k => (p k).2, hcs, hl, by unfold maxLen at hm; omega, fun k hk => ⟨(hp k hk).1, (hp k hk).2.1⟩, fun hn => ?_⟩
    obtain ⟨_, _, b, off, rfl, hb, _⟩ := hp 0 hn
    refine ⟨b, off, rfl, hb, fun k hk => ?_⟩
    obtain ⟨_, _, b', off', e, _, h1, h2⟩ := hp k hk
    simp only [Addr.mk.injEq] at e
    obtain ⟨rfl, rfl, _⟩ := e
    exact ⟨h1, h2⟩
end Go.Proofs.YtjjodfdmbiebnaaDoor
