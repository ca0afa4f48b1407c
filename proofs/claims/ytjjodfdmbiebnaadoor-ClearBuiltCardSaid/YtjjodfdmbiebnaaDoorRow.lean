/- Slices of structs that came in: each element opened. -/
import Derived.Test.YtjjodfdmbiebnaaDoorNq
namespace Go.Proofs.YtjjodfdmbiebnaaDoor
open Go.ChangeShapes Go.WideShapes Go.ChangeAt Go.RowKit Go.Deep
set_option linter.unusedVariables false
theorem rows_of {H : Type} {enc : TypeId × Value → H} {w : World} {base : Nat} {spare : Nat → Bool} {held : Bool} {fuel : Nat} {x : DataW H × List MemPlace} {v : Value} {S E : TypeId} {α : Type} (d : α)
    (hu : Tryd.prog.underlying S = some (.slice E)) (sz : Nat) (hC : Tryd.prog.cellsOf E = sz) (hsz : 0 < sz) (K : List Value → α → Prop)
    (hK : ∀ (fuel : Nat) (x : DataW H × List MemPlace) (cs : List Value), cs.length = sz → DataW.trod enc Tryd.prog w base spare held fuel E cs = some x → ∃ y : α, K cs y)
    (hf : DataW.trod enc Tryd.prog w base spare held fuel S [v] = some x) :
    ∃ a n c, ∃ ys : List α, v = .slice a n c ∧ n ≤ c ∧ c ≤ 9223372036854775807 ∧ ys.length = n ∧ (0 < n → ∃ b off, a = some ⟨b, off, none⟩ ∧ b < w.heap.size ∧ ∀ k, k < n → ∃ cs : List Value, cs.length = sz ∧ K cs (ys.getD k d) ∧ ∀ i, i < sz → w.cell? ⟨b, off + k * sz + i, none⟩ = cs[i]?) := by
  rcases open_slice hu hf with ⟨hcs, _⟩ | ⟨a', l, c, m, n, D, Pl, hcs, _, hl, hm, hmm, _, hi⟩
  · simp at hcs
    exact ⟨none, 0, 0, [], hcs, by omega, by omega, rfl, fun h => absurd h (by omega)⟩
  · simp at hcs
    have hspot : 0 < l → a'.spot = none := fun hl0 => by
      obtain ⟨cs2, hc2, _⟩ := hi 0 (by rw [hmm]; split <;> omega)
      rw [hC] at hc2
      obtain ⟨_, hcl2, hat2⟩ := World.cells?_some hc2
      have h0 := hat2 0 (by omega)
      rw [List.getElem?_eq_getElem (by omega)] at h0
      simpa [Addr.add] using World.cell?_spot h0
    have hall : ∀ k, ∃ p : List Value × α, k < l → p.1.length = sz ∧ K p.1 p.2 ∧ ∃ b off, a' = ⟨b, off, none⟩ ∧ b < w.heap.size ∧ ∀ i, i < sz → w.cell? ⟨b, off + k * sz + i, none⟩ = p.1[i]? := by
      intro k
      by_cases hk : k < l
      · obtain ⟨cs', hc, ht⟩ := hi k (by rw [hmm]; split <;> omega)
        rw [hC] at hc
        obtain ⟨_, hcl, hat⟩ := World.cells?_some hc
        obtain ⟨y, hy⟩ := hK _ _ _ hcl ht
        have hs := hspot (by omega)
        obtain ⟨b, off, spot⟩ := a'
        simp only at hs
        subst hs
        refine ⟨(cs', y), fun _ => ⟨hcl, hy, b, off, rfl, ?_, fun i hi' => ?_⟩⟩
        · have h0 := hat 0 hsz
          rw [List.getElem?_eq_getElem (by omega)] at h0
          simp only [aq_plus] at h0
          exact World.block_lt_of_cell? _ _ h0
        · have h0 := hat i hi'
          simp only [aq_plus] at h0
          exact h0
      · exact ⟨([], d), fun h => absurd h hk⟩
    obtain ⟨p, hp⟩ := Classical.skolem.1 hall
    refine ⟨_, l, c, (List.range l).map fun k => (p k).2, hcs, hl, by unfold maxLen at hm; omega, by simp, fun hn => ?_⟩
    obtain ⟨_, _, b, off, rfl, hb, _⟩ := hp 0 hn
    refine ⟨b, off, rfl, hb, fun k hk => ?_⟩
    obtain ⟨h1, h2, b', off', e, _, h3⟩ := hp k hk
    simp only [Addr.mk.injEq] at e
    obtain ⟨rfl, rfl, _⟩ := e
    exact ⟨(p k).1, h1, by simpa [List.getD, hk] using h2, h3⟩
end Go.Proofs.YtjjodfdmbiebnaaDoor
