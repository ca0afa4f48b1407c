/- Slices of numbers: what is known of them. -/
import Derived.Test.YtjjodfdmbiebnaaDoorByb
namespace Go.Proofs.YtjjodfdmbiebnaaDoor
open Go.ChangeShapes Go.WideShapes Go.ChangeAt Go.RowKit Go.Deep
set_option linter.unusedVariables false
/-- The slice reads as these numbers. -/
structure Nq (w : World) (B : Nat) (a : Option Addr) (n : Nat) (xs : List Int) : Prop where
  len : xs.length = n
  rd : 0 < n → ∃ b off, a = some ⟨b, off, none⟩ ∧ b < B ∧ ∀ k, k < n → w.cell? ⟨b, off + k, none⟩ = some (.int .i64 (xs.getD k 0))
theorem Nq.below {w w' : World} {B B' n : Nat} {a : Option Addr} {xs : List Int} (h : Nq w B a n xs) (hb : Below B' w w') (hB : B ≤ B') : Nq w' B a n xs := ⟨h.len, fun hn => by
  obtain ⟨b, off, e, hlt, hc⟩ := h.rd hn
  exact ⟨b, off, e, hlt, fun k hk => (hb.cell (p := ⟨b, off + k, none⟩) (Nat.lt_of_lt_of_le hlt hB)).trans (hc k hk)⟩⟩
theorem Nq.mono {w : World} {B B' n : Nat} {a : Option Addr} {xs : List Int} (h : Nq w B a n xs) (hB : B ≤ B') : Nq w B' a n xs := ⟨h.len, fun hn => by
  obtain ⟨b, off, e, hlt, hc⟩ := h.rd hn
  exact ⟨b, off, e, by omega, hc⟩⟩
theorem Nq.drewN {w : World} {B n : Nat} {a : Option Addr} {xs : List Int} (h : Nq w B a n xs) (m : Nat) : Nq (w.drewN m) B a n xs := ⟨h.len, h.rd⟩
theorem Nq.nil (w : World) (B : Nat) (a : Option Addr) : Nq w B a 0 [] := ⟨rfl, fun h => absurd h (by omega)⟩
theorem aq_plus {b off : Nat} (j : Nat) : (⟨b, off, none⟩ : Addr).add j = ⟨b, off + j, none⟩ := by
  unfold Addr.add; split <;> simp_all
theorem nq_of {H : Type} {enc : TypeId × Value → H} {w : World} {base : Nat} {spare : Nat → Bool} {held : Bool} {fuel : Nat} {x : DataW H × List MemPlace} {v : Value}
    (hf : DataW.trod enc Tryd.prog w base spare held fuel 25 [v] = some x) : ∃ a0 len0 cap0 xs, v = .slice a0 len0 cap0 ∧ len0 ≤ 9223372036854775807 ∧ Nq w w.heap.size a0 len0 xs := by
  rcases open_ints Tryd.underlying25 Tryd.underlying3 (by kernel_rfl) hf with ⟨hcs, _⟩ | ⟨a, l, c, zs, hcs, _, hl, hm, hz, _, hc, hwf⟩
  · simp at hcs; subst hcs
    exact ⟨none, 0, 0, [], rfl, by omega, rfl, fun h => absurd h (by omega)⟩
  · simp at hcs; subst hcs
    have hzl : l ≤ zs.length := by rw [hz]; split <;> omega
    refine ⟨_, _, _, zs.take l, rfl, by unfold maxLen at hm; omega, by simp; omega, fun hn => ?_⟩
    obtain ⟨b, off, spot⟩ := a
    have hs : spot = none := by
      have h0 := World.cell?_spot (hc 0 (by omega))
      simpa [Addr.add] using h0
    subst hs
    refine ⟨b, off, rfl, ?_, fun k hk => ?_⟩
    · have := hc 0 (by omega); rw [aq_plus] at this; exact World.block_lt_of_cell? _ _ this
    · have := hc k (by omega)
      rw [aq_plus] at this
      rw [this]
      simp [List.getD, hk]
end Go.Proofs.YtjjodfdmbiebnaaDoor
