/- Slices of ways: what it means that one reads as two rows of numbers. -/
import Derived.Test.YtkffleclofkjmaaAsk2
namespace Go.Proofs.Ytkffleclofkjmaa
open Go.ChangeShapes Go.WideShapes Go.ChangeAt Go.RowKit Go.Deep
set_option linter.unusedVariables false
/-- The slice's n elements are the ways (f k, g k). -/
structure Vs (w : World) (B : Nat) (a : Option Addr) (n : Nat) (f g : Nat → Int) : Prop where
  num : ∀ k, k < n → Fx.I64 (f k) ∧ Fx.I64 (g k)
  rd : 0 < n → ∃ b off, a = some ⟨b, off, none⟩ ∧ b < B ∧ ∀ k, k < n → w.cell? ⟨b, off + k * 2, none⟩ = some (.int .i64 (f k)) ∧ w.cell? ⟨b, off + k * 2 + 1, none⟩ = some (.int .i64 (g k))
theorem Vs.nil (w : World) (B : Nat) (a : Option Addr) (f g : Nat → Int) : Vs w B a 0 f g := ⟨fun k h => absurd h (by omega), fun h => absurd h (by omega)⟩
theorem Vs.below {w w' : World} {B B' n : Nat} {a : Option Addr} {f g : Nat → Int} (h : Vs w B a n f g) (hb : Below B' w w') (hB : B ≤ B') : Vs w' B a n f g := ⟨h.num, fun hn => by
  obtain ⟨b, off, e, hlt, hc⟩ := h.rd hn
  exact ⟨b, off, e, hlt, fun k hk => ⟨(hb.cell (p := ⟨b, off + k * 2, none⟩) (Nat.lt_of_lt_of_le hlt hB)).trans (hc k hk).1, (hb.cell (p := ⟨b, off + k * 2 + 1, none⟩) (Nat.lt_of_lt_of_le hlt hB)).trans (hc k hk).2⟩⟩⟩
theorem Vs.mono {w : World} {B B' n : Nat} {a : Option Addr} {f g : Nat → Int} (h : Vs w B a n f g) (hB : B ≤ B') : Vs w B' a n f g := ⟨h.num, fun hn => by
  obtain ⟨b, off, e, hlt, hc⟩ := h.rd hn
  exact ⟨b, off, e, by omega, hc⟩⟩
end Go.Proofs.Ytkffleclofkjmaa
