/- The contracts of what is made shorter, for every number. -/
import Derived.Test.YtgmhalcofcokbaaVecl
namespace Go.Proofs.Ytgmhalcofcokbaa
open Go.RowKit
set_option linter.unusedVariables false
theorem Fx.clamp_cases (a b k : Int) :
    (k < 0 ∧ Fx.lenS a b ≤ 0 ∧ Fx.clampX a b k = Fx.cnt a ∧ Fx.clampY a b k = Fx.cnt b) ∨ (0 ≤ k ∧ Fx.lenS a b ≤ k ∧ Fx.clampX a b k = Fx.cnt a ∧ Fx.clampY a b k = Fx.cnt b) ∨
    (k < 0 ∧ 0 < Fx.lenS a b ∧ Fx.clampX a b k = Fx.partS a 0 (Fx.lenS a b) ∧ Fx.clampY a b k = Fx.partS b 0 (Fx.lenS a b)) ∨ (0 ≤ k ∧ k < Fx.lenS a b ∧ Fx.clampX a b k = Fx.partS a k (Fx.lenS a b) ∧ Fx.clampY a b k = Fx.partS b k (Fx.lenS a b)) := by
  unfold Fx.clampX Fx.clampY Fx.most0
  by_cases hk : k < 0
  · rw [if_pos hk]
    by_cases hl : Fx.lenS a b ≤ 0
    · left; rw [if_pos hl, if_pos hl]; exact ⟨hk, hl, rfl, rfl⟩
    · right; right; left; rw [if_neg hl, if_neg hl]; exact ⟨hk, by omega, rfl, rfl⟩
  · rw [if_neg hk]
    by_cases hl : Fx.lenS a b ≤ k
    · right; left; rw [if_pos hl, if_pos hl]; exact ⟨by omega, hl, rfl, rfl⟩
    · right; right; right; rw [if_neg hl, if_neg hl]; exact ⟨by omega, by omega, rfl, rfl⟩
theorem clamp_any (a b k : Int) (w : World) (ha : Fx.I64 a) (hb : Fx.I64 b) (hk : Fx.I64 k) :
    Calls Try.prog 7 #[.agg #[.int .i64 a, .int .i64 b], .int .i64 k] w fun e w' => e = .returned (.agg #[.int .i64 (Fx.clampX a b k), .int .i64 (Fx.clampY a b k)]) ∧ Below w.heap.size w w' := by
  rcases Fx.clamp_cases a b k with ⟨h1, h2, h3, h4⟩ | ⟨h1, h2, h3, h4⟩ | ⟨h1, h2, h3, h4⟩ | ⟨h1, h2, h3, h4⟩
  · exact clamp_in_any a b k 0 _ _ w ha hb hk (.inl ⟨h1, rfl⟩) h2 ⟨h3⟩ ⟨h4⟩
  · exact clamp_in_any a b k k _ _ w ha hb hk (.inr ⟨h1, rfl⟩) h2 ⟨h3⟩ ⟨h4⟩
  · exact clamp_out_any a b k 0 _ _ w ha hb hk (.inl ⟨h1, rfl⟩) h2 ⟨h3⟩ ⟨h4⟩
  · exact clamp_out_any a b k k _ _ w ha hb hk (.inr ⟨h1, rfl⟩) h2 ⟨h3⟩ ⟨h4⟩
/-- A call that makes memory leaves three cells of the argument as they were. -/
theorem held3c {P : Program} {F : FuncId} {args : Array Value} {w w0 : World} {r : Ending} {b o1 o2 o3 : Nat} {x y z : Value} (h : Calls P F args w fun e w' => e = r ∧ Below w.heap.size w w')
    (hB : Below w0.heap.size w0 w) (hbl : b < w0.heap.size) (d0 : w.cell? ⟨b, o1, none⟩ = some x) (d1 : w.cell? ⟨b, o2, none⟩ = some y) (d2 : w.cell? ⟨b, o3, none⟩ = some z) :
    Calls P F args w fun e w' => e = r ∧ w'.cell? ⟨b, o1, none⟩ = some x ∧ w'.cell? ⟨b, o2, none⟩ = some y ∧ w'.cell? ⟨b, o3, none⟩ = some z ∧ Below w0.heap.size w0 w' :=
  h.mono fun e w' ⟨h1, h2⟩ => ⟨h1, (h2.cell (p := ⟨b, o1, none⟩) (Nat.lt_of_lt_of_le hbl hB.size)).trans d0, (h2.cell (p := ⟨b, o2, none⟩) (Nat.lt_of_lt_of_le hbl hB.size)).trans d1, (h2.cell (p := ⟨b, o3, none⟩) (Nat.lt_of_lt_of_le hbl hB.size)).trans d2, hB.trans (h2.mono hB.size)⟩
end Go.Proofs.Ytgmhalcofcokbaa
