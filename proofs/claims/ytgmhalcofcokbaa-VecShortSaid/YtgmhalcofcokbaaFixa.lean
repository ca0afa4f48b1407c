/- The contracts of the simplest functions of packages fixed and wide and of the reference of layer 1: what each call answers, for all arguments. -/
import Derived.Test.YtgmhalcofcokbaaRows
import Derived.Test.YtgmhalcofcokbaaFx
import Derived.WalkKit
import Derived.WalkSpells
import Derived.WalkLawsBesides
namespace Go.Proofs.Ytgmhalcofcokbaa
open Go.RowKit
set_option linter.unusedVariables false

theorem bcell {W w1 : World} (hb : Below W.heap.size W w1) : (∀ b o, b < W.heap.size → w1.cell? ⟨b, o, none⟩ = W.cell? ⟨b, o, none⟩) ∧ (∀ b o, b < W.heap.size → w1.frozen? ⟨b, o, none⟩ = W.frozen? ⟨b, o, none⟩) :=
  ⟨fun b o h => hb.cell (p := ⟨b, o, none⟩) h, fun b o h => hb.frozen (p := ⟨b, o, none⟩) h⟩
theorem pair_kept {w1 w2 : World} {x y : Value} {t : TypeId} (hb : Below (w1.alloc (.cells #[x, y] t)).heap.size (w1.alloc (.cells #[x, y] t)) w2) :
    w2.cell? ⟨w1.heap.size, 0, none⟩ = some x ∧ w2.cell? ⟨w1.heap.size, 1, none⟩ = some y ∧ w2.frozen? ⟨w1.heap.size, 0, none⟩ = false ∧ w2.frozen? ⟨w1.heap.size, 1, none⟩ = false ∧ w1.heap.size < w2.heap.size := by
  have hs := hb.size
  refine ⟨(hb.cell (p := ⟨w1.heap.size, 0, none⟩) (by simp)).trans (by go_simp), (hb.cell (p := ⟨w1.heap.size, 1, none⟩) (by simp)).trans (by go_simp), (hb.frozen (p := ⟨w1.heap.size, 0, none⟩) (by simp)).trans (by go_simp), (hb.frozen (p := ⟨w1.heap.size, 1, none⟩) (by simp)).trans (by go_simp), ?_⟩
  simp at hs; omega
theorem two_twice {w : World} {g : Nat} {a b : Value} (c0 : w.cell? ⟨g, 0, none⟩ = some a) (c1 : w.cell? ⟨g, 1, none⟩ = some b) (X Y X' Y' : Value) :
    ((((w.setCell ⟨g, 0, none⟩ X).setCell ⟨g, 1, none⟩ Y).setCell ⟨g, 0, none⟩ X').setCell ⟨g, 1, none⟩ Y').cell? ⟨g, 1, none⟩ = some Y' := by
  have n1 : ∀ (w : World) (v : Value), (w.setCell ⟨g, 0, none⟩ v).cell? ⟨g, 1, none⟩ = w.cell? ⟨g, 1, none⟩ := fun w v => World.cell?_setCell_other _ _ _ _ (by simp)
  refine World.cell?_setCell_same _ _ _ (u := Y) ?_
  rw [n1]
  refine World.cell?_setCell_same _ _ _ (u := b) ?_
  rw [n1]
  exact c1
theorem counted_any (a : Int) (w : World) (h : Fx.I64 a) :
    Calls Try.prog 55 #[.int .i64 a] w fun e w' => e = .returned (.int .i64 (Fx.cnt a)) ∧ w = w' := by
  obtain ⟨h1, h2⟩ := h
  by_cases hc : a < -9223372036854775807
  · have hx : Fx.Hd (Fx.cnt a = -9223372036854775807) := ⟨by unfold Fx.cnt Fx.Most; rw [if_pos hc]⟩
    go_enter Try.func55, Try.ntmps55
    go_wp2
    go_ret
    exact ⟨Fx.ri hx.out.symm, rfl⟩
  · have hx : Fx.Hd (Fx.cnt a = a) := ⟨by unfold Fx.cnt Fx.Most; rw [if_neg hc]⟩
    go_enter Try.func55, Try.ntmps55
    go_wp2
    go_ret
    exact ⟨Fx.ri hx.out.symm, rfl⟩
theorem of_any (a : Int) (w : World) (h : Fx.I64 a) :
    Calls Try.prog 43 #[.int .i64 a] w fun e w' => e = .returned (.int .i64 (Fx.cnt a)) ∧ w = w' := by
  obtain ⟨h1, h2⟩ := h
  by_cases hc : a < -9223372036854775807
  · have hx : Fx.Hd (Fx.cnt a = -9223372036854775807) := ⟨by unfold Fx.cnt Fx.Most; rw [if_pos hc]⟩
    go_enter Try.func43, Try.ntmps43
    go_wp2
    go_ret
    exact ⟨Fx.ri hx.out.symm, rfl⟩
  · have hx : Fx.Hd (Fx.cnt a = a) := ⟨by unfold Fx.cnt Fx.Most; rw [if_neg hc]⟩
    go_enter Try.func43, Try.ntmps43
    go_wp2
    go_ret
    exact ⟨Fx.ri hx.out.symm, rfl⟩
theorem wless_any (a b c d : Int) (w : World) :
    Calls Try.prog 37 #[.agg #[.int .u64 a, .int .u64 b], .agg #[.int .u64 c, .int .u64 d]] w fun e w' => e = .returned (.bool (Fx.lessB a b c d)) ∧ Below w.heap.size w w' := by
  go_enter Try.func37, Try.ntmps37
  go_wp2
  all_goals
    go_ret
    exact ⟨Fx.rb (by simp [Fx.lessB, *] <;> omega), ((Below.refl _ _).alloc (Nat.le_refl _) _).alloc (by simp) _⟩
theorem rless_any (a b c d : Int) (w : World) :
    Calls Try.prog 44 #[.agg #[.int .u64 a, .int .u64 b], .agg #[.int .u64 c, .int .u64 d]] w fun e w' => e = .returned (.bool (Fx.lessB a b c d)) ∧ Below w.heap.size w w' := by
  go_enter Try.func44, Try.ntmps44
  go_wp2
  all_goals
    go_ret
    exact ⟨Fx.rb (by simp [Fx.lessB, *] <;> omega), ((Below.refl _ _).alloc (Nat.le_refl _) _).alloc (by simp) _⟩
theorem wmul_any (a b : Int) (w : World) (ha : 0 ≤ a) (ha' : a ≤ 18446744073709551615) (hb : 0 ≤ b) (hb' : b ≤ 18446744073709551615) :
    Calls Try.prog 38 #[.int .u64 a, .int .u64 b] w fun e w' => e = .returned (.agg #[.int .u64 (a * b / 18446744073709551616), .int .u64 (a * b % 18446744073709551616)]) ∧ Below w.heap.size w w' := by
  go_enter Try.func38, Try.ntmps38
  go_wp2
  refine bodyPost_ret (v := .agg #[.int .u64 (Fx.mHi a b), .int .u64 (Fx.mLo a b)]) (by simp [results, Try.results38, go_sem, Fx.mHi, Fx.mLo, Fx.mCr, Fx.mMid, Fx.mLow]) rfl ⟨?_, ?_⟩
  · rw [Fx.mHi_eq a b ha ha' hb hb', Fx.mLo_eq a b ha ha' hb hb']
  · exact (Below.refl _ _).alloc (Nat.le_refl _) _
theorem times_any (a b : Int) (w : World) (ha : 0 ≤ a) (ha' : a ≤ 18446744073709551615) (hb : 0 ≤ b) (hb' : b ≤ 18446744073709551615) :
    Calls Try.prog 45 #[.int .u64 a, .int .u64 b] w fun e w' => e = .returned (.agg #[.int .u64 (a * b / 18446744073709551616), .int .u64 (a * b % 18446744073709551616)]) ∧ Below w.heap.size w w' := by
  go_enter Try.func45, Try.ntmps45
  go_wp2
  refine bodyPost_ret (v := .agg #[.int .u64 (Fx.mHi a b), .int .u64 (Fx.mLo a b)]) (by simp [results, Try.results45, go_sem, Fx.mHi, Fx.mLo, Fx.mCr, Fx.mMid, Fx.mLow]) rfl ⟨?_, ?_⟩
  · rw [Fx.mHi_eq a b ha ha' hb hb', Fx.mLo_eq a b ha ha' hb hb']
  · exact (Below.refl _ _).alloc (Nat.le_refl _) _
theorem wadd_any (a b c d : Int) (w : World) (ha : 0 ≤ a) (hb : 0 ≤ b) (hc : 0 ≤ c) (hd : 0 ≤ d) (hb' : b ≤ 18446744073709551615) (hd' : d ≤ 18446744073709551615) (hs : a + c < 18446744073709551615) :
    Calls Try.prog 49 #[.agg #[.int .u64 a, .int .u64 b], .agg #[.int .u64 c, .int .u64 d]] w fun e w' => e = .returned (.agg #[.int .u64 (a + c + (b + d) / 18446744073709551616), .int .u64 ((b + d) % 18446744073709551616)]) ∧ Below w.heap.size w w' := by
  go_enter Try.func49, Try.ntmps49
  go_wp2
  · rename_i hl
    refine bodyPost_ret (v := .agg #[.int .u64 (a + c + 1), .int .u64 (IntKind.u64.wrap (b + d))]) (by simp [results, Try.results49, go_sem]) rfl ⟨?_, ?_⟩
    · rw [Fx.wrapu] at hl ⊢
      rw [show a + c + (b + d) / 18446744073709551616 = a + c + 1 by omega]
    · exact ((((Below.refl _ _).alloc (Nat.le_refl _) _).alloc (by simp) _).alloc (by simp; omega) _).alloc (by simp; omega) _
  · rename_i hl
    refine bodyPost_ret (v := .agg #[.int .u64 (a + c), .int .u64 (IntKind.u64.wrap (b + d))]) (by simp [results, Try.results49, go_sem]) rfl ⟨?_, ?_⟩
    · rw [Fx.wrapu] at hl ⊢
      rw [show a + c + (b + d) / 18446744073709551616 = a + c by omega]
    · exact ((((Below.refl _ _).alloc (Nat.le_refl _) _).alloc (by simp) _).alloc (by simp; omega) _).alloc (by simp; omega) _
end Go.Proofs.Ytgmhalcofcokbaa
