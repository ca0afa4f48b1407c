/- Layer 22: what the statements call beside. -/
import Derived.Test.YtkffleclofkjmaaCmr
import Derived.Test.YtkffleclofkjmaaAsk22
namespace Go.Proofs.Ytkffleclofkjmaa
open Go.RowKit
set_option linter.unusedVariables false
theorem lawnum22_any (n : Int) (w : World) : Calls Try.prog 17 #[.int .i64 n] w fun e w' => e = .returned (.int .i64 n) ∧ w = w' := by
  go_enter Try.func17, Try.ntmps17
  go_wp2
  go_ret
  exact ⟨rfl, rfl⟩
theorem heavy22_as (r : Bool) (p s k n : Int) (a : Option Addr) (m c : Nat) (t wd h x y : Int) (ax : Option Addr) (nx cx : Nat) (w : World) (E : Hk (decide (300 < m ∨ 3000 < nx) = r)) :
    Calls Try.prog 13 #[.agg #[.int .i64 p, .int .i64 s, .int .i64 k, .int .i64 n, .slice a m c, .int .i64 t, .int .i64 wd, .int .i64 h, .int .i64 x, .int .i64 y, .slice ax nx cx]] w fun e w' => e = .returned (.bool r) ∧ Below w.heap.size w w' := by
  by_cases h1 : 300 < m
  · have b0 : decide ((300 : Int) < (m : Int)) = true := by simp; omega
    have R : Hk (true = r) := ⟨by rw [← E.out]; simp; omega⟩
    clear E h1
    go_enter Try.func13, Try.ntmps13
    go_wp2
    go_ret
    exact ⟨rb R.out, (Below.refl _ _).alloc (Nat.le_refl _) _⟩
  have b0 : decide ((300 : Int) < (m : Int)) = false := by simp; omega
  by_cases h2 : 3000 < nx
  · have b1 : decide ((3000 : Int) < (nx : Int)) = true := by simp; omega
    have R : Hk (true = r) := ⟨by rw [← E.out]; simp; omega⟩
    clear E h1 h2
    go_enter Try.func13, Try.ntmps13
    go_wp2
    go_ret
    exact ⟨rb R.out, (Below.refl _ _).alloc (Nat.le_refl _) _⟩
  · have b1 : decide ((3000 : Int) < (nx : Int)) = false := by simp; omega
    have R : Hk (false = r) := ⟨by rw [← E.out]; simp; omega⟩
    clear E h1 h2
    go_enter Try.func13, Try.ntmps13
    go_wp2
    go_ret
    exact ⟨rb R.out, (Below.refl _ _).alloc (Nat.le_refl _) _⟩
theorem wk_bytes : bytesC 1 2 3 ⟨0, [5], 0, 0, 0, 0, 0⟩ = [3, 1, 2, 1, 5] := by
  simp [bytesC, partsL, wrB, uL, Wr.numL_low]
theorem wk_byt : ∀ b ∈ ([3, 1, 2, 1, 5] : List Int), Fn.Byt b := by
  intro b hb
  simp at hb
  unfold Fn.Byt; omega
theorem wakes22_any (w : World) : Calls Try.prog 22 #[] w fun e w' => e = .returned (.bool true) ∧ Below w.heap.size w w' := by
  have E : Hk (okC 1 2 3 ⟨0, [5], 0, 0, 0, 0, 0⟩ = true) := ⟨by decide⟩
  have HQ := Hk.mk (lit1 w 5 3)
  have HB := Hk.mk (bytes22_yes 1 2 3 0 (some ⟨w.heap.size, 0, none⟩) 1 1 [5] 0 0 0 0 0 _ HQ.out (by omega) E)
  rw [wk_bytes] at HB
  go_enter Try.func22, Try.ntmps22
  go_wp2_with (first | (go_at_call 15; refine HB.out.mono ?_; rintro e w1 ⟨v, rfl, ho, hb⟩; obtain ⟨a, c, rfl, hnc, hby, hfr⟩ := ho.by_; have HY := Hk.mk hby; have HB1 := Hk.mk hb; clear hfr ho hby hb) | (go_at_call 17; (with_reducible refine (lawnum22_any _ _).mono ?_); rintro e w' ⟨rfl, rfl⟩) | (go_at_call 19; refine (eqb_yes _ _ 5 _ _ [3, 1, 2, 1, 5] _ ?_ ?_ (by omega)).mono ?_; exact (HY.out.alloc (Nat.le_refl _) _).mono (by simp); exact By.lit _ [3, 1, 2, 1, 5] _ _ _ 5 rfl wk_byt (by simp); rintro e w' ⟨rfl, m, rfl⟩))
  go_ret
  exact ⟨rfl, below_drewN ((((Below.refl _ _).alloc (Nat.le_refl _) _).trans (HB1.out.mono (by simp))).alloc (by have := HB1.out.size; simp at this; omega) _) m⟩
end Go.Proofs.Ytkffleclofkjmaa
