/- Layer 7: the reference's Parse by name; how many tiles are read. -/
import Derived.Test.YtmkehmeoglpkeaaMpj
import Derived.Test.YtmkehmeoglpkeaaMph
namespace Go.Proofs.Ytmkehmeoglpkeaa
open Go.RowKit
set_option linter.unusedVariables false
theorem rmparse_as (W H : Int) (ts : List Int) (e : Int) (a : Option Addr) (n c : Nat) (xs : List Int) (w : World) (h : By w w.heap.size a n xs) (hnc : n ≤ c) (hcm : c ≤ 9223372036854775807) (hnm : n ≤ 1099511627776) (han : a = none → c = 0) (E : Hk (mapS xs = (W, H, ts, e))) :
    Calls Try.prog 18 #[.slice a n c] w fun o w' => ∃ a2 c2, o = .returned (.tuple #[.agg #[.int .i64 W, .int .i64 H, .slice a2 ts.length c2], .int .i64 e]) ∧ OwnB w' w.heap.size (.slice a2 ts.length c2) ts.length ts ∧ Below w.heap.size w w' :=
  (rmparse_any a n c xs w h hnc hcm hnm han).mono fun o w' ⟨hb, W1, H1, ts1, e1, a2, N, c2, hm, ho, hw⟩ => by
    have h9 := E.out.symm.trans hm
    simp only [Prod.mk.injEq] at h9
    obtain ⟨rfl, rfl, rfl, rfl⟩ := h9
    have hn := hw.1
    rw [hn]
    exact ⟨a2, c2, ho, hw, hb⟩
theorem mapS_len {xs : List Int} {W H e : Int} {ts : List Int} (h : mapS xs = (W, H, ts, e)) : ts.length ≤ 16384 := by
  unfold mapS at h
  obtain ⟨s, hs⟩ : ∃ s, signS xs [84, 71] 0 0 = s := ⟨_, rfl⟩
  obtain ⟨W1, a1, e1⟩ : Int × Nat × Int := rdV false xs 1 128 s.1 s.2
  simp only [hs] at h
  obtain ⟨r1, hr1⟩ : ∃ r, rdV false xs 1 128 s.1 s.2 = r := ⟨_, rfl⟩
  obtain ⟨W2, b1, c1⟩ := r1
  simp only [hr1] at h
  obtain ⟨r2, hr2⟩ : ∃ r, rdV false xs 1 128 b1 c1 = r := ⟨_, rfl⟩
  obtain ⟨H2, b2, c2⟩ := r2
  simp only [hr2] at h
  obtain ⟨w1, w2⟩ := rdV_side hr1
  obtain ⟨h1, h2⟩ := rdV_side hr2
  have hm0 : 0 ≤ W2 * H2 := Int.mul_nonneg w1 h1
  have hm1 : W2 * H2 ≤ 128 * 128 := Int.mul_le_mul w2 h2 h1 (by omega)
  have hl := tileS_len xs (W2 * H2).toNat b2 c2
  split at h
  · simp only [Prod.mk.injEq] at h
    rw [← h.2.2.1]; simp
  · simp only [Prod.mk.injEq] at h
    rw [← h.2.2.1, hl]; omega
end Go.Proofs.Ytmkehmeoglpkeaa
