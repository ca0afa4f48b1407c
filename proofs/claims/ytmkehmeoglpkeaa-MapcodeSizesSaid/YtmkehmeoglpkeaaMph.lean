/- Layer 7: what wakes. -/
import Derived.Test.YtmkehmeoglpkeaaMpg
import Derived.Test.YtmkehmeoglpkeaaAsk7
namespace Go.Proofs.Ytmkehmeoglpkeaa
open Go.RowKit
set_option linter.unusedVariables false
theorem mapL13 : (Mp.mapL 1 1 [2]).length = 13 := by rw [mapL_one]; simp [Mp.eight_len]
theorem mapS13 : mapS (Mp.mapL 1 1 [2]) = (1, 1, [2], 0) := by
  have h1 := mapS_back (W := 1) (H := 1) (ts := [2]) (by omega) (by omega) (by omega) (by omega) (by simp) (by simp) []
  simpa using h1
theorem gok13 : GOk 1 1 1 [2] := ⟨by omega, by omega, by omega, by omega, by simp, by simp⟩
theorem mapL_bd {W H : Int} {n : Nat} {xs : List Int} (g : GOk W H n xs) (hn : xs.length ≤ n) : (Mp.mapL W H xs).length ≤ 1099511627776 := by
  have h1 := Wr.numL_nine (n := W.toNat) (by have := g.w2; omega)
  have h2 := Wr.numL_nine (n := H.toNat) (by have := g.h2; omega)
  have h3 := mul_bd g.w1 g.w2 g.h1 g.h2
  have h4 := g.nn
  unfold Mp.mapL
  rw [List.length_append, Mp.eight_len, mapB_len]
  omega
/-- What Parse leaves, by name. -/
theorem mparse_as (W H : Int) (ts : List Int) (e : Int) (a : Option Addr) (n c : Nat) (xs : List Int) (w : World) (h : By w w.heap.size a n xs) (hnc : n ≤ c) (hcm : c ≤ 9223372036854775807) (hnm : n ≤ 1099511627776) (han : a = none → c = 0) (E : Hk (mapS xs = (W, H, ts, e))) :
    Calls Try.prog 17 #[.slice a n c] w fun o w' => ∃ a2 c2, o = .returned (.tuple #[.agg #[.int .i64 W, .int .i64 H, .slice a2 ts.length c2], .int .i64 e]) ∧ OwnB w' w.heap.size (.slice a2 ts.length c2) ts.length ts ∧ Below w.heap.size w w' :=
  (mparse_any a n c xs w h hnc hcm hnm han).mono fun o w' ⟨hb, W1, H1, ts1, e1, a2, N, c2, hm, ho, hw⟩ => by
    have h9 := E.out.symm.trans hm
    simp only [Prod.mk.injEq] at h9
    obtain ⟨rfl, rfl, rfl, rfl⟩ := h9
    have hn := hw.1
    rw [hn]
    exact ⟨a2, c2, ho, hw, hb⟩
set_option maxRecDepth 100000 in
theorem wakes7_any (w : World) : Calls Try.prog 15 #[] w fun e w' => e = .returned (.bool true) ∧ Below w.heap.size w w' := by
  have HG := Hk.mk gok13
  have HM := Hk.mk mapS13
  have HL := Hk.mk mapL13
  have HB : Hk (By (w.alloc (.cells #[.int .u8 2] 5)) (w.alloc (.cells #[.int .u8 2] 5)).heap.size (some ⟨w.heap.size, 0, none⟩) 1 [2]) := ⟨(byt_one w 2 5 (0, 0) (by unfold Fn.Byt; omega)).mono (by simp)⟩
  have HA : Hk (Below w.heap.size w (w.alloc (.cells #[.int .u8 2] 5))) := ⟨(Below.refl _ _).alloc (Nat.le_refl _) _⟩
  go_enter Try.func15, Try.ntmps15
  go_wp2_with (first | (go_at_call 9; (with_reducible refine (mbytes_yes 1 1 (some ⟨w.heap.size, 0, none⟩) 1 1 [2] _ HB.out ?_ HG).mono ?_); (intro e0; cases e0); rintro e w1 ⟨v1, rfl, ho1, hb1⟩; rw [HL.out] at ho1; obtain ⟨a1, c1, rfl, hc1, hby1, -⟩ := ho1.by_; have hm1 := ho1.capm; have HN1 := Hk.mk ho1.anm; have HY1 := Hk.mk hby1; have HB1 := Hk.mk (HA.out.trans (hb1.mono HA.out.size)); clear ho1 hb1 hby1) | (go_at_call 17; (with_reducible refine (mparse_as 1 1 [2] 0 a1 13 c1 (Mp.mapL 1 1 [2]) _ HY1.out hc1 hm1 (by omega) HN1.out HM).mono ?_); rintro o w2 ⟨a2, c2, rfl, ho2, hb2⟩; have HB2 := Hk.mk (HB1.out.trans (hb2.mono HB1.out.size)); clear ho2 hb2) | (go_at_call 11; (with_reducible refine (lawnum7_any _ _).mono ?_); rintro e w' ⟨rfl, rfl⟩))
  go_ret
  exact ⟨rfl, HB2.out.alloc HB2.out.size _⟩
end Go.Proofs.Ytmkehmeoglpkeaa
