/- Layer 6: whether a number is a tile's. -/
import Derived.Test.YtjjodfdmbiebnaaDoorGra
namespace Go.Proofs.YtjjodfdmbiebnaaDoor
open Go.RowKit
set_option linter.unusedVariables false
theorem bcellg {W w1 : World} (hb : Below W.heap.size W w1) : (∀ b o, b < W.heap.size → w1.cell? ⟨b, o, none⟩ = W.cell? ⟨b, o, none⟩) ∧ (∀ b o, b < W.heap.size → w1.frozen? ⟨b, o, none⟩ = W.frozen? ⟨b, o, none⟩) :=
  ⟨fun b o h => hb.cell (p := ⟨b, o, none⟩) h, fun b o h => hb.frozen (p := ⟨b, o, none⟩) h⟩
def ctE (W H : Int) (n : Nat) (xs : List Int) (t : Int) : Int := if gB W H n xs = true then (if 0 ≤ t ∧ t < W * H then 0 else 3) else 1
theorem ctE_yes {W H t : Int} {n : Nat} {xs : List Int} (g : GOk W H n xs) (h0 : 0 ≤ t) (h1 : t < W * H) : ctE W H n xs t = 0 := by unfold ctE; rw [if_pos (gB_yes g), if_pos ⟨h0, h1⟩]
theorem ctE_none {W H t : Int} {n : Nat} {xs : List Int} (g : GOk W H n xs) (h : ¬ (0 ≤ t ∧ t < W * H)) : ctE W H n xs t = 3 := by unfold ctE; rw [if_pos (gB_yes g), if_neg h]
theorem ctE_form {W H t : Int} {n : Nat} {xs : List Int} (g : ¬ GOk W H n xs) : ctE W H n xs t = 1 := by unfold ctE; rw [if_neg (by rw [gB_no g]; decide)]
theorem ct_any (t : Int) (W H : Int) (a : Option Addr) (n c B : Nat) (xs : List Int) (w : World) (h : By w B a n xs) (hB : B ≤ w.heap.size) (hn : n ≤ 140737488355328) :
    Calls Tryd.prog 51 #[.agg #[.int .i64 W, .int .i64 H, .slice a n c], .int .i64 t] w fun e' w' => e' = .returned (.int .i64 (ctE W H n xs t)) ∧ Below w.heap.size w w' := by
  have HH := Hk.mk (h.alloc hB (.cells #[.int .i64 W, .int .i64 H, .slice a n c] 24))
  have hB' : B ≤ (w.alloc (.cells #[.int .i64 W, .int .i64 H, .slice a n c] 24)).heap.size := by simp; omega
  by_cases g : GOk W H n xs
  · obtain ⟨m1, m2⟩ := mul_bd g.w1 g.w2 g.h1 g.h2
    have EQ : Hk (gE W H n xs = 0) := ⟨gE_yes g⟩
    have GG := Hk.mk g
    clear h g
    by_cases t0 : t < 0
    · have R := Hk.mk (ctE_none (t := t) GG.out (by omega))
      have b1 : decide (t < 0) = true := by simp; omega
      go_enter Tryd.func51, Tryd.ntmps51
      go_wp2_with (go_at_call 15; (with_reducible refine (check_as 0 W H a n c B xs _ HH.out hB' hn EQ).mono ?_); rintro e w1 ⟨rfl, hb1⟩; obtain ⟨hc1, hf1⟩ := bcellg hb1; have hz1 := hb1.size; simp at hz1; have HB1 := Hk.mk hb1; clear hb1)
      go_ret
      exact ⟨ri R.out.symm, ((Below.refl _ _).alloc (Nat.le_refl _) _).trans (HB1.out.mono (by simp))⟩
    · have b1 : decide (t < 0) = false := by simp; omega
      by_cases t1 : W * H ≤ t
      · have R := Hk.mk (ctE_none (t := t) GG.out (by omega))
        have b2 : decide (W * H ≤ t) = true := by simp; omega
        go_enter Tryd.func51, Tryd.ntmps51
        go_wp2_with (go_at_call 15; (with_reducible refine (check_as 0 W H a n c B xs _ HH.out hB' hn EQ).mono ?_); rintro e w1 ⟨rfl, hb1⟩; obtain ⟨hc1, hf1⟩ := bcellg hb1; have hz1 := hb1.size; simp at hz1; have HB1 := Hk.mk hb1; clear hb1)
        go_ret
        exact ⟨ri R.out.symm, ((Below.refl _ _).alloc (Nat.le_refl _) _).trans (HB1.out.mono (by simp))⟩
      · have R := Hk.mk (ctE_yes (t := t) GG.out (by omega) (by omega))
        have b2 : decide (W * H ≤ t) = false := by simp; omega
        go_enter Tryd.func51, Tryd.ntmps51
        go_wp2_with (go_at_call 15; (with_reducible refine (check_as 0 W H a n c B xs _ HH.out hB' hn EQ).mono ?_); rintro e w1 ⟨rfl, hb1⟩; obtain ⟨hc1, hf1⟩ := bcellg hb1; have hz1 := hb1.size; simp at hz1; have HB1 := Hk.mk hb1; clear hb1)
        go_ret
        exact ⟨ri R.out.symm, ((Below.refl _ _).alloc (Nat.le_refl _) _).trans (HB1.out.mono (by simp))⟩
  · have EQ : Hk (gE W H n xs = 1) := ⟨gE_no g⟩
    have R := Hk.mk (ctE_form (t := t) g)
    clear h g
    go_enter Tryd.func51, Tryd.ntmps51
    go_wp2_with (go_at_call 15; (with_reducible refine (check_as 1 W H a n c B xs _ HH.out hB' hn EQ).mono ?_); rintro e w1 ⟨rfl, hb1⟩; obtain ⟨hc1, hf1⟩ := bcellg hb1; have hz1 := hb1.size; simp at hz1; have HB1 := Hk.mk hb1; clear hb1)
    go_ret
    exact ⟨ri R.out.symm, ((Below.refl _ _).alloc (Nat.le_refl _) _).trans (HB1.out.mono (by simp))⟩
theorem ct_as (e t : Int) (W H : Int) (a : Option Addr) (n c B : Nat) (xs : List Int) (w : World) (h : By w B a n xs) (hB : B ≤ w.heap.size) (hn : n ≤ 140737488355328) (E : Hk (ctE W H n xs t = e)) :
    Calls Tryd.prog 51 #[.agg #[.int .i64 W, .int .i64 H, .slice a n c], .int .i64 t] w fun e' w' => e' = .returned (.int .i64 e) ∧ Below w.heap.size w w' := by
  obtain ⟨rfl⟩ := E; exact ct_any t W H a n c B xs w h hB hn
end Go.Proofs.YtjjodfdmbiebnaaDoor
