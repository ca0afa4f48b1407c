import Derived.RegionTactic
import Derived.ChangeAlike
import Derived.BigRegion
import Derived.Test.YtmphmpfeeiipgaaZtb
/- Whether a command may be, by the reference. -/
namespace Go.Proofs.Ytmphmpfeeiipgaa
open Go.RowKit
set_option linter.unusedVariables false
set_option maxRecDepth 100000 in
set_option maxHeartbeats 3200000 in
theorem rcmd1 (r : Bool) (p s n : Int) (a : Option Addr) (m c : Nat) (u : List Int) (t wd h x y : Int) (w : World) (hN : Nq w w.heap.size a m u) (hm : m ≤ 1099511627776) (E : Hk (refC p s 1 ⟨n, u, t, wd, h, x, y⟩ = r)) :
    Calls Try.prog 38 #[.agg #[.int .i64 p, .int .i64 s, .int .i64 1, .int .i64 n, .slice a m c, .int .i64 t, .int .i64 wd, .int .i64 h, .int .i64 x, .int .i64 y]] w fun e w' => e = .returned (.bool r) ∧ Below w.heap.size w w' := by
  have HNA : Hk (∀ X, Below w.heap.size w X → Nq X X.heap.size a m u) := ⟨fun X hX => (hN.below hX (Nat.le_refl _)).mono hX.size⟩
  clear hN
  have HW0 : Hk (Below w.heap.size w ((w.alloc (.cells #[.int .i64 p, .int .i64 s, .int .i64 1, .int .i64 n, .slice a m c, .int .i64 t, .int .i64 wd, .int .i64 h, .int .i64 x, .int .i64 y] 58)).alloc (.cells #[.int .i64 p, .int .i64 s, .int .i64 1, .int .i64 0, .slice none 0 0, .int .i64 0, .int .i64 0, .int .i64 0, .int .i64 0, .int .i64 0] 58))) := ⟨((Below.refl _ _).alloc (Nat.le_refl _) _).alloc (by simp) _⟩
  by_cases g0 : ¬ (1 ≤ p)
  · have b0 : decide (1 ≤ p) = false := by simp; omega
    have R : Hk (false = r) := ⟨by rw [← E.out]; unfold refC baseB; simp; intros; omega⟩
    clear E
    go_enter Try.func38, Try.ntmps38
    go_wp2
    obtain ⟨c0, c1, c2, c3, c4, c5, c6, c7, c8, c9, cf⟩ := (CmB.box w p s 1 n a m c t wd h x y).below ((Below.refl _ _).alloc (Nat.le_refl _) (.cells #[.int .i64 p, .int .i64 s, .int .i64 1, .int .i64 0, .slice none 0 0, .int .i64 0, .int .i64 0, .int .i64 0, .int .i64 0, .int .i64 0] 58)) (by simp)
    obtain ⟨x0, x1, x2, x3, x4, x5, x6, x7, x8, x9, xf⟩ := CmB.box (w.alloc (.cells #[.int .i64 p, .int .i64 s, .int .i64 1, .int .i64 n, .slice a m c, .int .i64 t, .int .i64 wd, .int .i64 h, .int .i64 x, .int .i64 y] 58)) p s 1 0 none 0 0 0 0 0 0 0
    rw [show (w.alloc (.cells #[.int .i64 p, .int .i64 s, .int .i64 1, .int .i64 n, .slice a m c, .int .i64 t, .int .i64 wd, .int .i64 h, .int .i64 x, .int .i64 y] 58)).heap.size = w.heap.size + 1 by simp] at *
    have f3 := xf 3
    have f8 := xf 8
    have f9 := xf 9
    have hz : w.heap.size < ((w.alloc (.cells #[.int .i64 p, .int .i64 s, .int .i64 1, .int .i64 n, .slice a m c, .int .i64 t, .int .i64 wd, .int .i64 h, .int .i64 x, .int .i64 y] 58)).alloc (.cells #[.int .i64 p, .int .i64 s, .int .i64 1, .int .i64 0, .slice none 0 0, .int .i64 0, .int .i64 0, .int .i64 0, .int .i64 0, .int .i64 0] 58)).heap.size := by simp; omega
    have hz1 : w.heap.size + 1 < ((w.alloc (.cells #[.int .i64 p, .int .i64 s, .int .i64 1, .int .i64 n, .slice a m c, .int .i64 t, .int .i64 wd, .int .i64 h, .int .i64 x, .int .i64 y] 58)).alloc (.cells #[.int .i64 p, .int .i64 s, .int .i64 1, .int .i64 0, .slice none 0 0, .int .i64 0, .int .i64 0, .int .i64 0, .int .i64 0, .int .i64 0] 58)).heap.size := by simp
    have CF := Hk.mk cf
    have XF := Hk.mk xf
    clear cf xf
    generalize ((w.alloc (.cells #[.int .i64 p, .int .i64 s, .int .i64 1, .int .i64 n, .slice a m c, .int .i64 t, .int .i64 wd, .int .i64 h, .int .i64 x, .int .i64 y] 58)).alloc (.cells #[.int .i64 p, .int .i64 s, .int .i64 1, .int .i64 0, .slice none 0 0, .int .i64 0, .int .i64 0, .int .i64 0, .int .i64 0, .int .i64 0] 58)) = W0 at *
    go_region
    have HC : Hk (Below w.heap.size w (((W0.setCell ⟨w.heap.size + 1, 3, none⟩ (.int .i64 n)).setCell ⟨w.heap.size + 1, 8, none⟩ (.int .i64 x)).setCell ⟨w.heap.size + 1, 9, none⟩ (.int .i64 y)).drew) := ⟨Below.drew ((((HW0.out.setCell (p := ⟨w.heap.size + 1, 3, none⟩) (by simp) _).setCell (p := ⟨w.heap.size + 1, 8, none⟩) (by simp) _).setCell (p := ⟨w.heap.size + 1, 9, none⟩) (by simp) _))⟩
    have HCB : Hk (CmB (((W0.setCell ⟨w.heap.size + 1, 3, none⟩ (.int .i64 n)).setCell ⟨w.heap.size + 1, 8, none⟩ (.int .i64 x)).setCell ⟨w.heap.size + 1, 9, none⟩ (.int .i64 y)).drew w.heap.size p s 1 n a m c t wd h x y) := ⟨⟨by go_simp, by go_simp, by go_simp, by go_simp, by go_simp, by go_simp, by go_simp, by go_simp, by go_simp, by go_simp, fun j => by have := CF.out j; go_simp⟩⟩
    have HXB : Hk (CmB (((W0.setCell ⟨w.heap.size + 1, 3, none⟩ (.int .i64 n)).setCell ⟨w.heap.size + 1, 8, none⟩ (.int .i64 x)).setCell ⟨w.heap.size + 1, 9, none⟩ (.int .i64 y)).drew (w.heap.size + 1) p s 1 n none 0 0 0 0 0 x y) := ⟨⟨by go_simp, by go_simp, by go_simp, by go_simp, by go_simp, by go_simp, by go_simp, by go_simp, by go_simp, by go_simp, fun j => by have := XF.out j; go_simp⟩⟩
    have hy : w.heap.size < (((W0.setCell ⟨w.heap.size + 1, 3, none⟩ (.int .i64 n)).setCell ⟨w.heap.size + 1, 8, none⟩ (.int .i64 x)).setCell ⟨w.heap.size + 1, 9, none⟩ (.int .i64 y)).drew.heap.size := by simpa using hz
    have hy1 : w.heap.size + 1 < (((W0.setCell ⟨w.heap.size + 1, 3, none⟩ (.int .i64 n)).setCell ⟨w.heap.size + 1, 8, none⟩ (.int .i64 x)).setCell ⟨w.heap.size + 1, 9, none⟩ (.int .i64 y)).drew.heap.size := by simpa using hz1
    clear c0 c1 c2 c3 c4 c5 c6 c7 c8 c9 x0 x1 x2 x3 x4 x5 x6 x7 x8 x9 f3 f8 f9 CF XF hz hz1 HW0
    generalize (((W0.setCell ⟨w.heap.size + 1, 3, none⟩ (.int .i64 n)).setCell ⟨w.heap.size + 1, 8, none⟩ (.int .i64 x)).setCell ⟨w.heap.size + 1, 9, none⟩ (.int .i64 y)).drew = W1 at *
    obtain ⟨c0, c1, c2, c3, c4, c5, c6, c7, c8, c9, -⟩ := HCB.out
    obtain ⟨x0, x1, x2, x3, x4, x5, x6, x7, x8, x9, -⟩ := HXB.out
    go_wp2
    go_ret
    exact ⟨rb R.out, HC.out⟩
  have b0 : decide (1 ≤ p) = true := by simp; omega
  by_cases g1 : ¬ (p ≤ 8)
  · have b1 : decide (p ≤ 8) = false := by simp; omega
    have R : Hk (false = r) := ⟨by rw [← E.out]; unfold refC baseB; simp; intros; omega⟩
    clear E
    go_enter Try.func38, Try.ntmps38
    go_wp2
    obtain ⟨c0, c1, c2, c3, c4, c5, c6, c7, c8, c9, cf⟩ := (CmB.box w p s 1 n a m c t wd h x y).below ((Below.refl _ _).alloc (Nat.le_refl _) (.cells #[.int .i64 p, .int .i64 s, .int .i64 1, .int .i64 0, .slice none 0 0, .int .i64 0, .int .i64 0, .int .i64 0, .int .i64 0, .int .i64 0] 58)) (by simp)
    obtain ⟨x0, x1, x2, x3, x4, x5, x6, x7, x8, x9, xf⟩ := CmB.box (w.alloc (.cells #[.int .i64 p, .int .i64 s, .int .i64 1, .int .i64 n, .slice a m c, .int .i64 t, .int .i64 wd, .int .i64 h, .int .i64 x, .int .i64 y] 58)) p s 1 0 none 0 0 0 0 0 0 0
    rw [show (w.alloc (.cells #[.int .i64 p, .int .i64 s, .int .i64 1, .int .i64 n, .slice a m c, .int .i64 t, .int .i64 wd, .int .i64 h, .int .i64 x, .int .i64 y] 58)).heap.size = w.heap.size + 1 by simp] at *
    have f3 := xf 3
    have f8 := xf 8
    have f9 := xf 9
    have hz : w.heap.size < ((w.alloc (.cells #[.int .i64 p, .int .i64 s, .int .i64 1, .int .i64 n, .slice a m c, .int .i64 t, .int .i64 wd, .int .i64 h, .int .i64 x, .int .i64 y] 58)).alloc (.cells #[.int .i64 p, .int .i64 s, .int .i64 1, .int .i64 0, .slice none 0 0, .int .i64 0, .int .i64 0, .int .i64 0, .int .i64 0, .int .i64 0] 58)).heap.size := by simp; omega
    have hz1 : w.heap.size + 1 < ((w.alloc (.cells #[.int .i64 p, .int .i64 s, .int .i64 1, .int .i64 n, .slice a m c, .int .i64 t, .int .i64 wd, .int .i64 h, .int .i64 x, .int .i64 y] 58)).alloc (.cells #[.int .i64 p, .int .i64 s, .int .i64 1, .int .i64 0, .slice none 0 0, .int .i64 0, .int .i64 0, .int .i64 0, .int .i64 0, .int .i64 0] 58)).heap.size := by simp
    have CF := Hk.mk cf
    have XF := Hk.mk xf
    clear cf xf
    generalize ((w.alloc (.cells #[.int .i64 p, .int .i64 s, .int .i64 1, .int .i64 n, .slice a m c, .int .i64 t, .int .i64 wd, .int .i64 h, .int .i64 x, .int .i64 y] 58)).alloc (.cells #[.int .i64 p, .int .i64 s, .int .i64 1, .int .i64 0, .slice none 0 0, .int .i64 0, .int .i64 0, .int .i64 0, .int .i64 0, .int .i64 0] 58)) = W0 at *
    go_region
    have HC : Hk (Below w.heap.size w (((W0.setCell ⟨w.heap.size + 1, 3, none⟩ (.int .i64 n)).setCell ⟨w.heap.size + 1, 8, none⟩ (.int .i64 x)).setCell ⟨w.heap.size + 1, 9, none⟩ (.int .i64 y)).drew) := ⟨Below.drew ((((HW0.out.setCell (p := ⟨w.heap.size + 1, 3, none⟩) (by simp) _).setCell (p := ⟨w.heap.size + 1, 8, none⟩) (by simp) _).setCell (p := ⟨w.heap.size + 1, 9, none⟩) (by simp) _))⟩
    have HCB : Hk (CmB (((W0.setCell ⟨w.heap.size + 1, 3, none⟩ (.int .i64 n)).setCell ⟨w.heap.size + 1, 8, none⟩ (.int .i64 x)).setCell ⟨w.heap.size + 1, 9, none⟩ (.int .i64 y)).drew w.heap.size p s 1 n a m c t wd h x y) := ⟨⟨by go_simp, by go_simp, by go_simp, by go_simp, by go_simp, by go_simp, by go_simp, by go_simp, by go_simp, by go_simp, fun j => by have := CF.out j; go_simp⟩⟩
    have HXB : Hk (CmB (((W0.setCell ⟨w.heap.size + 1, 3, none⟩ (.int .i64 n)).setCell ⟨w.heap.size + 1, 8, none⟩ (.int .i64 x)).setCell ⟨w.heap.size + 1, 9, none⟩ (.int .i64 y)).drew (w.heap.size + 1) p s 1 n none 0 0 0 0 0 x y) := ⟨⟨by go_simp, by go_simp, by go_simp, by go_simp, by go_simp, by go_simp, by go_simp, by go_simp, by go_simp, by go_simp, fun j => by have := XF.out j; go_simp⟩⟩
    have hy : w.heap.size < (((W0.setCell ⟨w.heap.size + 1, 3, none⟩ (.int .i64 n)).setCell ⟨w.heap.size + 1, 8, none⟩ (.int .i64 x)).setCell ⟨w.heap.size + 1, 9, none⟩ (.int .i64 y)).drew.heap.size := by simpa using hz
    have hy1 : w.heap.size + 1 < (((W0.setCell ⟨w.heap.size + 1, 3, none⟩ (.int .i64 n)).setCell ⟨w.heap.size + 1, 8, none⟩ (.int .i64 x)).setCell ⟨w.heap.size + 1, 9, none⟩ (.int .i64 y)).drew.heap.size := by simpa using hz1
    clear c0 c1 c2 c3 c4 c5 c6 c7 c8 c9 x0 x1 x2 x3 x4 x5 x6 x7 x8 x9 f3 f8 f9 CF XF hz hz1 HW0
    generalize (((W0.setCell ⟨w.heap.size + 1, 3, none⟩ (.int .i64 n)).setCell ⟨w.heap.size + 1, 8, none⟩ (.int .i64 x)).setCell ⟨w.heap.size + 1, 9, none⟩ (.int .i64 y)).drew = W1 at *
    obtain ⟨c0, c1, c2, c3, c4, c5, c6, c7, c8, c9, -⟩ := HCB.out
    obtain ⟨x0, x1, x2, x3, x4, x5, x6, x7, x8, x9, -⟩ := HXB.out
    go_wp2
    go_ret
    exact ⟨rb R.out, HC.out⟩
  have b1 : decide (p ≤ 8) = true := by simp; omega
  cases e1 : decide (0 ≤ s ∧ s ≤ 1099511627776)
  case false =>
    have E1 := Hk.mk e1
    have R : Hk (false = r) := ⟨by rw [← E.out]; simp at e1; unfold refC baseB; simp; intros; omega⟩
    clear E e1
    go_enter Try.func38, Try.ntmps38
    go_wp2_with (go_at_call 37; (with_reducible refine (rnum22_as false s 1099511627776 _ E1).mono ?_); rintro e w' ⟨rfl, rfl⟩)
    obtain ⟨c0, c1, c2, c3, c4, c5, c6, c7, c8, c9, cf⟩ := (CmB.box w p s 1 n a m c t wd h x y).below ((Below.refl _ _).alloc (Nat.le_refl _) (.cells #[.int .i64 p, .int .i64 s, .int .i64 1, .int .i64 0, .slice none 0 0, .int .i64 0, .int .i64 0, .int .i64 0, .int .i64 0, .int .i64 0] 58)) (by simp)
    obtain ⟨x0, x1, x2, x3, x4, x5, x6, x7, x8, x9, xf⟩ := CmB.box (w.alloc (.cells #[.int .i64 p, .int .i64 s, .int .i64 1, .int .i64 n, .slice a m c, .int .i64 t, .int .i64 wd, .int .i64 h, .int .i64 x, .int .i64 y] 58)) p s 1 0 none 0 0 0 0 0 0 0
    rw [show (w.alloc (.cells #[.int .i64 p, .int .i64 s, .int .i64 1, .int .i64 n, .slice a m c, .int .i64 t, .int .i64 wd, .int .i64 h, .int .i64 x, .int .i64 y] 58)).heap.size = w.heap.size + 1 by simp] at *
    have f3 := xf 3
    have f8 := xf 8
    have f9 := xf 9
    have hz : w.heap.size < ((w.alloc (.cells #[.int .i64 p, .int .i64 s, .int .i64 1, .int .i64 n, .slice a m c, .int .i64 t, .int .i64 wd, .int .i64 h, .int .i64 x, .int .i64 y] 58)).alloc (.cells #[.int .i64 p, .int .i64 s, .int .i64 1, .int .i64 0, .slice none 0 0, .int .i64 0, .int .i64 0, .int .i64 0, .int .i64 0, .int .i64 0] 58)).heap.size := by simp; omega
    have hz1 : w.heap.size + 1 < ((w.alloc (.cells #[.int .i64 p, .int .i64 s, .int .i64 1, .int .i64 n, .slice a m c, .int .i64 t, .int .i64 wd, .int .i64 h, .int .i64 x, .int .i64 y] 58)).alloc (.cells #[.int .i64 p, .int .i64 s, .int .i64 1, .int .i64 0, .slice none 0 0, .int .i64 0, .int .i64 0, .int .i64 0, .int .i64 0, .int .i64 0] 58)).heap.size := by simp
    have CF := Hk.mk cf
    have XF := Hk.mk xf
    clear cf xf
    generalize ((w.alloc (.cells #[.int .i64 p, .int .i64 s, .int .i64 1, .int .i64 n, .slice a m c, .int .i64 t, .int .i64 wd, .int .i64 h, .int .i64 x, .int .i64 y] 58)).alloc (.cells #[.int .i64 p, .int .i64 s, .int .i64 1, .int .i64 0, .slice none 0 0, .int .i64 0, .int .i64 0, .int .i64 0, .int .i64 0, .int .i64 0] 58)) = W0 at *
    go_region
    have HC : Hk (Below w.heap.size w (((W0.setCell ⟨w.heap.size + 1, 3, none⟩ (.int .i64 n)).setCell ⟨w.heap.size + 1, 8, none⟩ (.int .i64 x)).setCell ⟨w.heap.size + 1, 9, none⟩ (.int .i64 y)).drew) := ⟨Below.drew ((((HW0.out.setCell (p := ⟨w.heap.size + 1, 3, none⟩) (by simp) _).setCell (p := ⟨w.heap.size + 1, 8, none⟩) (by simp) _).setCell (p := ⟨w.heap.size + 1, 9, none⟩) (by simp) _))⟩
    have HCB : Hk (CmB (((W0.setCell ⟨w.heap.size + 1, 3, none⟩ (.int .i64 n)).setCell ⟨w.heap.size + 1, 8, none⟩ (.int .i64 x)).setCell ⟨w.heap.size + 1, 9, none⟩ (.int .i64 y)).drew w.heap.size p s 1 n a m c t wd h x y) := ⟨⟨by go_simp, by go_simp, by go_simp, by go_simp, by go_simp, by go_simp, by go_simp, by go_simp, by go_simp, by go_simp, fun j => by have := CF.out j; go_simp⟩⟩
    have HXB : Hk (CmB (((W0.setCell ⟨w.heap.size + 1, 3, none⟩ (.int .i64 n)).setCell ⟨w.heap.size + 1, 8, none⟩ (.int .i64 x)).setCell ⟨w.heap.size + 1, 9, none⟩ (.int .i64 y)).drew (w.heap.size + 1) p s 1 n none 0 0 0 0 0 x y) := ⟨⟨by go_simp, by go_simp, by go_simp, by go_simp, by go_simp, by go_simp, by go_simp, by go_simp, by go_simp, by go_simp, fun j => by have := XF.out j; go_simp⟩⟩
    have hy : w.heap.size < (((W0.setCell ⟨w.heap.size + 1, 3, none⟩ (.int .i64 n)).setCell ⟨w.heap.size + 1, 8, none⟩ (.int .i64 x)).setCell ⟨w.heap.size + 1, 9, none⟩ (.int .i64 y)).drew.heap.size := by simpa using hz
    have hy1 : w.heap.size + 1 < (((W0.setCell ⟨w.heap.size + 1, 3, none⟩ (.int .i64 n)).setCell ⟨w.heap.size + 1, 8, none⟩ (.int .i64 x)).setCell ⟨w.heap.size + 1, 9, none⟩ (.int .i64 y)).drew.heap.size := by simpa using hz1
    clear c0 c1 c2 c3 c4 c5 c6 c7 c8 c9 x0 x1 x2 x3 x4 x5 x6 x7 x8 x9 f3 f8 f9 CF XF hz hz1 HW0
    generalize (((W0.setCell ⟨w.heap.size + 1, 3, none⟩ (.int .i64 n)).setCell ⟨w.heap.size + 1, 8, none⟩ (.int .i64 x)).setCell ⟨w.heap.size + 1, 9, none⟩ (.int .i64 y)).drew = W1 at *
    obtain ⟨c0, c1, c2, c3, c4, c5, c6, c7, c8, c9, -⟩ := HCB.out
    obtain ⟨x0, x1, x2, x3, x4, x5, x6, x7, x8, x9, -⟩ := HXB.out
    go_wp2
    go_ret
    exact ⟨rb R.out, HC.out⟩
  have E1 := Hk.mk e1
  have BB : Hk (baseB p s = true) := ⟨by simp at e1; unfold baseB; simp; omega⟩
  clear e1 g0 g1
  cases h0 : decide (0 ≤ n ∧ n ≤ 3)
  case false =>
    have R : Hk (false = r) := ⟨by rw [← E.out]; unfold refC; rw [BB.out]; simp at h0; simp [vB]; intros; omega⟩
    have F0 := Hk.mk h0
    clear E h0
    go_enter Try.func38, Try.ntmps38
    go_wp2_with (go_at_call 37; (with_reducible refine (rnum22_as true s 1099511627776 _ E1).mono ?_); rintro e w' ⟨rfl, rfl⟩)
    obtain ⟨c0, c1, c2, c3, c4, c5, c6, c7, c8, c9, cf⟩ := (CmB.box w p s 1 n a m c t wd h x y).below ((Below.refl _ _).alloc (Nat.le_refl _) (.cells #[.int .i64 p, .int .i64 s, .int .i64 1, .int .i64 0, .slice none 0 0, .int .i64 0, .int .i64 0, .int .i64 0, .int .i64 0, .int .i64 0] 58)) (by simp)
    obtain ⟨x0, x1, x2, x3, x4, x5, x6, x7, x8, x9, xf⟩ := CmB.box (w.alloc (.cells #[.int .i64 p, .int .i64 s, .int .i64 1, .int .i64 n, .slice a m c, .int .i64 t, .int .i64 wd, .int .i64 h, .int .i64 x, .int .i64 y] 58)) p s 1 0 none 0 0 0 0 0 0 0
    rw [show (w.alloc (.cells #[.int .i64 p, .int .i64 s, .int .i64 1, .int .i64 n, .slice a m c, .int .i64 t, .int .i64 wd, .int .i64 h, .int .i64 x, .int .i64 y] 58)).heap.size = w.heap.size + 1 by simp] at *
    have f3 := xf 3
    have f8 := xf 8
    have f9 := xf 9
    have hz : w.heap.size < ((w.alloc (.cells #[.int .i64 p, .int .i64 s, .int .i64 1, .int .i64 n, .slice a m c, .int .i64 t, .int .i64 wd, .int .i64 h, .int .i64 x, .int .i64 y] 58)).alloc (.cells #[.int .i64 p, .int .i64 s, .int .i64 1, .int .i64 0, .slice none 0 0, .int .i64 0, .int .i64 0, .int .i64 0, .int .i64 0, .int .i64 0] 58)).heap.size := by simp; omega
    have hz1 : w.heap.size + 1 < ((w.alloc (.cells #[.int .i64 p, .int .i64 s, .int .i64 1, .int .i64 n, .slice a m c, .int .i64 t, .int .i64 wd, .int .i64 h, .int .i64 x, .int .i64 y] 58)).alloc (.cells #[.int .i64 p, .int .i64 s, .int .i64 1, .int .i64 0, .slice none 0 0, .int .i64 0, .int .i64 0, .int .i64 0, .int .i64 0, .int .i64 0] 58)).heap.size := by simp
    have CF := Hk.mk cf
    have XF := Hk.mk xf
    clear cf xf
    generalize ((w.alloc (.cells #[.int .i64 p, .int .i64 s, .int .i64 1, .int .i64 n, .slice a m c, .int .i64 t, .int .i64 wd, .int .i64 h, .int .i64 x, .int .i64 y] 58)).alloc (.cells #[.int .i64 p, .int .i64 s, .int .i64 1, .int .i64 0, .slice none 0 0, .int .i64 0, .int .i64 0, .int .i64 0, .int .i64 0, .int .i64 0] 58)) = W0 at *
    go_region
    have HC : Hk (Below w.heap.size w (((W0.setCell ⟨w.heap.size + 1, 3, none⟩ (.int .i64 n)).setCell ⟨w.heap.size + 1, 8, none⟩ (.int .i64 x)).setCell ⟨w.heap.size + 1, 9, none⟩ (.int .i64 y)).drew) := ⟨Below.drew ((((HW0.out.setCell (p := ⟨w.heap.size + 1, 3, none⟩) (by simp) _).setCell (p := ⟨w.heap.size + 1, 8, none⟩) (by simp) _).setCell (p := ⟨w.heap.size + 1, 9, none⟩) (by simp) _))⟩
    have HCB : Hk (CmB (((W0.setCell ⟨w.heap.size + 1, 3, none⟩ (.int .i64 n)).setCell ⟨w.heap.size + 1, 8, none⟩ (.int .i64 x)).setCell ⟨w.heap.size + 1, 9, none⟩ (.int .i64 y)).drew w.heap.size p s 1 n a m c t wd h x y) := ⟨⟨by go_simp, by go_simp, by go_simp, by go_simp, by go_simp, by go_simp, by go_simp, by go_simp, by go_simp, by go_simp, fun j => by have := CF.out j; go_simp⟩⟩
    have HXB : Hk (CmB (((W0.setCell ⟨w.heap.size + 1, 3, none⟩ (.int .i64 n)).setCell ⟨w.heap.size + 1, 8, none⟩ (.int .i64 x)).setCell ⟨w.heap.size + 1, 9, none⟩ (.int .i64 y)).drew (w.heap.size + 1) p s 1 n none 0 0 0 0 0 x y) := ⟨⟨by go_simp, by go_simp, by go_simp, by go_simp, by go_simp, by go_simp, by go_simp, by go_simp, by go_simp, by go_simp, fun j => by have := XF.out j; go_simp⟩⟩
    have hy : w.heap.size < (((W0.setCell ⟨w.heap.size + 1, 3, none⟩ (.int .i64 n)).setCell ⟨w.heap.size + 1, 8, none⟩ (.int .i64 x)).setCell ⟨w.heap.size + 1, 9, none⟩ (.int .i64 y)).drew.heap.size := by simpa using hz
    have hy1 : w.heap.size + 1 < (((W0.setCell ⟨w.heap.size + 1, 3, none⟩ (.int .i64 n)).setCell ⟨w.heap.size + 1, 8, none⟩ (.int .i64 x)).setCell ⟨w.heap.size + 1, 9, none⟩ (.int .i64 y)).drew.heap.size := by simpa using hz1
    clear c0 c1 c2 c3 c4 c5 c6 c7 c8 c9 x0 x1 x2 x3 x4 x5 x6 x7 x8 x9 f3 f8 f9 CF XF hz hz1 HW0
    generalize (((W0.setCell ⟨w.heap.size + 1, 3, none⟩ (.int .i64 n)).setCell ⟨w.heap.size + 1, 8, none⟩ (.int .i64 x)).setCell ⟨w.heap.size + 1, 9, none⟩ (.int .i64 y)).drew = W1 at *
    obtain ⟨c0, c1, c2, c3, c4, c5, c6, c7, c8, c9, -⟩ := HCB.out
    obtain ⟨x0, x1, x2, x3, x4, x5, x6, x7, x8, x9, -⟩ := HXB.out
    go_wp2_with (first | (go_at_call 37; (with_reducible refine (rnum22_as false n 3 _ F0).mono ?_); rintro e w' ⟨rfl, rfl⟩))
    go_ret
    exact ⟨rb R.out, HC.out⟩
  have F0 := Hk.mk h0
  cases h1 : decide (-1099511627776 ≤ x ∧ x ≤ 1099511627776 ∧ -1099511627776 ≤ y ∧ y ≤ 1099511627776)
  case false =>
    have R : Hk (false = r) := ⟨by rw [← E.out]; unfold refC; rw [BB.out]; simp at h1; simp [vB]; intros; omega⟩
    have F1 := Hk.mk h1
    clear E h1
    go_enter Try.func38, Try.ntmps38
    go_wp2_with (go_at_call 37; (with_reducible refine (rnum22_as true s 1099511627776 _ E1).mono ?_); rintro e w' ⟨rfl, rfl⟩)
    obtain ⟨c0, c1, c2, c3, c4, c5, c6, c7, c8, c9, cf⟩ := (CmB.box w p s 1 n a m c t wd h x y).below ((Below.refl _ _).alloc (Nat.le_refl _) (.cells #[.int .i64 p, .int .i64 s, .int .i64 1, .int .i64 0, .slice none 0 0, .int .i64 0, .int .i64 0, .int .i64 0, .int .i64 0, .int .i64 0] 58)) (by simp)
    obtain ⟨x0, x1, x2, x3, x4, x5, x6, x7, x8, x9, xf⟩ := CmB.box (w.alloc (.cells #[.int .i64 p, .int .i64 s, .int .i64 1, .int .i64 n, .slice a m c, .int .i64 t, .int .i64 wd, .int .i64 h, .int .i64 x, .int .i64 y] 58)) p s 1 0 none 0 0 0 0 0 0 0
    rw [show (w.alloc (.cells #[.int .i64 p, .int .i64 s, .int .i64 1, .int .i64 n, .slice a m c, .int .i64 t, .int .i64 wd, .int .i64 h, .int .i64 x, .int .i64 y] 58)).heap.size = w.heap.size + 1 by simp] at *
    have f3 := xf 3
    have f8 := xf 8
    have f9 := xf 9
    have hz : w.heap.size < ((w.alloc (.cells #[.int .i64 p, .int .i64 s, .int .i64 1, .int .i64 n, .slice a m c, .int .i64 t, .int .i64 wd, .int .i64 h, .int .i64 x, .int .i64 y] 58)).alloc (.cells #[.int .i64 p, .int .i64 s, .int .i64 1, .int .i64 0, .slice none 0 0, .int .i64 0, .int .i64 0, .int .i64 0, .int .i64 0, .int .i64 0] 58)).heap.size := by simp; omega
    have hz1 : w.heap.size + 1 < ((w.alloc (.cells #[.int .i64 p, .int .i64 s, .int .i64 1, .int .i64 n, .slice a m c, .int .i64 t, .int .i64 wd, .int .i64 h, .int .i64 x, .int .i64 y] 58)).alloc (.cells #[.int .i64 p, .int .i64 s, .int .i64 1, .int .i64 0, .slice none 0 0, .int .i64 0, .int .i64 0, .int .i64 0, .int .i64 0, .int .i64 0] 58)).heap.size := by simp
    have CF := Hk.mk cf
    have XF := Hk.mk xf
    clear cf xf
    generalize ((w.alloc (.cells #[.int .i64 p, .int .i64 s, .int .i64 1, .int .i64 n, .slice a m c, .int .i64 t, .int .i64 wd, .int .i64 h, .int .i64 x, .int .i64 y] 58)).alloc (.cells #[.int .i64 p, .int .i64 s, .int .i64 1, .int .i64 0, .slice none 0 0, .int .i64 0, .int .i64 0, .int .i64 0, .int .i64 0, .int .i64 0] 58)) = W0 at *
    go_region
    have HC : Hk (Below w.heap.size w (((W0.setCell ⟨w.heap.size + 1, 3, none⟩ (.int .i64 n)).setCell ⟨w.heap.size + 1, 8, none⟩ (.int .i64 x)).setCell ⟨w.heap.size + 1, 9, none⟩ (.int .i64 y)).drew) := ⟨Below.drew ((((HW0.out.setCell (p := ⟨w.heap.size + 1, 3, none⟩) (by simp) _).setCell (p := ⟨w.heap.size + 1, 8, none⟩) (by simp) _).setCell (p := ⟨w.heap.size + 1, 9, none⟩) (by simp) _))⟩
    have HCB : Hk (CmB (((W0.setCell ⟨w.heap.size + 1, 3, none⟩ (.int .i64 n)).setCell ⟨w.heap.size + 1, 8, none⟩ (.int .i64 x)).setCell ⟨w.heap.size + 1, 9, none⟩ (.int .i64 y)).drew w.heap.size p s 1 n a m c t wd h x y) := ⟨⟨by go_simp, by go_simp, by go_simp, by go_simp, by go_simp, by go_simp, by go_simp, by go_simp, by go_simp, by go_simp, fun j => by have := CF.out j; go_simp⟩⟩
    have HXB : Hk (CmB (((W0.setCell ⟨w.heap.size + 1, 3, none⟩ (.int .i64 n)).setCell ⟨w.heap.size + 1, 8, none⟩ (.int .i64 x)).setCell ⟨w.heap.size + 1, 9, none⟩ (.int .i64 y)).drew (w.heap.size + 1) p s 1 n none 0 0 0 0 0 x y) := ⟨⟨by go_simp, by go_simp, by go_simp, by go_simp, by go_simp, by go_simp, by go_simp, by go_simp, by go_simp, by go_simp, fun j => by have := XF.out j; go_simp⟩⟩
    have hy : w.heap.size < (((W0.setCell ⟨w.heap.size + 1, 3, none⟩ (.int .i64 n)).setCell ⟨w.heap.size + 1, 8, none⟩ (.int .i64 x)).setCell ⟨w.heap.size + 1, 9, none⟩ (.int .i64 y)).drew.heap.size := by simpa using hz
    have hy1 : w.heap.size + 1 < (((W0.setCell ⟨w.heap.size + 1, 3, none⟩ (.int .i64 n)).setCell ⟨w.heap.size + 1, 8, none⟩ (.int .i64 x)).setCell ⟨w.heap.size + 1, 9, none⟩ (.int .i64 y)).drew.heap.size := by simpa using hz1
    clear c0 c1 c2 c3 c4 c5 c6 c7 c8 c9 x0 x1 x2 x3 x4 x5 x6 x7 x8 x9 f3 f8 f9 CF XF hz hz1 HW0
    generalize (((W0.setCell ⟨w.heap.size + 1, 3, none⟩ (.int .i64 n)).setCell ⟨w.heap.size + 1, 8, none⟩ (.int .i64 x)).setCell ⟨w.heap.size + 1, 9, none⟩ (.int .i64 y)).drew = W1 at *
    obtain ⟨c0, c1, c2, c3, c4, c5, c6, c7, c8, c9, -⟩ := HCB.out
    obtain ⟨x0, x1, x2, x3, x4, x5, x6, x7, x8, x9, -⟩ := HXB.out
    go_wp2_with (first | (go_at_call 37; (with_reducible refine (rnum22_as true n 3 _ F0).mono ?_); rintro e w' ⟨rfl, rfl⟩) | (go_at_call 61; (with_reducible refine (rmay22_as false x y _ F1).mono ?_); rintro e w3 ⟨rfl, hb3⟩; have HC := Hk.mk (HC.out.trans (hb3.mono HC.out.size)); obtain ⟨c0, c1, c2, c3, c4, c5, c6, c7, c8, c9, -⟩ := HCB.out.below hb3 hy; obtain ⟨x0, x1, x2, x3, x4, x5, x6, x7, x8, x9, -⟩ := HXB.out.below hb3 hy1; clear hb3))
    go_ret
    exact ⟨rb R.out, HC.out⟩
  have F1 := Hk.mk h1
  have EE : Hk (eqcB p s 1 n [] 0 0 0 x y p s 1 n u t wd h x y = r) := ⟨by
    rw [← E.out]; unfold refC eqcB; rw [BB.out, Bool.eq_iff_iff]
    simp at h0 h1
    simp [vB]
    first | done | grind | omega⟩
  clear E h0 h1
  go_enter Try.func38, Try.ntmps38
  go_wp2_with (go_at_call 37; (with_reducible refine (rnum22_as true s 1099511627776 _ E1).mono ?_); rintro e w' ⟨rfl, rfl⟩)
  obtain ⟨c0, c1, c2, c3, c4, c5, c6, c7, c8, c9, cf⟩ := (CmB.box w p s 1 n a m c t wd h x y).below ((Below.refl _ _).alloc (Nat.le_refl _) (.cells #[.int .i64 p, .int .i64 s, .int .i64 1, .int .i64 0, .slice none 0 0, .int .i64 0, .int .i64 0, .int .i64 0, .int .i64 0, .int .i64 0] 58)) (by simp)
  obtain ⟨x0, x1, x2, x3, x4, x5, x6, x7, x8, x9, xf⟩ := CmB.box (w.alloc (.cells #[.int .i64 p, .int .i64 s, .int .i64 1, .int .i64 n, .slice a m c, .int .i64 t, .int .i64 wd, .int .i64 h, .int .i64 x, .int .i64 y] 58)) p s 1 0 none 0 0 0 0 0 0 0
  rw [show (w.alloc (.cells #[.int .i64 p, .int .i64 s, .int .i64 1, .int .i64 n, .slice a m c, .int .i64 t, .int .i64 wd, .int .i64 h, .int .i64 x, .int .i64 y] 58)).heap.size = w.heap.size + 1 by simp] at *
  have f3 := xf 3
  have f8 := xf 8
  have f9 := xf 9
  have hz : w.heap.size < ((w.alloc (.cells #[.int .i64 p, .int .i64 s, .int .i64 1, .int .i64 n, .slice a m c, .int .i64 t, .int .i64 wd, .int .i64 h, .int .i64 x, .int .i64 y] 58)).alloc (.cells #[.int .i64 p, .int .i64 s, .int .i64 1, .int .i64 0, .slice none 0 0, .int .i64 0, .int .i64 0, .int .i64 0, .int .i64 0, .int .i64 0] 58)).heap.size := by simp; omega
  have hz1 : w.heap.size + 1 < ((w.alloc (.cells #[.int .i64 p, .int .i64 s, .int .i64 1, .int .i64 n, .slice a m c, .int .i64 t, .int .i64 wd, .int .i64 h, .int .i64 x, .int .i64 y] 58)).alloc (.cells #[.int .i64 p, .int .i64 s, .int .i64 1, .int .i64 0, .slice none 0 0, .int .i64 0, .int .i64 0, .int .i64 0, .int .i64 0, .int .i64 0] 58)).heap.size := by simp
  have CF := Hk.mk cf
  have XF := Hk.mk xf
  clear cf xf
  generalize ((w.alloc (.cells #[.int .i64 p, .int .i64 s, .int .i64 1, .int .i64 n, .slice a m c, .int .i64 t, .int .i64 wd, .int .i64 h, .int .i64 x, .int .i64 y] 58)).alloc (.cells #[.int .i64 p, .int .i64 s, .int .i64 1, .int .i64 0, .slice none 0 0, .int .i64 0, .int .i64 0, .int .i64 0, .int .i64 0, .int .i64 0] 58)) = W0 at *
  go_region
  have HC : Hk (Below w.heap.size w (((W0.setCell ⟨w.heap.size + 1, 3, none⟩ (.int .i64 n)).setCell ⟨w.heap.size + 1, 8, none⟩ (.int .i64 x)).setCell ⟨w.heap.size + 1, 9, none⟩ (.int .i64 y)).drew) := ⟨Below.drew ((((HW0.out.setCell (p := ⟨w.heap.size + 1, 3, none⟩) (by simp) _).setCell (p := ⟨w.heap.size + 1, 8, none⟩) (by simp) _).setCell (p := ⟨w.heap.size + 1, 9, none⟩) (by simp) _))⟩
  have HCB : Hk (CmB (((W0.setCell ⟨w.heap.size + 1, 3, none⟩ (.int .i64 n)).setCell ⟨w.heap.size + 1, 8, none⟩ (.int .i64 x)).setCell ⟨w.heap.size + 1, 9, none⟩ (.int .i64 y)).drew w.heap.size p s 1 n a m c t wd h x y) := ⟨⟨by go_simp, by go_simp, by go_simp, by go_simp, by go_simp, by go_simp, by go_simp, by go_simp, by go_simp, by go_simp, fun j => by have := CF.out j; go_simp⟩⟩
  have HXB : Hk (CmB (((W0.setCell ⟨w.heap.size + 1, 3, none⟩ (.int .i64 n)).setCell ⟨w.heap.size + 1, 8, none⟩ (.int .i64 x)).setCell ⟨w.heap.size + 1, 9, none⟩ (.int .i64 y)).drew (w.heap.size + 1) p s 1 n none 0 0 0 0 0 x y) := ⟨⟨by go_simp, by go_simp, by go_simp, by go_simp, by go_simp, by go_simp, by go_simp, by go_simp, by go_simp, by go_simp, fun j => by have := XF.out j; go_simp⟩⟩
  have hy : w.heap.size < (((W0.setCell ⟨w.heap.size + 1, 3, none⟩ (.int .i64 n)).setCell ⟨w.heap.size + 1, 8, none⟩ (.int .i64 x)).setCell ⟨w.heap.size + 1, 9, none⟩ (.int .i64 y)).drew.heap.size := by simpa using hz
  have hy1 : w.heap.size + 1 < (((W0.setCell ⟨w.heap.size + 1, 3, none⟩ (.int .i64 n)).setCell ⟨w.heap.size + 1, 8, none⟩ (.int .i64 x)).setCell ⟨w.heap.size + 1, 9, none⟩ (.int .i64 y)).drew.heap.size := by simpa using hz1
  clear c0 c1 c2 c3 c4 c5 c6 c7 c8 c9 x0 x1 x2 x3 x4 x5 x6 x7 x8 x9 f3 f8 f9 CF XF hz hz1 HW0
  generalize (((W0.setCell ⟨w.heap.size + 1, 3, none⟩ (.int .i64 n)).setCell ⟨w.heap.size + 1, 8, none⟩ (.int .i64 x)).setCell ⟨w.heap.size + 1, 9, none⟩ (.int .i64 y)).drew = W1 at *
  obtain ⟨c0, c1, c2, c3, c4, c5, c6, c7, c8, c9, -⟩ := HCB.out
  obtain ⟨x0, x1, x2, x3, x4, x5, x6, x7, x8, x9, -⟩ := HXB.out
  go_wp2_with (first | (go_at_call 37; (with_reducible refine (rnum22_as true n 3 _ F0).mono ?_); rintro e w' ⟨rfl, rfl⟩) | (go_at_call 61; (with_reducible refine (rmay22_as true x y _ F1).mono ?_); rintro e w3 ⟨rfl, hb3⟩; have HC := Hk.mk (HC.out.trans (hb3.mono HC.out.size)); obtain ⟨c0, c1, c2, c3, c4, c5, c6, c7, c8, c9, -⟩ := HCB.out.below hb3 hy; obtain ⟨x0, x1, x2, x3, x4, x5, x6, x7, x8, x9, -⟩ := HXB.out.below hb3 hy1; clear hb3) | (go_at_call 44; (with_reducible refine (eqc_as r p s 1 n none 0 0 [] 0 0 0 x y p s 1 n a m c u t wd h x y _ (Nq.nil _ _ _) (by omega) (HNA.out _ HC.out) hm EE).mono ?_); rintro e w9 ⟨rfl, hb9⟩; have HC := Hk.mk (HC.out.trans (hb9.mono HC.out.size)); clear hb9))
  go_ret
  exact ⟨rfl, HC.out⟩
set_option maxRecDepth 100000 in
set_option maxHeartbeats 3200000 in
theorem rcmd2 (r : Bool) (p s n : Int) (a : Option Addr) (m c : Nat) (u : List Int) (t wd h x y : Int) (w : World) (hN : Nq w w.heap.size a m u) (hm : m ≤ 1099511627776) (E : Hk (refC p s 2 ⟨n, u, t, wd, h, x, y⟩ = r)) :
    Calls Try.prog 38 #[.agg #[.int .i64 p, .int .i64 s, .int .i64 2, .int .i64 n, .slice a m c, .int .i64 t, .int .i64 wd, .int .i64 h, .int .i64 x, .int .i64 y]] w fun e w' => e = .returned (.bool r) ∧ Below w.heap.size w w' := by
  have HNA : Hk (∀ X, Below w.heap.size w X → Nq X X.heap.size a m u) := ⟨fun X hX => (hN.below hX (Nat.le_refl _)).mono hX.size⟩
  clear hN
  have HW0 : Hk (Below w.heap.size w ((w.alloc (.cells #[.int .i64 p, .int .i64 s, .int .i64 2, .int .i64 n, .slice a m c, .int .i64 t, .int .i64 wd, .int .i64 h, .int .i64 x, .int .i64 y] 58)).alloc (.cells #[.int .i64 p, .int .i64 s, .int .i64 2, .int .i64 0, .slice none 0 0, .int .i64 0, .int .i64 0, .int .i64 0, .int .i64 0, .int .i64 0] 58))) := ⟨((Below.refl _ _).alloc (Nat.le_refl _) _).alloc (by simp) _⟩
  by_cases g0 : ¬ (1 ≤ p)
  · have b0 : decide (1 ≤ p) = false := by simp; omega
    have R : Hk (false = r) := ⟨by rw [← E.out]; unfold refC baseB; simp; intros; omega⟩
    clear E
    go_enter Try.func38, Try.ntmps38
    go_wp2
    obtain ⟨c0, c1, c2, c3, c4, c5, c6, c7, c8, c9, cf⟩ := (CmB.box w p s 2 n a m c t wd h x y).below ((Below.refl _ _).alloc (Nat.le_refl _) (.cells #[.int .i64 p, .int .i64 s, .int .i64 2, .int .i64 0, .slice none 0 0, .int .i64 0, .int .i64 0, .int .i64 0, .int .i64 0, .int .i64 0] 58)) (by simp)
    obtain ⟨x0, x1, x2, x3, x4, x5, x6, x7, x8, x9, xf⟩ := CmB.box (w.alloc (.cells #[.int .i64 p, .int .i64 s, .int .i64 2, .int .i64 n, .slice a m c, .int .i64 t, .int .i64 wd, .int .i64 h, .int .i64 x, .int .i64 y] 58)) p s 2 0 none 0 0 0 0 0 0 0
    rw [show (w.alloc (.cells #[.int .i64 p, .int .i64 s, .int .i64 2, .int .i64 n, .slice a m c, .int .i64 t, .int .i64 wd, .int .i64 h, .int .i64 x, .int .i64 y] 58)).heap.size = w.heap.size + 1 by simp] at *
    have f4 := xf 4
    have f5 := xf 5
    have hz : w.heap.size < ((w.alloc (.cells #[.int .i64 p, .int .i64 s, .int .i64 2, .int .i64 n, .slice a m c, .int .i64 t, .int .i64 wd, .int .i64 h, .int .i64 x, .int .i64 y] 58)).alloc (.cells #[.int .i64 p, .int .i64 s, .int .i64 2, .int .i64 0, .slice none 0 0, .int .i64 0, .int .i64 0, .int .i64 0, .int .i64 0, .int .i64 0] 58)).heap.size := by simp; omega
    have hz1 : w.heap.size + 1 < ((w.alloc (.cells #[.int .i64 p, .int .i64 s, .int .i64 2, .int .i64 n, .slice a m c, .int .i64 t, .int .i64 wd, .int .i64 h, .int .i64 x, .int .i64 y] 58)).alloc (.cells #[.int .i64 p, .int .i64 s, .int .i64 2, .int .i64 0, .slice none 0 0, .int .i64 0, .int .i64 0, .int .i64 0, .int .i64 0, .int .i64 0] 58)).heap.size := by simp
    have CF := Hk.mk cf
    have XF := Hk.mk xf
    clear cf xf
    generalize ((w.alloc (.cells #[.int .i64 p, .int .i64 s, .int .i64 2, .int .i64 n, .slice a m c, .int .i64 t, .int .i64 wd, .int .i64 h, .int .i64 x, .int .i64 y] 58)).alloc (.cells #[.int .i64 p, .int .i64 s, .int .i64 2, .int .i64 0, .slice none 0 0, .int .i64 0, .int .i64 0, .int .i64 0, .int .i64 0, .int .i64 0] 58)) = W0 at *
    go_region
    have HC : Hk (Below w.heap.size w ((W0.setCell ⟨w.heap.size + 1, 4, none⟩ (.slice a m c)).setCell ⟨w.heap.size + 1, 5, none⟩ (.int .i64 t)).drew) := ⟨Below.drew (((HW0.out.setCell (p := ⟨w.heap.size + 1, 4, none⟩) (by simp) _).setCell (p := ⟨w.heap.size + 1, 5, none⟩) (by simp) _))⟩
    have HCB : Hk (CmB ((W0.setCell ⟨w.heap.size + 1, 4, none⟩ (.slice a m c)).setCell ⟨w.heap.size + 1, 5, none⟩ (.int .i64 t)).drew w.heap.size p s 2 n a m c t wd h x y) := ⟨⟨by go_simp, by go_simp, by go_simp, by go_simp, by go_simp, by go_simp, by go_simp, by go_simp, by go_simp, by go_simp, fun j => by have := CF.out j; go_simp⟩⟩
    have HXB : Hk (CmB ((W0.setCell ⟨w.heap.size + 1, 4, none⟩ (.slice a m c)).setCell ⟨w.heap.size + 1, 5, none⟩ (.int .i64 t)).drew (w.heap.size + 1) p s 2 0 a m c t 0 0 0 0) := ⟨⟨by go_simp, by go_simp, by go_simp, by go_simp, by go_simp, by go_simp, by go_simp, by go_simp, by go_simp, by go_simp, fun j => by have := XF.out j; go_simp⟩⟩
    have hy : w.heap.size < ((W0.setCell ⟨w.heap.size + 1, 4, none⟩ (.slice a m c)).setCell ⟨w.heap.size + 1, 5, none⟩ (.int .i64 t)).drew.heap.size := by simpa using hz
    have hy1 : w.heap.size + 1 < ((W0.setCell ⟨w.heap.size + 1, 4, none⟩ (.slice a m c)).setCell ⟨w.heap.size + 1, 5, none⟩ (.int .i64 t)).drew.heap.size := by simpa using hz1
    clear c0 c1 c2 c3 c4 c5 c6 c7 c8 c9 x0 x1 x2 x3 x4 x5 x6 x7 x8 x9 f4 f5 CF XF hz hz1 HW0
    generalize ((W0.setCell ⟨w.heap.size + 1, 4, none⟩ (.slice a m c)).setCell ⟨w.heap.size + 1, 5, none⟩ (.int .i64 t)).drew = W1 at *
    obtain ⟨c0, c1, c2, c3, c4, c5, c6, c7, c8, c9, -⟩ := HCB.out
    obtain ⟨x0, x1, x2, x3, x4, x5, x6, x7, x8, x9, -⟩ := HXB.out
    go_wp2
    go_ret
    exact ⟨rb R.out, HC.out⟩
  have b0 : decide (1 ≤ p) = true := by simp; omega
  by_cases g1 : ¬ (p ≤ 8)
  · have b1 : decide (p ≤ 8) = false := by simp; omega
    have R : Hk (false = r) := ⟨by rw [← E.out]; unfold refC baseB; simp; intros; omega⟩
    clear E
    go_enter Try.func38, Try.ntmps38
    go_wp2
    obtain ⟨c0, c1, c2, c3, c4, c5, c6, c7, c8, c9, cf⟩ := (CmB.box w p s 2 n a m c t wd h x y).below ((Below.refl _ _).alloc (Nat.le_refl _) (.cells #[.int .i64 p, .int .i64 s, .int .i64 2, .int .i64 0, .slice none 0 0, .int .i64 0, .int .i64 0, .int .i64 0, .int .i64 0, .int .i64 0] 58)) (by simp)
    obtain ⟨x0, x1, x2, x3, x4, x5, x6, x7, x8, x9, xf⟩ := CmB.box (w.alloc (.cells #[.int .i64 p, .int .i64 s, .int .i64 2, .int .i64 n, .slice a m c, .int .i64 t, .int .i64 wd, .int .i64 h, .int .i64 x, .int .i64 y] 58)) p s 2 0 none 0 0 0 0 0 0 0
    rw [show (w.alloc (.cells #[.int .i64 p, .int .i64 s, .int .i64 2, .int .i64 n, .slice a m c, .int .i64 t, .int .i64 wd, .int .i64 h, .int .i64 x, .int .i64 y] 58)).heap.size = w.heap.size + 1 by simp] at *
    have f4 := xf 4
    have f5 := xf 5
    have hz : w.heap.size < ((w.alloc (.cells #[.int .i64 p, .int .i64 s, .int .i64 2, .int .i64 n, .slice a m c, .int .i64 t, .int .i64 wd, .int .i64 h, .int .i64 x, .int .i64 y] 58)).alloc (.cells #[.int .i64 p, .int .i64 s, .int .i64 2, .int .i64 0, .slice none 0 0, .int .i64 0, .int .i64 0, .int .i64 0, .int .i64 0, .int .i64 0] 58)).heap.size := by simp; omega
    have hz1 : w.heap.size + 1 < ((w.alloc (.cells #[.int .i64 p, .int .i64 s, .int .i64 2, .int .i64 n, .slice a m c, .int .i64 t, .int .i64 wd, .int .i64 h, .int .i64 x, .int .i64 y] 58)).alloc (.cells #[.int .i64 p, .int .i64 s, .int .i64 2, .int .i64 0, .slice none 0 0, .int .i64 0, .int .i64 0, .int .i64 0, .int .i64 0, .int .i64 0] 58)).heap.size := by simp
    have CF := Hk.mk cf
    have XF := Hk.mk xf
    clear cf xf
    generalize ((w.alloc (.cells #[.int .i64 p, .int .i64 s, .int .i64 2, .int .i64 n, .slice a m c, .int .i64 t, .int .i64 wd, .int .i64 h, .int .i64 x, .int .i64 y] 58)).alloc (.cells #[.int .i64 p, .int .i64 s, .int .i64 2, .int .i64 0, .slice none 0 0, .int .i64 0, .int .i64 0, .int .i64 0, .int .i64 0, .int .i64 0] 58)) = W0 at *
    go_region
    have HC : Hk (Below w.heap.size w ((W0.setCell ⟨w.heap.size + 1, 4, none⟩ (.slice a m c)).setCell ⟨w.heap.size + 1, 5, none⟩ (.int .i64 t)).drew) := ⟨Below.drew (((HW0.out.setCell (p := ⟨w.heap.size + 1, 4, none⟩) (by simp) _).setCell (p := ⟨w.heap.size + 1, 5, none⟩) (by simp) _))⟩
    have HCB : Hk (CmB ((W0.setCell ⟨w.heap.size + 1, 4, none⟩ (.slice a m c)).setCell ⟨w.heap.size + 1, 5, none⟩ (.int .i64 t)).drew w.heap.size p s 2 n a m c t wd h x y) := ⟨⟨by go_simp, by go_simp, by go_simp, by go_simp, by go_simp, by go_simp, by go_simp, by go_simp, by go_simp, by go_simp, fun j => by have := CF.out j; go_simp⟩⟩
    have HXB : Hk (CmB ((W0.setCell ⟨w.heap.size + 1, 4, none⟩ (.slice a m c)).setCell ⟨w.heap.size + 1, 5, none⟩ (.int .i64 t)).drew (w.heap.size + 1) p s 2 0 a m c t 0 0 0 0) := ⟨⟨by go_simp, by go_simp, by go_simp, by go_simp, by go_simp, by go_simp, by go_simp, by go_simp, by go_simp, by go_simp, fun j => by have := XF.out j; go_simp⟩⟩
    have hy : w.heap.size < ((W0.setCell ⟨w.heap.size + 1, 4, none⟩ (.slice a m c)).setCell ⟨w.heap.size + 1, 5, none⟩ (.int .i64 t)).drew.heap.size := by simpa using hz
    have hy1 : w.heap.size + 1 < ((W0.setCell ⟨w.heap.size + 1, 4, none⟩ (.slice a m c)).setCell ⟨w.heap.size + 1, 5, none⟩ (.int .i64 t)).drew.heap.size := by simpa using hz1
    clear c0 c1 c2 c3 c4 c5 c6 c7 c8 c9 x0 x1 x2 x3 x4 x5 x6 x7 x8 x9 f4 f5 CF XF hz hz1 HW0
    generalize ((W0.setCell ⟨w.heap.size + 1, 4, none⟩ (.slice a m c)).setCell ⟨w.heap.size + 1, 5, none⟩ (.int .i64 t)).drew = W1 at *
    obtain ⟨c0, c1, c2, c3, c4, c5, c6, c7, c8, c9, -⟩ := HCB.out
    obtain ⟨x0, x1, x2, x3, x4, x5, x6, x7, x8, x9, -⟩ := HXB.out
    go_wp2
    go_ret
    exact ⟨rb R.out, HC.out⟩
  have b1 : decide (p ≤ 8) = true := by simp; omega
  cases e1 : decide (0 ≤ s ∧ s ≤ 1099511627776)
  case false =>
    have E1 := Hk.mk e1
    have R : Hk (false = r) := ⟨by rw [← E.out]; simp at e1; unfold refC baseB; simp; intros; omega⟩
    clear E e1
    go_enter Try.func38, Try.ntmps38
    go_wp2_with (go_at_call 37; (with_reducible refine (rnum22_as false s 1099511627776 _ E1).mono ?_); rintro e w' ⟨rfl, rfl⟩)
    obtain ⟨c0, c1, c2, c3, c4, c5, c6, c7, c8, c9, cf⟩ := (CmB.box w p s 2 n a m c t wd h x y).below ((Below.refl _ _).alloc (Nat.le_refl _) (.cells #[.int .i64 p, .int .i64 s, .int .i64 2, .int .i64 0, .slice none 0 0, .int .i64 0, .int .i64 0, .int .i64 0, .int .i64 0, .int .i64 0] 58)) (by simp)
    obtain ⟨x0, x1, x2, x3, x4, x5, x6, x7, x8, x9, xf⟩ := CmB.box (w.alloc (.cells #[.int .i64 p, .int .i64 s, .int .i64 2, .int .i64 n, .slice a m c, .int .i64 t, .int .i64 wd, .int .i64 h, .int .i64 x, .int .i64 y] 58)) p s 2 0 none 0 0 0 0 0 0 0
    rw [show (w.alloc (.cells #[.int .i64 p, .int .i64 s, .int .i64 2, .int .i64 n, .slice a m c, .int .i64 t, .int .i64 wd, .int .i64 h, .int .i64 x, .int .i64 y] 58)).heap.size = w.heap.size + 1 by simp] at *
    have f4 := xf 4
    have f5 := xf 5
    have hz : w.heap.size < ((w.alloc (.cells #[.int .i64 p, .int .i64 s, .int .i64 2, .int .i64 n, .slice a m c, .int .i64 t, .int .i64 wd, .int .i64 h, .int .i64 x, .int .i64 y] 58)).alloc (.cells #[.int .i64 p, .int .i64 s, .int .i64 2, .int .i64 0, .slice none 0 0, .int .i64 0, .int .i64 0, .int .i64 0, .int .i64 0, .int .i64 0] 58)).heap.size := by simp; omega
    have hz1 : w.heap.size + 1 < ((w.alloc (.cells #[.int .i64 p, .int .i64 s, .int .i64 2, .int .i64 n, .slice a m c, .int .i64 t, .int .i64 wd, .int .i64 h, .int .i64 x, .int .i64 y] 58)).alloc (.cells #[.int .i64 p, .int .i64 s, .int .i64 2, .int .i64 0, .slice none 0 0, .int .i64 0, .int .i64 0, .int .i64 0, .int .i64 0, .int .i64 0] 58)).heap.size := by simp
    have CF := Hk.mk cf
    have XF := Hk.mk xf
    clear cf xf
    generalize ((w.alloc (.cells #[.int .i64 p, .int .i64 s, .int .i64 2, .int .i64 n, .slice a m c, .int .i64 t, .int .i64 wd, .int .i64 h, .int .i64 x, .int .i64 y] 58)).alloc (.cells #[.int .i64 p, .int .i64 s, .int .i64 2, .int .i64 0, .slice none 0 0, .int .i64 0, .int .i64 0, .int .i64 0, .int .i64 0, .int .i64 0] 58)) = W0 at *
    go_region
    have HC : Hk (Below w.heap.size w ((W0.setCell ⟨w.heap.size + 1, 4, none⟩ (.slice a m c)).setCell ⟨w.heap.size + 1, 5, none⟩ (.int .i64 t)).drew) := ⟨Below.drew (((HW0.out.setCell (p := ⟨w.heap.size + 1, 4, none⟩) (by simp) _).setCell (p := ⟨w.heap.size + 1, 5, none⟩) (by simp) _))⟩
    have HCB : Hk (CmB ((W0.setCell ⟨w.heap.size + 1, 4, none⟩ (.slice a m c)).setCell ⟨w.heap.size + 1, 5, none⟩ (.int .i64 t)).drew w.heap.size p s 2 n a m c t wd h x y) := ⟨⟨by go_simp, by go_simp, by go_simp, by go_simp, by go_simp, by go_simp, by go_simp, by go_simp, by go_simp, by go_simp, fun j => by have := CF.out j; go_simp⟩⟩
    have HXB : Hk (CmB ((W0.setCell ⟨w.heap.size + 1, 4, none⟩ (.slice a m c)).setCell ⟨w.heap.size + 1, 5, none⟩ (.int .i64 t)).drew (w.heap.size + 1) p s 2 0 a m c t 0 0 0 0) := ⟨⟨by go_simp, by go_simp, by go_simp, by go_simp, by go_simp, by go_simp, by go_simp, by go_simp, by go_simp, by go_simp, fun j => by have := XF.out j; go_simp⟩⟩
    have hy : w.heap.size < ((W0.setCell ⟨w.heap.size + 1, 4, none⟩ (.slice a m c)).setCell ⟨w.heap.size + 1, 5, none⟩ (.int .i64 t)).drew.heap.size := by simpa using hz
    have hy1 : w.heap.size + 1 < ((W0.setCell ⟨w.heap.size + 1, 4, none⟩ (.slice a m c)).setCell ⟨w.heap.size + 1, 5, none⟩ (.int .i64 t)).drew.heap.size := by simpa using hz1
    clear c0 c1 c2 c3 c4 c5 c6 c7 c8 c9 x0 x1 x2 x3 x4 x5 x6 x7 x8 x9 f4 f5 CF XF hz hz1 HW0
    generalize ((W0.setCell ⟨w.heap.size + 1, 4, none⟩ (.slice a m c)).setCell ⟨w.heap.size + 1, 5, none⟩ (.int .i64 t)).drew = W1 at *
    obtain ⟨c0, c1, c2, c3, c4, c5, c6, c7, c8, c9, -⟩ := HCB.out
    obtain ⟨x0, x1, x2, x3, x4, x5, x6, x7, x8, x9, -⟩ := HXB.out
    go_wp2
    go_ret
    exact ⟨rb R.out, HC.out⟩
  have E1 := Hk.mk e1
  have BB : Hk (baseB p s = true) := ⟨by simp at e1; unfold baseB; simp; omega⟩
  clear e1 g0 g1
  cases h0 : idsB u
  case false =>
    have R : Hk (false = r) := ⟨by rw [← E.out]; unfold refC; rw [BB.out]; simp [vB, h0]⟩
    have F0 := Hk.mk h0
    clear E h0
    go_enter Try.func38, Try.ntmps38
    go_wp2_with (go_at_call 37; (with_reducible refine (rnum22_as true s 1099511627776 _ E1).mono ?_); rintro e w' ⟨rfl, rfl⟩)
    obtain ⟨c0, c1, c2, c3, c4, c5, c6, c7, c8, c9, cf⟩ := (CmB.box w p s 2 n a m c t wd h x y).below ((Below.refl _ _).alloc (Nat.le_refl _) (.cells #[.int .i64 p, .int .i64 s, .int .i64 2, .int .i64 0, .slice none 0 0, .int .i64 0, .int .i64 0, .int .i64 0, .int .i64 0, .int .i64 0] 58)) (by simp)
    obtain ⟨x0, x1, x2, x3, x4, x5, x6, x7, x8, x9, xf⟩ := CmB.box (w.alloc (.cells #[.int .i64 p, .int .i64 s, .int .i64 2, .int .i64 n, .slice a m c, .int .i64 t, .int .i64 wd, .int .i64 h, .int .i64 x, .int .i64 y] 58)) p s 2 0 none 0 0 0 0 0 0 0
    rw [show (w.alloc (.cells #[.int .i64 p, .int .i64 s, .int .i64 2, .int .i64 n, .slice a m c, .int .i64 t, .int .i64 wd, .int .i64 h, .int .i64 x, .int .i64 y] 58)).heap.size = w.heap.size + 1 by simp] at *
    have f4 := xf 4
    have f5 := xf 5
    have hz : w.heap.size < ((w.alloc (.cells #[.int .i64 p, .int .i64 s, .int .i64 2, .int .i64 n, .slice a m c, .int .i64 t, .int .i64 wd, .int .i64 h, .int .i64 x, .int .i64 y] 58)).alloc (.cells #[.int .i64 p, .int .i64 s, .int .i64 2, .int .i64 0, .slice none 0 0, .int .i64 0, .int .i64 0, .int .i64 0, .int .i64 0, .int .i64 0] 58)).heap.size := by simp; omega
    have hz1 : w.heap.size + 1 < ((w.alloc (.cells #[.int .i64 p, .int .i64 s, .int .i64 2, .int .i64 n, .slice a m c, .int .i64 t, .int .i64 wd, .int .i64 h, .int .i64 x, .int .i64 y] 58)).alloc (.cells #[.int .i64 p, .int .i64 s, .int .i64 2, .int .i64 0, .slice none 0 0, .int .i64 0, .int .i64 0, .int .i64 0, .int .i64 0, .int .i64 0] 58)).heap.size := by simp
    have CF := Hk.mk cf
    have XF := Hk.mk xf
    clear cf xf
    generalize ((w.alloc (.cells #[.int .i64 p, .int .i64 s, .int .i64 2, .int .i64 n, .slice a m c, .int .i64 t, .int .i64 wd, .int .i64 h, .int .i64 x, .int .i64 y] 58)).alloc (.cells #[.int .i64 p, .int .i64 s, .int .i64 2, .int .i64 0, .slice none 0 0, .int .i64 0, .int .i64 0, .int .i64 0, .int .i64 0, .int .i64 0] 58)) = W0 at *
    go_region
    have HC : Hk (Below w.heap.size w ((W0.setCell ⟨w.heap.size + 1, 4, none⟩ (.slice a m c)).setCell ⟨w.heap.size + 1, 5, none⟩ (.int .i64 t)).drew) := ⟨Below.drew (((HW0.out.setCell (p := ⟨w.heap.size + 1, 4, none⟩) (by simp) _).setCell (p := ⟨w.heap.size + 1, 5, none⟩) (by simp) _))⟩
    have HCB : Hk (CmB ((W0.setCell ⟨w.heap.size + 1, 4, none⟩ (.slice a m c)).setCell ⟨w.heap.size + 1, 5, none⟩ (.int .i64 t)).drew w.heap.size p s 2 n a m c t wd h x y) := ⟨⟨by go_simp, by go_simp, by go_simp, by go_simp, by go_simp, by go_simp, by go_simp, by go_simp, by go_simp, by go_simp, fun j => by have := CF.out j; go_simp⟩⟩
    have HXB : Hk (CmB ((W0.setCell ⟨w.heap.size + 1, 4, none⟩ (.slice a m c)).setCell ⟨w.heap.size + 1, 5, none⟩ (.int .i64 t)).drew (w.heap.size + 1) p s 2 0 a m c t 0 0 0 0) := ⟨⟨by go_simp, by go_simp, by go_simp, by go_simp, by go_simp, by go_simp, by go_simp, by go_simp, by go_simp, by go_simp, fun j => by have := XF.out j; go_simp⟩⟩
    have hy : w.heap.size < ((W0.setCell ⟨w.heap.size + 1, 4, none⟩ (.slice a m c)).setCell ⟨w.heap.size + 1, 5, none⟩ (.int .i64 t)).drew.heap.size := by simpa using hz
    have hy1 : w.heap.size + 1 < ((W0.setCell ⟨w.heap.size + 1, 4, none⟩ (.slice a m c)).setCell ⟨w.heap.size + 1, 5, none⟩ (.int .i64 t)).drew.heap.size := by simpa using hz1
    clear c0 c1 c2 c3 c4 c5 c6 c7 c8 c9 x0 x1 x2 x3 x4 x5 x6 x7 x8 x9 f4 f5 CF XF hz hz1 HW0
    generalize ((W0.setCell ⟨w.heap.size + 1, 4, none⟩ (.slice a m c)).setCell ⟨w.heap.size + 1, 5, none⟩ (.int .i64 t)).drew = W1 at *
    obtain ⟨c0, c1, c2, c3, c4, c5, c6, c7, c8, c9, -⟩ := HCB.out
    obtain ⟨x0, x1, x2, x3, x4, x5, x6, x7, x8, x9, -⟩ := HXB.out
    go_wp2_with (first | (go_at_call 62; (with_reducible refine (rids_as false a m c u _ (HNA.out _ HC.out) hm F0).mono ?_); rintro e w' ⟨rfl, mm, rfl⟩; have HC := Hk.mk (below_drewN HC.out mm)))
    go_ret
    exact ⟨rb R.out, HC.out⟩
  have F0 := Hk.mk h0
  cases h1 : decide (0 ≤ t ∧ t ≤ 16383)
  case false =>
    have R : Hk (false = r) := ⟨by rw [← E.out]; unfold refC; rw [BB.out]; simp at h1; simp [vB]; intros; omega⟩
    have F1 := Hk.mk h1
    clear E h1
    go_enter Try.func38, Try.ntmps38
    go_wp2_with (go_at_call 37; (with_reducible refine (rnum22_as true s 1099511627776 _ E1).mono ?_); rintro e w' ⟨rfl, rfl⟩)
    obtain ⟨c0, c1, c2, c3, c4, c5, c6, c7, c8, c9, cf⟩ := (CmB.box w p s 2 n a m c t wd h x y).below ((Below.refl _ _).alloc (Nat.le_refl _) (.cells #[.int .i64 p, .int .i64 s, .int .i64 2, .int .i64 0, .slice none 0 0, .int .i64 0, .int .i64 0, .int .i64 0, .int .i64 0, .int .i64 0] 58)) (by simp)
    obtain ⟨x0, x1, x2, x3, x4, x5, x6, x7, x8, x9, xf⟩ := CmB.box (w.alloc (.cells #[.int .i64 p, .int .i64 s, .int .i64 2, .int .i64 n, .slice a m c, .int .i64 t, .int .i64 wd, .int .i64 h, .int .i64 x, .int .i64 y] 58)) p s 2 0 none 0 0 0 0 0 0 0
    rw [show (w.alloc (.cells #[.int .i64 p, .int .i64 s, .int .i64 2, .int .i64 n, .slice a m c, .int .i64 t, .int .i64 wd, .int .i64 h, .int .i64 x, .int .i64 y] 58)).heap.size = w.heap.size + 1 by simp] at *
    have f4 := xf 4
    have f5 := xf 5
    have hz : w.heap.size < ((w.alloc (.cells #[.int .i64 p, .int .i64 s, .int .i64 2, .int .i64 n, .slice a m c, .int .i64 t, .int .i64 wd, .int .i64 h, .int .i64 x, .int .i64 y] 58)).alloc (.cells #[.int .i64 p, .int .i64 s, .int .i64 2, .int .i64 0, .slice none 0 0, .int .i64 0, .int .i64 0, .int .i64 0, .int .i64 0, .int .i64 0] 58)).heap.size := by simp; omega
    have hz1 : w.heap.size + 1 < ((w.alloc (.cells #[.int .i64 p, .int .i64 s, .int .i64 2, .int .i64 n, .slice a m c, .int .i64 t, .int .i64 wd, .int .i64 h, .int .i64 x, .int .i64 y] 58)).alloc (.cells #[.int .i64 p, .int .i64 s, .int .i64 2, .int .i64 0, .slice none 0 0, .int .i64 0, .int .i64 0, .int .i64 0, .int .i64 0, .int .i64 0] 58)).heap.size := by simp
    have CF := Hk.mk cf
    have XF := Hk.mk xf
    clear cf xf
    generalize ((w.alloc (.cells #[.int .i64 p, .int .i64 s, .int .i64 2, .int .i64 n, .slice a m c, .int .i64 t, .int .i64 wd, .int .i64 h, .int .i64 x, .int .i64 y] 58)).alloc (.cells #[.int .i64 p, .int .i64 s, .int .i64 2, .int .i64 0, .slice none 0 0, .int .i64 0, .int .i64 0, .int .i64 0, .int .i64 0, .int .i64 0] 58)) = W0 at *
    go_region
    have HC : Hk (Below w.heap.size w ((W0.setCell ⟨w.heap.size + 1, 4, none⟩ (.slice a m c)).setCell ⟨w.heap.size + 1, 5, none⟩ (.int .i64 t)).drew) := ⟨Below.drew (((HW0.out.setCell (p := ⟨w.heap.size + 1, 4, none⟩) (by simp) _).setCell (p := ⟨w.heap.size + 1, 5, none⟩) (by simp) _))⟩
    have HCB : Hk (CmB ((W0.setCell ⟨w.heap.size + 1, 4, none⟩ (.slice a m c)).setCell ⟨w.heap.size + 1, 5, none⟩ (.int .i64 t)).drew w.heap.size p s 2 n a m c t wd h x y) := ⟨⟨by go_simp, by go_simp, by go_simp, by go_simp, by go_simp, by go_simp, by go_simp, by go_simp, by go_simp, by go_simp, fun j => by have := CF.out j; go_simp⟩⟩
    have HXB : Hk (CmB ((W0.setCell ⟨w.heap.size + 1, 4, none⟩ (.slice a m c)).setCell ⟨w.heap.size + 1, 5, none⟩ (.int .i64 t)).drew (w.heap.size + 1) p s 2 0 a m c t 0 0 0 0) := ⟨⟨by go_simp, by go_simp, by go_simp, by go_simp, by go_simp, by go_simp, by go_simp, by go_simp, by go_simp, by go_simp, fun j => by have := XF.out j; go_simp⟩⟩
    have hy : w.heap.size < ((W0.setCell ⟨w.heap.size + 1, 4, none⟩ (.slice a m c)).setCell ⟨w.heap.size + 1, 5, none⟩ (.int .i64 t)).drew.heap.size := by simpa using hz
    have hy1 : w.heap.size + 1 < ((W0.setCell ⟨w.heap.size + 1, 4, none⟩ (.slice a m c)).setCell ⟨w.heap.size + 1, 5, none⟩ (.int .i64 t)).drew.heap.size := by simpa using hz1
    clear c0 c1 c2 c3 c4 c5 c6 c7 c8 c9 x0 x1 x2 x3 x4 x5 x6 x7 x8 x9 f4 f5 CF XF hz hz1 HW0
    generalize ((W0.setCell ⟨w.heap.size + 1, 4, none⟩ (.slice a m c)).setCell ⟨w.heap.size + 1, 5, none⟩ (.int .i64 t)).drew = W1 at *
    obtain ⟨c0, c1, c2, c3, c4, c5, c6, c7, c8, c9, -⟩ := HCB.out
    obtain ⟨x0, x1, x2, x3, x4, x5, x6, x7, x8, x9, -⟩ := HXB.out
    go_wp2_with (first | (go_at_call 62; (with_reducible refine (rids_as true a m c u _ (HNA.out _ HC.out) hm F0).mono ?_); rintro e w' ⟨rfl, mm, rfl⟩; have HC := Hk.mk (below_drewN HC.out mm)) | (go_at_call 63; (with_reducible refine (rtile22_as false t _ F1).mono ?_); rintro e w' ⟨rfl, rfl⟩))
    go_ret
    exact ⟨rb R.out, HC.out⟩
  have F1 := Hk.mk h1
  have EE : Hk (eqcB p s 2 0 u t 0 0 0 0 p s 2 n u t wd h x y = r) := ⟨by
    rw [← E.out]; unfold refC eqcB; rw [BB.out, Bool.eq_iff_iff]
    simp at h1
    simp [vB, h0]
    first | done | grind | omega⟩
  clear E h0 h1
  go_enter Try.func38, Try.ntmps38
  go_wp2_with (go_at_call 37; (with_reducible refine (rnum22_as true s 1099511627776 _ E1).mono ?_); rintro e w' ⟨rfl, rfl⟩)
  obtain ⟨c0, c1, c2, c3, c4, c5, c6, c7, c8, c9, cf⟩ := (CmB.box w p s 2 n a m c t wd h x y).below ((Below.refl _ _).alloc (Nat.le_refl _) (.cells #[.int .i64 p, .int .i64 s, .int .i64 2, .int .i64 0, .slice none 0 0, .int .i64 0, .int .i64 0, .int .i64 0, .int .i64 0, .int .i64 0] 58)) (by simp)
  obtain ⟨x0, x1, x2, x3, x4, x5, x6, x7, x8, x9, xf⟩ := CmB.box (w.alloc (.cells #[.int .i64 p, .int .i64 s, .int .i64 2, .int .i64 n, .slice a m c, .int .i64 t, .int .i64 wd, .int .i64 h, .int .i64 x, .int .i64 y] 58)) p s 2 0 none 0 0 0 0 0 0 0
  rw [show (w.alloc (.cells #[.int .i64 p, .int .i64 s, .int .i64 2, .int .i64 n, .slice a m c, .int .i64 t, .int .i64 wd, .int .i64 h, .int .i64 x, .int .i64 y] 58)).heap.size = w.heap.size + 1 by simp] at *
  have f4 := xf 4
  have f5 := xf 5
  have hz : w.heap.size < ((w.alloc (.cells #[.int .i64 p, .int .i64 s, .int .i64 2, .int .i64 n, .slice a m c, .int .i64 t, .int .i64 wd, .int .i64 h, .int .i64 x, .int .i64 y] 58)).alloc (.cells #[.int .i64 p, .int .i64 s, .int .i64 2, .int .i64 0, .slice none 0 0, .int .i64 0, .int .i64 0, .int .i64 0, .int .i64 0, .int .i64 0] 58)).heap.size := by simp; omega
  have hz1 : w.heap.size + 1 < ((w.alloc (.cells #[.int .i64 p, .int .i64 s, .int .i64 2, .int .i64 n, .slice a m c, .int .i64 t, .int .i64 wd, .int .i64 h, .int .i64 x, .int .i64 y] 58)).alloc (.cells #[.int .i64 p, .int .i64 s, .int .i64 2, .int .i64 0, .slice none 0 0, .int .i64 0, .int .i64 0, .int .i64 0, .int .i64 0, .int .i64 0] 58)).heap.size := by simp
  have CF := Hk.mk cf
  have XF := Hk.mk xf
  clear cf xf
  generalize ((w.alloc (.cells #[.int .i64 p, .int .i64 s, .int .i64 2, .int .i64 n, .slice a m c, .int .i64 t, .int .i64 wd, .int .i64 h, .int .i64 x, .int .i64 y] 58)).alloc (.cells #[.int .i64 p, .int .i64 s, .int .i64 2, .int .i64 0, .slice none 0 0, .int .i64 0, .int .i64 0, .int .i64 0, .int .i64 0, .int .i64 0] 58)) = W0 at *
  go_region
  have HC : Hk (Below w.heap.size w ((W0.setCell ⟨w.heap.size + 1, 4, none⟩ (.slice a m c)).setCell ⟨w.heap.size + 1, 5, none⟩ (.int .i64 t)).drew) := ⟨Below.drew (((HW0.out.setCell (p := ⟨w.heap.size + 1, 4, none⟩) (by simp) _).setCell (p := ⟨w.heap.size + 1, 5, none⟩) (by simp) _))⟩
  have HCB : Hk (CmB ((W0.setCell ⟨w.heap.size + 1, 4, none⟩ (.slice a m c)).setCell ⟨w.heap.size + 1, 5, none⟩ (.int .i64 t)).drew w.heap.size p s 2 n a m c t wd h x y) := ⟨⟨by go_simp, by go_simp, by go_simp, by go_simp, by go_simp, by go_simp, by go_simp, by go_simp, by go_simp, by go_simp, fun j => by have := CF.out j; go_simp⟩⟩
  have HXB : Hk (CmB ((W0.setCell ⟨w.heap.size + 1, 4, none⟩ (.slice a m c)).setCell ⟨w.heap.size + 1, 5, none⟩ (.int .i64 t)).drew (w.heap.size + 1) p s 2 0 a m c t 0 0 0 0) := ⟨⟨by go_simp, by go_simp, by go_simp, by go_simp, by go_simp, by go_simp, by go_simp, by go_simp, by go_simp, by go_simp, fun j => by have := XF.out j; go_simp⟩⟩
  have hy : w.heap.size < ((W0.setCell ⟨w.heap.size + 1, 4, none⟩ (.slice a m c)).setCell ⟨w.heap.size + 1, 5, none⟩ (.int .i64 t)).drew.heap.size := by simpa using hz
  have hy1 : w.heap.size + 1 < ((W0.setCell ⟨w.heap.size + 1, 4, none⟩ (.slice a m c)).setCell ⟨w.heap.size + 1, 5, none⟩ (.int .i64 t)).drew.heap.size := by simpa using hz1
  clear c0 c1 c2 c3 c4 c5 c6 c7 c8 c9 x0 x1 x2 x3 x4 x5 x6 x7 x8 x9 f4 f5 CF XF hz hz1 HW0
  generalize ((W0.setCell ⟨w.heap.size + 1, 4, none⟩ (.slice a m c)).setCell ⟨w.heap.size + 1, 5, none⟩ (.int .i64 t)).drew = W1 at *
  obtain ⟨c0, c1, c2, c3, c4, c5, c6, c7, c8, c9, -⟩ := HCB.out
  obtain ⟨x0, x1, x2, x3, x4, x5, x6, x7, x8, x9, -⟩ := HXB.out
  go_wp2_with (first | (go_at_call 62; (with_reducible refine (rids_as true a m c u _ (HNA.out _ HC.out) hm F0).mono ?_); rintro e w' ⟨rfl, mm, rfl⟩; have HC := Hk.mk (below_drewN HC.out mm)) | (go_at_call 63; (with_reducible refine (rtile22_as true t _ F1).mono ?_); rintro e w' ⟨rfl, rfl⟩) | (go_at_call 44; (with_reducible refine (eqc_as r p s 2 0 a m c u t 0 0 0 0 p s 2 n a m c u t wd h x y _ (HNA.out _ HC.out) hm (HNA.out _ HC.out) hm EE).mono ?_); rintro e w9 ⟨rfl, hb9⟩; have HC := Hk.mk (HC.out.trans (hb9.mono HC.out.size)); clear hb9))
  go_ret
  exact ⟨rfl, HC.out⟩
end Go.Proofs.Ytmphmpfeeiipgaa
