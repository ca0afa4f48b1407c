import Derived.RegionTactic
import Derived.ChangeAlike
import Derived.BigRegion
import Derived.Test.YtdpblimhfmfbnaaGreatZvb
import Derived.Test.YtdpblimhfmfbnaaGreatZvc
set_option linter.unusedVariables false
set_option linter.unusedSimpArgs false
namespace Go.Proofs.YtdpblimhfmfbnaaGreat
open Go.RowKit
set_option maxRecDepth 100000 in
set_option maxHeartbeats 3200000 in
theorem rcmd3 (r : Bool) (p s n : Int) (a : Option Addr) (m c : Nat) (u : List Int) (t wd h x y : Int) (w : World) (hN : Nq w w.heap.size a m u) (hm : m ≤ 1099511627776) (E : Hk (refC p s 3 ⟨n, u, t, wd, h, x, y⟩ = r)) :
  Calls Tryz.prog 95 #[.agg (jkC p s 3 n a m c t wd h x y)] w fun e w' => e = .returned (.bool r) ∧ Below w.heap.size w w' := by
 have HNA : Hk (∀ X, Below w.heap.size w X → Nq X X.heap.size a m u) := ⟨fun X hX => (hN.below hX (Nat.le_refl _)).mono hX.size⟩
 clear hN
 have HW0 : Hk (Below w.heap.size w ((w.alloc (.cells (jkC p s 3 n a m c t wd h x y) 95)).alloc (.cells (jkC p s 3 0 none 0 0 0 0 0 0 0) 95))) := ⟨((Below.refl _ _).alloc (Nat.le_refl _) _).alloc (by simp) _⟩
 by_cases g0 : ¬ (1 ≤ p)
 ·have b0 : decide (1 ≤ p) = false := by simp; omega
  have R : Hk (false = r) := ⟨by rw [← E.out]; unfold refC baseB; simp; intros; omega⟩
  clear E
  have HC : Hk (Below w.heap.size w ((w.alloc (.cells (jkC p s 3 n a m c t wd h x y) 95)).alloc (.cells (jkC p s 3 0 a m c 0 0 0 0 0) 95))) := ⟨((Below.refl _ _).alloc (Nat.le_refl _) _).alloc (by simp) _⟩
  go_enter Tryz.func95, Tryz.ntmps95
  go_wp2
  go_ret
  exact ⟨rb R.out, HC.out⟩
 have b0 : decide (1 ≤ p) = true := by simp; omega
 by_cases g1 : ¬ (p ≤ 8)
 ·have b1 : decide (p ≤ 8) = false := by simp; omega
  have R : Hk (false = r) := ⟨by rw [← E.out]; unfold refC baseB; simp; intros; omega⟩
  clear E
  have HC : Hk (Below w.heap.size w ((w.alloc (.cells (jkC p s 3 n a m c t wd h x y) 95)).alloc (.cells (jkC p s 3 0 a m c 0 0 0 0 0) 95))) := ⟨((Below.refl _ _).alloc (Nat.le_refl _) _).alloc (by simp) _⟩
  go_enter Tryz.func95, Tryz.ntmps95
  go_wp2
  go_ret
  exact ⟨rb R.out, HC.out⟩
 have b1 : decide (p ≤ 8) = true := by simp; omega
 cases e1 : decide (0 ≤ s ∧ s ≤ 1099511627776)
 case false =>
  have E1 := Hk.mk e1
  have R : Hk (false = r) := ⟨by rw [← E.out]; simp at e1; unfold refC baseB; simp; intros; omega⟩
  clear E e1
  have HC : Hk (Below w.heap.size w ((w.alloc (.cells (jkC p s 3 n a m c t wd h x y) 95)).alloc (.cells (jkC p s 3 0 a m c 0 0 0 0 0) 95))) := ⟨((Below.refl _ _).alloc (Nat.le_refl _) _).alloc (by simp) _⟩
  go_enter Tryz.func95, Tryz.ntmps95
  go_wp2_with (first | (go_at_call 29; (with_reducible refine (rnum22_as false s 1099511627776 _ E1).mono ?_); rintro e w' ⟨rfl, rfl⟩))
  go_ret
  exact ⟨rb R.out, HC.out⟩
 have E1 := Hk.mk e1
 have BB : Hk (baseB p s = true) := ⟨by simp at e1; unfold baseB; simp; omega⟩
 clear e1 g0 g1
 cases h0 : idsB u
 case false =>
  have R : Hk (false = r) := ⟨by rw [← E.out]; unfold refC; rw [BB.out]; simp [vB, h0]⟩
  have F0 := Hk.mk h0
  clear E h0
  have HC : Hk (Below w.heap.size w ((w.alloc (.cells (jkC p s 3 n a m c t wd h x y) 95)).alloc (.cells (jkC p s 3 0 a m c 0 0 0 0 0) 95))) := ⟨((Below.refl _ _).alloc (Nat.le_refl _) _).alloc (by simp) _⟩
  go_enter Tryz.func95, Tryz.ntmps95
  go_wp2_with (first | (go_at_call 29; (with_reducible refine (rnum22_as true s 1099511627776 _ E1).mono ?_); rintro e w' ⟨rfl, rfl⟩) | (go_at_call 106; (with_reducible refine (rids_as false a m c u _ (HNA.out _ HC.out) hm F0).mono ?_); rintro e w' ⟨rfl, mm, rfl⟩; have HC := Hk.mk (below_drewN HC.out mm)))
  go_ret
  exact ⟨rb R.out, HC.out⟩
 have F0 := Hk.mk h0
 have EE : Hk (eqcB p s 3 0 u 0 0 0 0 0 p s 3 n u t wd h x y = r) := ⟨by
  rw [← E.out]; unfold refC eqcB; rw [BB.out, Bool.eq_iff_iff]
  skip
  simp [vB, h0]
  first | done | grind | omega⟩
 clear E h0
 have HC : Hk (Below w.heap.size w ((w.alloc (.cells (jkC p s 3 n a m c t wd h x y) 95)).alloc (.cells (jkC p s 3 0 a m c 0 0 0 0 0) 95))) := ⟨((Below.refl _ _).alloc (Nat.le_refl _) _).alloc (by simp) _⟩
 go_enter Tryz.func95, Tryz.ntmps95
 go_wp2_with (first | (go_at_call 29; (with_reducible refine (rnum22_as true s 1099511627776 _ E1).mono ?_); rintro e w' ⟨rfl, rfl⟩) | (go_at_call 106; (with_reducible refine (rids_as true a m c u _ (HNA.out _ HC.out) hm F0).mono ?_); rintro e w' ⟨rfl, mm, rfl⟩; have HC := Hk.mk (below_drewN HC.out mm)) | (go_at_call 78; (with_reducible refine (eqc_as r p s 3 0 a m c u 0 0 0 0 0 p s 3 n a m c u t wd h x y _ (HNA.out _ HC.out) hm (HNA.out _ HC.out) hm EE).mono ?_); rintro e w9 ⟨rfl, hb9⟩; have HC := Hk.mk (HC.out.trans (hb9.mono HC.out.size)); clear hb9))
 go_ret
 exact ⟨rfl, HC.out⟩
set_option maxRecDepth 100000 in
set_option maxHeartbeats 3200000 in
theorem rcmd4 (r : Bool) (p s n : Int) (a : Option Addr) (m c : Nat) (u : List Int) (t wd h x y : Int) (w : World) (hN : Nq w w.heap.size a m u) (hm : m ≤ 1099511627776) (E : Hk (refC p s 4 ⟨n, u, t, wd, h, x, y⟩ = r)) :
  Calls Tryz.prog 95 #[.agg (jkC p s 4 n a m c t wd h x y)] w fun e w' => e = .returned (.bool r) ∧ Below w.heap.size w w' := by
 have HNA : Hk (∀ X, Below w.heap.size w X → Nq X X.heap.size a m u) := ⟨fun X hX => (hN.below hX (Nat.le_refl _)).mono hX.size⟩
 clear hN
 have HW0 : Hk (Below w.heap.size w ((w.alloc (.cells (jkC p s 4 n a m c t wd h x y) 95)).alloc (.cells (jkC p s 4 0 none 0 0 0 0 0 0 0) 95))) := ⟨((Below.refl _ _).alloc (Nat.le_refl _) _).alloc (by simp) _⟩
 by_cases g0 : ¬ (1 ≤ p)
 ·have b0 : decide (1 ≤ p) = false := by simp; omega
  have R : Hk (false = r) := ⟨by rw [← E.out]; unfold refC baseB; simp; intros; omega⟩
  clear E
  go_enter Tryz.func95, Tryz.ntmps95
  go_wp2
  obtain ⟨c0, c1, c2, c3, c4, c5, c6, c7, c8, c9, cf⟩ := (CmB.box w p s 4 n a m c t wd h x y).below ((Below.refl _ _).alloc (Nat.le_refl _) (.cells (jkC p s 4 0 none 0 0 0 0 0 0 0) 95)) (by simp)
  obtain ⟨x0, x1, x2, x3, x4, x5, x6, x7, x8, x9, xf⟩ := CmB.box (w.alloc (.cells (jkC p s 4 n a m c t wd h x y) 95)) p s 4 0 none 0 0 0 0 0 0 0
  rw [show (w.alloc (.cells (jkC p s 4 n a m c t wd h x y) 95)).heap.size = w.heap.size + 1 by simp] at *
  have f5 := xf 5
  have f6 := xf 6
  have f7 := xf 7
  have hz : w.heap.size < ((w.alloc (.cells (jkC p s 4 n a m c t wd h x y) 95)).alloc (.cells (jkC p s 4 0 none 0 0 0 0 0 0 0) 95)).heap.size := by simp; omega
  have hz1 : w.heap.size + 1 < ((w.alloc (.cells (jkC p s 4 n a m c t wd h x y) 95)).alloc (.cells (jkC p s 4 0 none 0 0 0 0 0 0 0) 95)).heap.size := by simp
  have CF := Hk.mk cf
  have XF := Hk.mk xf
  clear cf xf
  generalize ((w.alloc (.cells (jkC p s 4 n a m c t wd h x y) 95)).alloc (.cells (jkC p s 4 0 none 0 0 0 0 0 0 0) 95)) = W0 at *
  go_region
  have HC : Hk (Below w.heap.size w (((W0.setCell ⟨w.heap.size + 1, 5, none⟩ (.int .i64 t)).setCell ⟨w.heap.size + 1, 6, none⟩ (.int .i64 wd)).setCell ⟨w.heap.size + 1, 7, none⟩ (.int .i64 h)).drew) := ⟨Below.drew ((((HW0.out.setCell (p := ⟨w.heap.size + 1, 5, none⟩) (by simp) _).setCell (p := ⟨w.heap.size + 1, 6, none⟩) (by simp) _).setCell (p := ⟨w.heap.size + 1, 7, none⟩) (by simp) _))⟩
  have HCB : Hk (CmB (((W0.setCell ⟨w.heap.size + 1, 5, none⟩ (.int .i64 t)).setCell ⟨w.heap.size + 1, 6, none⟩ (.int .i64 wd)).setCell ⟨w.heap.size + 1, 7, none⟩ (.int .i64 h)).drew w.heap.size p s 4 n a m c t wd h x y) := ⟨⟨by go_simp, by go_simp, by go_simp, by go_simp, by go_simp, by go_simp, by go_simp, by go_simp, by go_simp, by go_simp, fun j => by have := CF.out j; go_simp⟩⟩
  have HXB : Hk (CmB (((W0.setCell ⟨w.heap.size + 1, 5, none⟩ (.int .i64 t)).setCell ⟨w.heap.size + 1, 6, none⟩ (.int .i64 wd)).setCell ⟨w.heap.size + 1, 7, none⟩ (.int .i64 h)).drew (w.heap.size + 1) p s 4 0 none 0 0 t wd h 0 0) := ⟨⟨by go_simp, by go_simp, by go_simp, by go_simp, by go_simp, by go_simp, by go_simp, by go_simp, by go_simp, by go_simp, fun j => by have := XF.out j; go_simp⟩⟩
  have hy : w.heap.size < (((W0.setCell ⟨w.heap.size + 1, 5, none⟩ (.int .i64 t)).setCell ⟨w.heap.size + 1, 6, none⟩ (.int .i64 wd)).setCell ⟨w.heap.size + 1, 7, none⟩ (.int .i64 h)).drew.heap.size := by simpa using hz
  have hy1 : w.heap.size + 1 < (((W0.setCell ⟨w.heap.size + 1, 5, none⟩ (.int .i64 t)).setCell ⟨w.heap.size + 1, 6, none⟩ (.int .i64 wd)).setCell ⟨w.heap.size + 1, 7, none⟩ (.int .i64 h)).drew.heap.size := by simpa using hz1
  clear c0 c1 c2 c3 c4 c5 c6 c7 c8 c9 x0 x1 x2 x3 x4 x5 x6 x7 x8 x9 f5 f6 f7 CF XF hz hz1 HW0
  generalize (((W0.setCell ⟨w.heap.size + 1, 5, none⟩ (.int .i64 t)).setCell ⟨w.heap.size + 1, 6, none⟩ (.int .i64 wd)).setCell ⟨w.heap.size + 1, 7, none⟩ (.int .i64 h)).drew = W1 at *
  obtain ⟨c0, c1, c2, c3, c4, c5, c6, c7, c8, c9, -⟩ := HCB.out
  obtain ⟨x0, x1, x2, x3, x4, x5, x6, x7, x8, x9, -⟩ := HXB.out
  go_wp2
  go_ret
  exact ⟨rb R.out, HC.out⟩
 have b0 : decide (1 ≤ p) = true := by simp; omega
 by_cases g1 : ¬ (p ≤ 8)
 ·have b1 : decide (p ≤ 8) = false := by simp; omega
  have R : Hk (false = r) := ⟨by rw [← E.out]; unfold refC baseB; simp; intros; omega⟩
  clear E
  go_enter Tryz.func95, Tryz.ntmps95
  go_wp2
  obtain ⟨c0, c1, c2, c3, c4, c5, c6, c7, c8, c9, cf⟩ := (CmB.box w p s 4 n a m c t wd h x y).below ((Below.refl _ _).alloc (Nat.le_refl _) (.cells (jkC p s 4 0 none 0 0 0 0 0 0 0) 95)) (by simp)
  obtain ⟨x0, x1, x2, x3, x4, x5, x6, x7, x8, x9, xf⟩ := CmB.box (w.alloc (.cells (jkC p s 4 n a m c t wd h x y) 95)) p s 4 0 none 0 0 0 0 0 0 0
  rw [show (w.alloc (.cells (jkC p s 4 n a m c t wd h x y) 95)).heap.size = w.heap.size + 1 by simp] at *
  have f5 := xf 5
  have f6 := xf 6
  have f7 := xf 7
  have hz : w.heap.size < ((w.alloc (.cells (jkC p s 4 n a m c t wd h x y) 95)).alloc (.cells (jkC p s 4 0 none 0 0 0 0 0 0 0) 95)).heap.size := by simp; omega
  have hz1 : w.heap.size + 1 < ((w.alloc (.cells (jkC p s 4 n a m c t wd h x y) 95)).alloc (.cells (jkC p s 4 0 none 0 0 0 0 0 0 0) 95)).heap.size := by simp
  have CF := Hk.mk cf
  have XF := Hk.mk xf
  clear cf xf
  generalize ((w.alloc (.cells (jkC p s 4 n a m c t wd h x y) 95)).alloc (.cells (jkC p s 4 0 none 0 0 0 0 0 0 0) 95)) = W0 at *
  go_region
  have HC : Hk (Below w.heap.size w (((W0.setCell ⟨w.heap.size + 1, 5, none⟩ (.int .i64 t)).setCell ⟨w.heap.size + 1, 6, none⟩ (.int .i64 wd)).setCell ⟨w.heap.size + 1, 7, none⟩ (.int .i64 h)).drew) := ⟨Below.drew ((((HW0.out.setCell (p := ⟨w.heap.size + 1, 5, none⟩) (by simp) _).setCell (p := ⟨w.heap.size + 1, 6, none⟩) (by simp) _).setCell (p := ⟨w.heap.size + 1, 7, none⟩) (by simp) _))⟩
  have HCB : Hk (CmB (((W0.setCell ⟨w.heap.size + 1, 5, none⟩ (.int .i64 t)).setCell ⟨w.heap.size + 1, 6, none⟩ (.int .i64 wd)).setCell ⟨w.heap.size + 1, 7, none⟩ (.int .i64 h)).drew w.heap.size p s 4 n a m c t wd h x y) := ⟨⟨by go_simp, by go_simp, by go_simp, by go_simp, by go_simp, by go_simp, by go_simp, by go_simp, by go_simp, by go_simp, fun j => by have := CF.out j; go_simp⟩⟩
  have HXB : Hk (CmB (((W0.setCell ⟨w.heap.size + 1, 5, none⟩ (.int .i64 t)).setCell ⟨w.heap.size + 1, 6, none⟩ (.int .i64 wd)).setCell ⟨w.heap.size + 1, 7, none⟩ (.int .i64 h)).drew (w.heap.size + 1) p s 4 0 none 0 0 t wd h 0 0) := ⟨⟨by go_simp, by go_simp, by go_simp, by go_simp, by go_simp, by go_simp, by go_simp, by go_simp, by go_simp, by go_simp, fun j => by have := XF.out j; go_simp⟩⟩
  have hy : w.heap.size < (((W0.setCell ⟨w.heap.size + 1, 5, none⟩ (.int .i64 t)).setCell ⟨w.heap.size + 1, 6, none⟩ (.int .i64 wd)).setCell ⟨w.heap.size + 1, 7, none⟩ (.int .i64 h)).drew.heap.size := by simpa using hz
  have hy1 : w.heap.size + 1 < (((W0.setCell ⟨w.heap.size + 1, 5, none⟩ (.int .i64 t)).setCell ⟨w.heap.size + 1, 6, none⟩ (.int .i64 wd)).setCell ⟨w.heap.size + 1, 7, none⟩ (.int .i64 h)).drew.heap.size := by simpa using hz1
  clear c0 c1 c2 c3 c4 c5 c6 c7 c8 c9 x0 x1 x2 x3 x4 x5 x6 x7 x8 x9 f5 f6 f7 CF XF hz hz1 HW0
  generalize (((W0.setCell ⟨w.heap.size + 1, 5, none⟩ (.int .i64 t)).setCell ⟨w.heap.size + 1, 6, none⟩ (.int .i64 wd)).setCell ⟨w.heap.size + 1, 7, none⟩ (.int .i64 h)).drew = W1 at *
  obtain ⟨c0, c1, c2, c3, c4, c5, c6, c7, c8, c9, -⟩ := HCB.out
  obtain ⟨x0, x1, x2, x3, x4, x5, x6, x7, x8, x9, -⟩ := HXB.out
  go_wp2
  go_ret
  exact ⟨rb R.out, HC.out⟩
 have b1 : decide (p ≤ 8) = true := by simp; omega
 cases e1 : decide (0 ≤ s ∧ s ≤ 1099511627776)
 case false =>
  have E1 := Hk.mk e1
  have R : Hk (false = r) := ⟨by rw [← E.out]; simp at e1; unfold refC baseB; simp; intros; omega⟩
  clear E e1
  go_enter Tryz.func95, Tryz.ntmps95
  go_wp2_with (go_at_call 29; (with_reducible refine (rnum22_as false s 1099511627776 _ E1).mono ?_); rintro e w' ⟨rfl, rfl⟩)
  obtain ⟨c0, c1, c2, c3, c4, c5, c6, c7, c8, c9, cf⟩ := (CmB.box w p s 4 n a m c t wd h x y).below ((Below.refl _ _).alloc (Nat.le_refl _) (.cells (jkC p s 4 0 none 0 0 0 0 0 0 0) 95)) (by simp)
  obtain ⟨x0, x1, x2, x3, x4, x5, x6, x7, x8, x9, xf⟩ := CmB.box (w.alloc (.cells (jkC p s 4 n a m c t wd h x y) 95)) p s 4 0 none 0 0 0 0 0 0 0
  rw [show (w.alloc (.cells (jkC p s 4 n a m c t wd h x y) 95)).heap.size = w.heap.size + 1 by simp] at *
  have f5 := xf 5
  have f6 := xf 6
  have f7 := xf 7
  have hz : w.heap.size < ((w.alloc (.cells (jkC p s 4 n a m c t wd h x y) 95)).alloc (.cells (jkC p s 4 0 none 0 0 0 0 0 0 0) 95)).heap.size := by simp; omega
  have hz1 : w.heap.size + 1 < ((w.alloc (.cells (jkC p s 4 n a m c t wd h x y) 95)).alloc (.cells (jkC p s 4 0 none 0 0 0 0 0 0 0) 95)).heap.size := by simp
  have CF := Hk.mk cf
  have XF := Hk.mk xf
  clear cf xf
  generalize ((w.alloc (.cells (jkC p s 4 n a m c t wd h x y) 95)).alloc (.cells (jkC p s 4 0 none 0 0 0 0 0 0 0) 95)) = W0 at *
  go_region
  have HC : Hk (Below w.heap.size w (((W0.setCell ⟨w.heap.size + 1, 5, none⟩ (.int .i64 t)).setCell ⟨w.heap.size + 1, 6, none⟩ (.int .i64 wd)).setCell ⟨w.heap.size + 1, 7, none⟩ (.int .i64 h)).drew) := ⟨Below.drew ((((HW0.out.setCell (p := ⟨w.heap.size + 1, 5, none⟩) (by simp) _).setCell (p := ⟨w.heap.size + 1, 6, none⟩) (by simp) _).setCell (p := ⟨w.heap.size + 1, 7, none⟩) (by simp) _))⟩
  have HCB : Hk (CmB (((W0.setCell ⟨w.heap.size + 1, 5, none⟩ (.int .i64 t)).setCell ⟨w.heap.size + 1, 6, none⟩ (.int .i64 wd)).setCell ⟨w.heap.size + 1, 7, none⟩ (.int .i64 h)).drew w.heap.size p s 4 n a m c t wd h x y) := ⟨⟨by go_simp, by go_simp, by go_simp, by go_simp, by go_simp, by go_simp, by go_simp, by go_simp, by go_simp, by go_simp, fun j => by have := CF.out j; go_simp⟩⟩
  have HXB : Hk (CmB (((W0.setCell ⟨w.heap.size + 1, 5, none⟩ (.int .i64 t)).setCell ⟨w.heap.size + 1, 6, none⟩ (.int .i64 wd)).setCell ⟨w.heap.size + 1, 7, none⟩ (.int .i64 h)).drew (w.heap.size + 1) p s 4 0 none 0 0 t wd h 0 0) := ⟨⟨by go_simp, by go_simp, by go_simp, by go_simp, by go_simp, by go_simp, by go_simp, by go_simp, by go_simp, by go_simp, fun j => by have := XF.out j; go_simp⟩⟩
  have hy : w.heap.size < (((W0.setCell ⟨w.heap.size + 1, 5, none⟩ (.int .i64 t)).setCell ⟨w.heap.size + 1, 6, none⟩ (.int .i64 wd)).setCell ⟨w.heap.size + 1, 7, none⟩ (.int .i64 h)).drew.heap.size := by simpa using hz
  have hy1 : w.heap.size + 1 < (((W0.setCell ⟨w.heap.size + 1, 5, none⟩ (.int .i64 t)).setCell ⟨w.heap.size + 1, 6, none⟩ (.int .i64 wd)).setCell ⟨w.heap.size + 1, 7, none⟩ (.int .i64 h)).drew.heap.size := by simpa using hz1
  clear c0 c1 c2 c3 c4 c5 c6 c7 c8 c9 x0 x1 x2 x3 x4 x5 x6 x7 x8 x9 f5 f6 f7 CF XF hz hz1 HW0
  generalize (((W0.setCell ⟨w.heap.size + 1, 5, none⟩ (.int .i64 t)).setCell ⟨w.heap.size + 1, 6, none⟩ (.int .i64 wd)).setCell ⟨w.heap.size + 1, 7, none⟩ (.int .i64 h)).drew = W1 at *
  obtain ⟨c0, c1, c2, c3, c4, c5, c6, c7, c8, c9, -⟩ := HCB.out
  obtain ⟨x0, x1, x2, x3, x4, x5, x6, x7, x8, x9, -⟩ := HXB.out
  go_wp2
  go_ret
  exact ⟨rb R.out, HC.out⟩
 have E1 := Hk.mk e1
 have BB : Hk (baseB p s = true) := ⟨by simp at e1; unfold baseB; simp; omega⟩
 clear e1 g0 g1
 cases h0 : decide (0 ≤ t ∧ t ≤ 16383)
 case false =>
  have R : Hk (false = r) := ⟨by rw [← E.out]; unfold refC; rw [BB.out]; simp at h0; simp [vB]; intros; omega⟩
  have F0 := Hk.mk h0
  clear E h0
  go_enter Tryz.func95, Tryz.ntmps95
  go_wp2_with (go_at_call 29; (with_reducible refine (rnum22_as true s 1099511627776 _ E1).mono ?_); rintro e w' ⟨rfl, rfl⟩)
  obtain ⟨c0, c1, c2, c3, c4, c5, c6, c7, c8, c9, cf⟩ := (CmB.box w p s 4 n a m c t wd h x y).below ((Below.refl _ _).alloc (Nat.le_refl _) (.cells (jkC p s 4 0 none 0 0 0 0 0 0 0) 95)) (by simp)
  obtain ⟨x0, x1, x2, x3, x4, x5, x6, x7, x8, x9, xf⟩ := CmB.box (w.alloc (.cells (jkC p s 4 n a m c t wd h x y) 95)) p s 4 0 none 0 0 0 0 0 0 0
  rw [show (w.alloc (.cells (jkC p s 4 n a m c t wd h x y) 95)).heap.size = w.heap.size + 1 by simp] at *
  have f5 := xf 5
  have f6 := xf 6
  have f7 := xf 7
  have hz : w.heap.size < ((w.alloc (.cells (jkC p s 4 n a m c t wd h x y) 95)).alloc (.cells (jkC p s 4 0 none 0 0 0 0 0 0 0) 95)).heap.size := by simp; omega
  have hz1 : w.heap.size + 1 < ((w.alloc (.cells (jkC p s 4 n a m c t wd h x y) 95)).alloc (.cells (jkC p s 4 0 none 0 0 0 0 0 0 0) 95)).heap.size := by simp
  have CF := Hk.mk cf
  have XF := Hk.mk xf
  clear cf xf
  generalize ((w.alloc (.cells (jkC p s 4 n a m c t wd h x y) 95)).alloc (.cells (jkC p s 4 0 none 0 0 0 0 0 0 0) 95)) = W0 at *
  go_region
  have HC : Hk (Below w.heap.size w (((W0.setCell ⟨w.heap.size + 1, 5, none⟩ (.int .i64 t)).setCell ⟨w.heap.size + 1, 6, none⟩ (.int .i64 wd)).setCell ⟨w.heap.size + 1, 7, none⟩ (.int .i64 h)).drew) := ⟨Below.drew ((((HW0.out.setCell (p := ⟨w.heap.size + 1, 5, none⟩) (by simp) _).setCell (p := ⟨w.heap.size + 1, 6, none⟩) (by simp) _).setCell (p := ⟨w.heap.size + 1, 7, none⟩) (by simp) _))⟩
  have HCB : Hk (CmB (((W0.setCell ⟨w.heap.size + 1, 5, none⟩ (.int .i64 t)).setCell ⟨w.heap.size + 1, 6, none⟩ (.int .i64 wd)).setCell ⟨w.heap.size + 1, 7, none⟩ (.int .i64 h)).drew w.heap.size p s 4 n a m c t wd h x y) := ⟨⟨by go_simp, by go_simp, by go_simp, by go_simp, by go_simp, by go_simp, by go_simp, by go_simp, by go_simp, by go_simp, fun j => by have := CF.out j; go_simp⟩⟩
  have HXB : Hk (CmB (((W0.setCell ⟨w.heap.size + 1, 5, none⟩ (.int .i64 t)).setCell ⟨w.heap.size + 1, 6, none⟩ (.int .i64 wd)).setCell ⟨w.heap.size + 1, 7, none⟩ (.int .i64 h)).drew (w.heap.size + 1) p s 4 0 none 0 0 t wd h 0 0) := ⟨⟨by go_simp, by go_simp, by go_simp, by go_simp, by go_simp, by go_simp, by go_simp, by go_simp, by go_simp, by go_simp, fun j => by have := XF.out j; go_simp⟩⟩
  have hy : w.heap.size < (((W0.setCell ⟨w.heap.size + 1, 5, none⟩ (.int .i64 t)).setCell ⟨w.heap.size + 1, 6, none⟩ (.int .i64 wd)).setCell ⟨w.heap.size + 1, 7, none⟩ (.int .i64 h)).drew.heap.size := by simpa using hz
  have hy1 : w.heap.size + 1 < (((W0.setCell ⟨w.heap.size + 1, 5, none⟩ (.int .i64 t)).setCell ⟨w.heap.size + 1, 6, none⟩ (.int .i64 wd)).setCell ⟨w.heap.size + 1, 7, none⟩ (.int .i64 h)).drew.heap.size := by simpa using hz1
  clear c0 c1 c2 c3 c4 c5 c6 c7 c8 c9 x0 x1 x2 x3 x4 x5 x6 x7 x8 x9 f5 f6 f7 CF XF hz hz1 HW0
  generalize (((W0.setCell ⟨w.heap.size + 1, 5, none⟩ (.int .i64 t)).setCell ⟨w.heap.size + 1, 6, none⟩ (.int .i64 wd)).setCell ⟨w.heap.size + 1, 7, none⟩ (.int .i64 h)).drew = W1 at *
  obtain ⟨c0, c1, c2, c3, c4, c5, c6, c7, c8, c9, -⟩ := HCB.out
  obtain ⟨x0, x1, x2, x3, x4, x5, x6, x7, x8, x9, -⟩ := HXB.out
  go_wp2_with (first | (go_at_call 107; (with_reducible refine (rtile22_as false t _ F0).mono ?_); rintro e w' ⟨rfl, rfl⟩))
  go_ret
  exact ⟨rb R.out, HC.out⟩
 have F0 := Hk.mk h0
 by_cases k0 : ¬ (1 ≤ wd)
 ·have d0 : decide (1 ≤ wd) = false := by simp; omega
  have R : Hk (false = r) := ⟨by rw [← E.out]; unfold refC; rw [BB.out]; simp [vB]; intros; omega⟩
  clear E
  go_enter Tryz.func95, Tryz.ntmps95
  go_wp2_with (go_at_call 29; (with_reducible refine (rnum22_as true s 1099511627776 _ E1).mono ?_); rintro e w' ⟨rfl, rfl⟩)
  obtain ⟨c0, c1, c2, c3, c4, c5, c6, c7, c8, c9, cf⟩ := (CmB.box w p s 4 n a m c t wd h x y).below ((Below.refl _ _).alloc (Nat.le_refl _) (.cells (jkC p s 4 0 none 0 0 0 0 0 0 0) 95)) (by simp)
  obtain ⟨x0, x1, x2, x3, x4, x5, x6, x7, x8, x9, xf⟩ := CmB.box (w.alloc (.cells (jkC p s 4 n a m c t wd h x y) 95)) p s 4 0 none 0 0 0 0 0 0 0
  rw [show (w.alloc (.cells (jkC p s 4 n a m c t wd h x y) 95)).heap.size = w.heap.size + 1 by simp] at *
  have f5 := xf 5
  have f6 := xf 6
  have f7 := xf 7
  have hz : w.heap.size < ((w.alloc (.cells (jkC p s 4 n a m c t wd h x y) 95)).alloc (.cells (jkC p s 4 0 none 0 0 0 0 0 0 0) 95)).heap.size := by simp; omega
  have hz1 : w.heap.size + 1 < ((w.alloc (.cells (jkC p s 4 n a m c t wd h x y) 95)).alloc (.cells (jkC p s 4 0 none 0 0 0 0 0 0 0) 95)).heap.size := by simp
  have CF := Hk.mk cf
  have XF := Hk.mk xf
  clear cf xf
  generalize ((w.alloc (.cells (jkC p s 4 n a m c t wd h x y) 95)).alloc (.cells (jkC p s 4 0 none 0 0 0 0 0 0 0) 95)) = W0 at *
  go_region
  have HC : Hk (Below w.heap.size w (((W0.setCell ⟨w.heap.size + 1, 5, none⟩ (.int .i64 t)).setCell ⟨w.heap.size + 1, 6, none⟩ (.int .i64 wd)).setCell ⟨w.heap.size + 1, 7, none⟩ (.int .i64 h)).drew) := ⟨Below.drew ((((HW0.out.setCell (p := ⟨w.heap.size + 1, 5, none⟩) (by simp) _).setCell (p := ⟨w.heap.size + 1, 6, none⟩) (by simp) _).setCell (p := ⟨w.heap.size + 1, 7, none⟩) (by simp) _))⟩
  have HCB : Hk (CmB (((W0.setCell ⟨w.heap.size + 1, 5, none⟩ (.int .i64 t)).setCell ⟨w.heap.size + 1, 6, none⟩ (.int .i64 wd)).setCell ⟨w.heap.size + 1, 7, none⟩ (.int .i64 h)).drew w.heap.size p s 4 n a m c t wd h x y) := ⟨⟨by go_simp, by go_simp, by go_simp, by go_simp, by go_simp, by go_simp, by go_simp, by go_simp, by go_simp, by go_simp, fun j => by have := CF.out j; go_simp⟩⟩
  have HXB : Hk (CmB (((W0.setCell ⟨w.heap.size + 1, 5, none⟩ (.int .i64 t)).setCell ⟨w.heap.size + 1, 6, none⟩ (.int .i64 wd)).setCell ⟨w.heap.size + 1, 7, none⟩ (.int .i64 h)).drew (w.heap.size + 1) p s 4 0 none 0 0 t wd h 0 0) := ⟨⟨by go_simp, by go_simp, by go_simp, by go_simp, by go_simp, by go_simp, by go_simp, by go_simp, by go_simp, by go_simp, fun j => by have := XF.out j; go_simp⟩⟩
  have hy : w.heap.size < (((W0.setCell ⟨w.heap.size + 1, 5, none⟩ (.int .i64 t)).setCell ⟨w.heap.size + 1, 6, none⟩ (.int .i64 wd)).setCell ⟨w.heap.size + 1, 7, none⟩ (.int .i64 h)).drew.heap.size := by simpa using hz
  have hy1 : w.heap.size + 1 < (((W0.setCell ⟨w.heap.size + 1, 5, none⟩ (.int .i64 t)).setCell ⟨w.heap.size + 1, 6, none⟩ (.int .i64 wd)).setCell ⟨w.heap.size + 1, 7, none⟩ (.int .i64 h)).drew.heap.size := by simpa using hz1
  clear c0 c1 c2 c3 c4 c5 c6 c7 c8 c9 x0 x1 x2 x3 x4 x5 x6 x7 x8 x9 f5 f6 f7 CF XF hz hz1 HW0
  generalize (((W0.setCell ⟨w.heap.size + 1, 5, none⟩ (.int .i64 t)).setCell ⟨w.heap.size + 1, 6, none⟩ (.int .i64 wd)).setCell ⟨w.heap.size + 1, 7, none⟩ (.int .i64 h)).drew = W1 at *
  obtain ⟨c0, c1, c2, c3, c4, c5, c6, c7, c8, c9, -⟩ := HCB.out
  obtain ⟨x0, x1, x2, x3, x4, x5, x6, x7, x8, x9, -⟩ := HXB.out
  go_wp2_with (first | (go_at_call 107; (with_reducible refine (rtile22_as true t _ F0).mono ?_); rintro e w' ⟨rfl, rfl⟩))
  go_ret
  exact ⟨rb R.out, HC.out⟩
 have d0 : decide (1 ≤ wd) = true := by simp; omega
 by_cases k1 : ¬ (wd ≤ 4)
 ·have d1 : decide (wd ≤ 4) = false := by simp; omega
  have R : Hk (false = r) := ⟨by rw [← E.out]; unfold refC; rw [BB.out]; simp [vB]; intros; omega⟩
  clear E
  go_enter Tryz.func95, Tryz.ntmps95
  go_wp2_with (go_at_call 29; (with_reducible refine (rnum22_as true s 1099511627776 _ E1).mono ?_); rintro e w' ⟨rfl, rfl⟩)
  obtain ⟨c0, c1, c2, c3, c4, c5, c6, c7, c8, c9, cf⟩ := (CmB.box w p s 4 n a m c t wd h x y).below ((Below.refl _ _).alloc (Nat.le_refl _) (.cells (jkC p s 4 0 none 0 0 0 0 0 0 0) 95)) (by simp)
  obtain ⟨x0, x1, x2, x3, x4, x5, x6, x7, x8, x9, xf⟩ := CmB.box (w.alloc (.cells (jkC p s 4 n a m c t wd h x y) 95)) p s 4 0 none 0 0 0 0 0 0 0
  rw [show (w.alloc (.cells (jkC p s 4 n a m c t wd h x y) 95)).heap.size = w.heap.size + 1 by simp] at *
  have f5 := xf 5
  have f6 := xf 6
  have f7 := xf 7
  have hz : w.heap.size < ((w.alloc (.cells (jkC p s 4 n a m c t wd h x y) 95)).alloc (.cells (jkC p s 4 0 none 0 0 0 0 0 0 0) 95)).heap.size := by simp; omega
  have hz1 : w.heap.size + 1 < ((w.alloc (.cells (jkC p s 4 n a m c t wd h x y) 95)).alloc (.cells (jkC p s 4 0 none 0 0 0 0 0 0 0) 95)).heap.size := by simp
  have CF := Hk.mk cf
  have XF := Hk.mk xf
  clear cf xf
  generalize ((w.alloc (.cells (jkC p s 4 n a m c t wd h x y) 95)).alloc (.cells (jkC p s 4 0 none 0 0 0 0 0 0 0) 95)) = W0 at *
  go_region
  have HC : Hk (Below w.heap.size w (((W0.setCell ⟨w.heap.size + 1, 5, none⟩ (.int .i64 t)).setCell ⟨w.heap.size + 1, 6, none⟩ (.int .i64 wd)).setCell ⟨w.heap.size + 1, 7, none⟩ (.int .i64 h)).drew) := ⟨Below.drew ((((HW0.out.setCell (p := ⟨w.heap.size + 1, 5, none⟩) (by simp) _).setCell (p := ⟨w.heap.size + 1, 6, none⟩) (by simp) _).setCell (p := ⟨w.heap.size + 1, 7, none⟩) (by simp) _))⟩
  have HCB : Hk (CmB (((W0.setCell ⟨w.heap.size + 1, 5, none⟩ (.int .i64 t)).setCell ⟨w.heap.size + 1, 6, none⟩ (.int .i64 wd)).setCell ⟨w.heap.size + 1, 7, none⟩ (.int .i64 h)).drew w.heap.size p s 4 n a m c t wd h x y) := ⟨⟨by go_simp, by go_simp, by go_simp, by go_simp, by go_simp, by go_simp, by go_simp, by go_simp, by go_simp, by go_simp, fun j => by have := CF.out j; go_simp⟩⟩
  have HXB : Hk (CmB (((W0.setCell ⟨w.heap.size + 1, 5, none⟩ (.int .i64 t)).setCell ⟨w.heap.size + 1, 6, none⟩ (.int .i64 wd)).setCell ⟨w.heap.size + 1, 7, none⟩ (.int .i64 h)).drew (w.heap.size + 1) p s 4 0 none 0 0 t wd h 0 0) := ⟨⟨by go_simp, by go_simp, by go_simp, by go_simp, by go_simp, by go_simp, by go_simp, by go_simp, by go_simp, by go_simp, fun j => by have := XF.out j; go_simp⟩⟩
  have hy : w.heap.size < (((W0.setCell ⟨w.heap.size + 1, 5, none⟩ (.int .i64 t)).setCell ⟨w.heap.size + 1, 6, none⟩ (.int .i64 wd)).setCell ⟨w.heap.size + 1, 7, none⟩ (.int .i64 h)).drew.heap.size := by simpa using hz
  have hy1 : w.heap.size + 1 < (((W0.setCell ⟨w.heap.size + 1, 5, none⟩ (.int .i64 t)).setCell ⟨w.heap.size + 1, 6, none⟩ (.int .i64 wd)).setCell ⟨w.heap.size + 1, 7, none⟩ (.int .i64 h)).drew.heap.size := by simpa using hz1
  clear c0 c1 c2 c3 c4 c5 c6 c7 c8 c9 x0 x1 x2 x3 x4 x5 x6 x7 x8 x9 f5 f6 f7 CF XF hz hz1 HW0
  generalize (((W0.setCell ⟨w.heap.size + 1, 5, none⟩ (.int .i64 t)).setCell ⟨w.heap.size + 1, 6, none⟩ (.int .i64 wd)).setCell ⟨w.heap.size + 1, 7, none⟩ (.int .i64 h)).drew = W1 at *
  obtain ⟨c0, c1, c2, c3, c4, c5, c6, c7, c8, c9, -⟩ := HCB.out
  obtain ⟨x0, x1, x2, x3, x4, x5, x6, x7, x8, x9, -⟩ := HXB.out
  go_wp2_with (first | (go_at_call 107; (with_reducible refine (rtile22_as true t _ F0).mono ?_); rintro e w' ⟨rfl, rfl⟩))
  go_ret
  exact ⟨rb R.out, HC.out⟩
 have d1 : decide (wd ≤ 4) = true := by simp; omega
 by_cases k2 : ¬ (1 ≤ h)
 ·have d2 : decide (1 ≤ h) = false := by simp; omega
  have R : Hk (false = r) := ⟨by rw [← E.out]; unfold refC; rw [BB.out]; simp [vB]; intros; omega⟩
  clear E
  go_enter Tryz.func95, Tryz.ntmps95
  go_wp2_with (go_at_call 29; (with_reducible refine (rnum22_as true s 1099511627776 _ E1).mono ?_); rintro e w' ⟨rfl, rfl⟩)
  obtain ⟨c0, c1, c2, c3, c4, c5, c6, c7, c8, c9, cf⟩ := (CmB.box w p s 4 n a m c t wd h x y).below ((Below.refl _ _).alloc (Nat.le_refl _) (.cells (jkC p s 4 0 none 0 0 0 0 0 0 0) 95)) (by simp)
  obtain ⟨x0, x1, x2, x3, x4, x5, x6, x7, x8, x9, xf⟩ := CmB.box (w.alloc (.cells (jkC p s 4 n a m c t wd h x y) 95)) p s 4 0 none 0 0 0 0 0 0 0
  rw [show (w.alloc (.cells (jkC p s 4 n a m c t wd h x y) 95)).heap.size = w.heap.size + 1 by simp] at *
  have f5 := xf 5
  have f6 := xf 6
  have f7 := xf 7
  have hz : w.heap.size < ((w.alloc (.cells (jkC p s 4 n a m c t wd h x y) 95)).alloc (.cells (jkC p s 4 0 none 0 0 0 0 0 0 0) 95)).heap.size := by simp; omega
  have hz1 : w.heap.size + 1 < ((w.alloc (.cells (jkC p s 4 n a m c t wd h x y) 95)).alloc (.cells (jkC p s 4 0 none 0 0 0 0 0 0 0) 95)).heap.size := by simp
  have CF := Hk.mk cf
  have XF := Hk.mk xf
  clear cf xf
  generalize ((w.alloc (.cells (jkC p s 4 n a m c t wd h x y) 95)).alloc (.cells (jkC p s 4 0 none 0 0 0 0 0 0 0) 95)) = W0 at *
  go_region
  have HC : Hk (Below w.heap.size w (((W0.setCell ⟨w.heap.size + 1, 5, none⟩ (.int .i64 t)).setCell ⟨w.heap.size + 1, 6, none⟩ (.int .i64 wd)).setCell ⟨w.heap.size + 1, 7, none⟩ (.int .i64 h)).drew) := ⟨Below.drew ((((HW0.out.setCell (p := ⟨w.heap.size + 1, 5, none⟩) (by simp) _).setCell (p := ⟨w.heap.size + 1, 6, none⟩) (by simp) _).setCell (p := ⟨w.heap.size + 1, 7, none⟩) (by simp) _))⟩
  have HCB : Hk (CmB (((W0.setCell ⟨w.heap.size + 1, 5, none⟩ (.int .i64 t)).setCell ⟨w.heap.size + 1, 6, none⟩ (.int .i64 wd)).setCell ⟨w.heap.size + 1, 7, none⟩ (.int .i64 h)).drew w.heap.size p s 4 n a m c t wd h x y) := ⟨⟨by go_simp, by go_simp, by go_simp, by go_simp, by go_simp, by go_simp, by go_simp, by go_simp, by go_simp, by go_simp, fun j => by have := CF.out j; go_simp⟩⟩
  have HXB : Hk (CmB (((W0.setCell ⟨w.heap.size + 1, 5, none⟩ (.int .i64 t)).setCell ⟨w.heap.size + 1, 6, none⟩ (.int .i64 wd)).setCell ⟨w.heap.size + 1, 7, none⟩ (.int .i64 h)).drew (w.heap.size + 1) p s 4 0 none 0 0 t wd h 0 0) := ⟨⟨by go_simp, by go_simp, by go_simp, by go_simp, by go_simp, by go_simp, by go_simp, by go_simp, by go_simp, by go_simp, fun j => by have := XF.out j; go_simp⟩⟩
  have hy : w.heap.size < (((W0.setCell ⟨w.heap.size + 1, 5, none⟩ (.int .i64 t)).setCell ⟨w.heap.size + 1, 6, none⟩ (.int .i64 wd)).setCell ⟨w.heap.size + 1, 7, none⟩ (.int .i64 h)).drew.heap.size := by simpa using hz
  have hy1 : w.heap.size + 1 < (((W0.setCell ⟨w.heap.size + 1, 5, none⟩ (.int .i64 t)).setCell ⟨w.heap.size + 1, 6, none⟩ (.int .i64 wd)).setCell ⟨w.heap.size + 1, 7, none⟩ (.int .i64 h)).drew.heap.size := by simpa using hz1
  clear c0 c1 c2 c3 c4 c5 c6 c7 c8 c9 x0 x1 x2 x3 x4 x5 x6 x7 x8 x9 f5 f6 f7 CF XF hz hz1 HW0
  generalize (((W0.setCell ⟨w.heap.size + 1, 5, none⟩ (.int .i64 t)).setCell ⟨w.heap.size + 1, 6, none⟩ (.int .i64 wd)).setCell ⟨w.heap.size + 1, 7, none⟩ (.int .i64 h)).drew = W1 at *
  obtain ⟨c0, c1, c2, c3, c4, c5, c6, c7, c8, c9, -⟩ := HCB.out
  obtain ⟨x0, x1, x2, x3, x4, x5, x6, x7, x8, x9, -⟩ := HXB.out
  go_wp2_with (first | (go_at_call 107; (with_reducible refine (rtile22_as true t _ F0).mono ?_); rintro e w' ⟨rfl, rfl⟩))
  go_ret
  exact ⟨rb R.out, HC.out⟩
 have d2 : decide (1 ≤ h) = true := by simp; omega
 by_cases k3 : ¬ (h ≤ 4)
 ·have d3 : decide (h ≤ 4) = false := by simp; omega
  have R : Hk (false = r) := ⟨by rw [← E.out]; unfold refC; rw [BB.out]; simp [vB]; intros; omega⟩
  clear E
  go_enter Tryz.func95, Tryz.ntmps95
  go_wp2_with (go_at_call 29; (with_reducible refine (rnum22_as true s 1099511627776 _ E1).mono ?_); rintro e w' ⟨rfl, rfl⟩)
  obtain ⟨c0, c1, c2, c3, c4, c5, c6, c7, c8, c9, cf⟩ := (CmB.box w p s 4 n a m c t wd h x y).below ((Below.refl _ _).alloc (Nat.le_refl _) (.cells (jkC p s 4 0 none 0 0 0 0 0 0 0) 95)) (by simp)
  obtain ⟨x0, x1, x2, x3, x4, x5, x6, x7, x8, x9, xf⟩ := CmB.box (w.alloc (.cells (jkC p s 4 n a m c t wd h x y) 95)) p s 4 0 none 0 0 0 0 0 0 0
  rw [show (w.alloc (.cells (jkC p s 4 n a m c t wd h x y) 95)).heap.size = w.heap.size + 1 by simp] at *
  have f5 := xf 5
  have f6 := xf 6
  have f7 := xf 7
  have hz : w.heap.size < ((w.alloc (.cells (jkC p s 4 n a m c t wd h x y) 95)).alloc (.cells (jkC p s 4 0 none 0 0 0 0 0 0 0) 95)).heap.size := by simp; omega
  have hz1 : w.heap.size + 1 < ((w.alloc (.cells (jkC p s 4 n a m c t wd h x y) 95)).alloc (.cells (jkC p s 4 0 none 0 0 0 0 0 0 0) 95)).heap.size := by simp
  have CF := Hk.mk cf
  have XF := Hk.mk xf
  clear cf xf
  generalize ((w.alloc (.cells (jkC p s 4 n a m c t wd h x y) 95)).alloc (.cells (jkC p s 4 0 none 0 0 0 0 0 0 0) 95)) = W0 at *
  go_region
  have HC : Hk (Below w.heap.size w (((W0.setCell ⟨w.heap.size + 1, 5, none⟩ (.int .i64 t)).setCell ⟨w.heap.size + 1, 6, none⟩ (.int .i64 wd)).setCell ⟨w.heap.size + 1, 7, none⟩ (.int .i64 h)).drew) := ⟨Below.drew ((((HW0.out.setCell (p := ⟨w.heap.size + 1, 5, none⟩) (by simp) _).setCell (p := ⟨w.heap.size + 1, 6, none⟩) (by simp) _).setCell (p := ⟨w.heap.size + 1, 7, none⟩) (by simp) _))⟩
  have HCB : Hk (CmB (((W0.setCell ⟨w.heap.size + 1, 5, none⟩ (.int .i64 t)).setCell ⟨w.heap.size + 1, 6, none⟩ (.int .i64 wd)).setCell ⟨w.heap.size + 1, 7, none⟩ (.int .i64 h)).drew w.heap.size p s 4 n a m c t wd h x y) := ⟨⟨by go_simp, by go_simp, by go_simp, by go_simp, by go_simp, by go_simp, by go_simp, by go_simp, by go_simp, by go_simp, fun j => by have := CF.out j; go_simp⟩⟩
  have HXB : Hk (CmB (((W0.setCell ⟨w.heap.size + 1, 5, none⟩ (.int .i64 t)).setCell ⟨w.heap.size + 1, 6, none⟩ (.int .i64 wd)).setCell ⟨w.heap.size + 1, 7, none⟩ (.int .i64 h)).drew (w.heap.size + 1) p s 4 0 none 0 0 t wd h 0 0) := ⟨⟨by go_simp, by go_simp, by go_simp, by go_simp, by go_simp, by go_simp, by go_simp, by go_simp, by go_simp, by go_simp, fun j => by have := XF.out j; go_simp⟩⟩
  have hy : w.heap.size < (((W0.setCell ⟨w.heap.size + 1, 5, none⟩ (.int .i64 t)).setCell ⟨w.heap.size + 1, 6, none⟩ (.int .i64 wd)).setCell ⟨w.heap.size + 1, 7, none⟩ (.int .i64 h)).drew.heap.size := by simpa using hz
  have hy1 : w.heap.size + 1 < (((W0.setCell ⟨w.heap.size + 1, 5, none⟩ (.int .i64 t)).setCell ⟨w.heap.size + 1, 6, none⟩ (.int .i64 wd)).setCell ⟨w.heap.size + 1, 7, none⟩ (.int .i64 h)).drew.heap.size := by simpa using hz1
  clear c0 c1 c2 c3 c4 c5 c6 c7 c8 c9 x0 x1 x2 x3 x4 x5 x6 x7 x8 x9 f5 f6 f7 CF XF hz hz1 HW0
  generalize (((W0.setCell ⟨w.heap.size + 1, 5, none⟩ (.int .i64 t)).setCell ⟨w.heap.size + 1, 6, none⟩ (.int .i64 wd)).setCell ⟨w.heap.size + 1, 7, none⟩ (.int .i64 h)).drew = W1 at *
  obtain ⟨c0, c1, c2, c3, c4, c5, c6, c7, c8, c9, -⟩ := HCB.out
  obtain ⟨x0, x1, x2, x3, x4, x5, x6, x7, x8, x9, -⟩ := HXB.out
  go_wp2_with (first | (go_at_call 107; (with_reducible refine (rtile22_as true t _ F0).mono ?_); rintro e w' ⟨rfl, rfl⟩))
  go_ret
  exact ⟨rb R.out, HC.out⟩
 have d3 : decide (h ≤ 4) = true := by simp; omega
 have EE : Hk (eqcB p s 4 0 [] t wd h 0 0 p s 4 n u t wd h x y = r) := ⟨by
  rw [← E.out]; unfold refC eqcB; rw [BB.out, Bool.eq_iff_iff]
  simp at h0
  simp [vB]
  first | done | grind | omega⟩
 clear E h0
 go_enter Tryz.func95, Tryz.ntmps95
 go_wp2_with (go_at_call 29; (with_reducible refine (rnum22_as true s 1099511627776 _ E1).mono ?_); rintro e w' ⟨rfl, rfl⟩)
 obtain ⟨c0, c1, c2, c3, c4, c5, c6, c7, c8, c9, cf⟩ := (CmB.box w p s 4 n a m c t wd h x y).below ((Below.refl _ _).alloc (Nat.le_refl _) (.cells (jkC p s 4 0 none 0 0 0 0 0 0 0) 95)) (by simp)
 obtain ⟨x0, x1, x2, x3, x4, x5, x6, x7, x8, x9, xf⟩ := CmB.box (w.alloc (.cells (jkC p s 4 n a m c t wd h x y) 95)) p s 4 0 none 0 0 0 0 0 0 0
 rw [show (w.alloc (.cells (jkC p s 4 n a m c t wd h x y) 95)).heap.size = w.heap.size + 1 by simp] at *
 have f5 := xf 5
 have f6 := xf 6
 have f7 := xf 7
 have hz : w.heap.size < ((w.alloc (.cells (jkC p s 4 n a m c t wd h x y) 95)).alloc (.cells (jkC p s 4 0 none 0 0 0 0 0 0 0) 95)).heap.size := by simp; omega
 have hz1 : w.heap.size + 1 < ((w.alloc (.cells (jkC p s 4 n a m c t wd h x y) 95)).alloc (.cells (jkC p s 4 0 none 0 0 0 0 0 0 0) 95)).heap.size := by simp
 have CF := Hk.mk cf
 have XF := Hk.mk xf
 clear cf xf
 generalize ((w.alloc (.cells (jkC p s 4 n a m c t wd h x y) 95)).alloc (.cells (jkC p s 4 0 none 0 0 0 0 0 0 0) 95)) = W0 at *
 go_region
 have HC : Hk (Below w.heap.size w (((W0.setCell ⟨w.heap.size + 1, 5, none⟩ (.int .i64 t)).setCell ⟨w.heap.size + 1, 6, none⟩ (.int .i64 wd)).setCell ⟨w.heap.size + 1, 7, none⟩ (.int .i64 h)).drew) := ⟨Below.drew ((((HW0.out.setCell (p := ⟨w.heap.size + 1, 5, none⟩) (by simp) _).setCell (p := ⟨w.heap.size + 1, 6, none⟩) (by simp) _).setCell (p := ⟨w.heap.size + 1, 7, none⟩) (by simp) _))⟩
 have HCB : Hk (CmB (((W0.setCell ⟨w.heap.size + 1, 5, none⟩ (.int .i64 t)).setCell ⟨w.heap.size + 1, 6, none⟩ (.int .i64 wd)).setCell ⟨w.heap.size + 1, 7, none⟩ (.int .i64 h)).drew w.heap.size p s 4 n a m c t wd h x y) := ⟨⟨by go_simp, by go_simp, by go_simp, by go_simp, by go_simp, by go_simp, by go_simp, by go_simp, by go_simp, by go_simp, fun j => by have := CF.out j; go_simp⟩⟩
 have HXB : Hk (CmB (((W0.setCell ⟨w.heap.size + 1, 5, none⟩ (.int .i64 t)).setCell ⟨w.heap.size + 1, 6, none⟩ (.int .i64 wd)).setCell ⟨w.heap.size + 1, 7, none⟩ (.int .i64 h)).drew (w.heap.size + 1) p s 4 0 none 0 0 t wd h 0 0) := ⟨⟨by go_simp, by go_simp, by go_simp, by go_simp, by go_simp, by go_simp, by go_simp, by go_simp, by go_simp, by go_simp, fun j => by have := XF.out j; go_simp⟩⟩
 have hy : w.heap.size < (((W0.setCell ⟨w.heap.size + 1, 5, none⟩ (.int .i64 t)).setCell ⟨w.heap.size + 1, 6, none⟩ (.int .i64 wd)).setCell ⟨w.heap.size + 1, 7, none⟩ (.int .i64 h)).drew.heap.size := by simpa using hz
 have hy1 : w.heap.size + 1 < (((W0.setCell ⟨w.heap.size + 1, 5, none⟩ (.int .i64 t)).setCell ⟨w.heap.size + 1, 6, none⟩ (.int .i64 wd)).setCell ⟨w.heap.size + 1, 7, none⟩ (.int .i64 h)).drew.heap.size := by simpa using hz1
 clear c0 c1 c2 c3 c4 c5 c6 c7 c8 c9 x0 x1 x2 x3 x4 x5 x6 x7 x8 x9 f5 f6 f7 CF XF hz hz1 HW0
 generalize (((W0.setCell ⟨w.heap.size + 1, 5, none⟩ (.int .i64 t)).setCell ⟨w.heap.size + 1, 6, none⟩ (.int .i64 wd)).setCell ⟨w.heap.size + 1, 7, none⟩ (.int .i64 h)).drew = W1 at *
 obtain ⟨c0, c1, c2, c3, c4, c5, c6, c7, c8, c9, -⟩ := HCB.out
 obtain ⟨x0, x1, x2, x3, x4, x5, x6, x7, x8, x9, -⟩ := HXB.out
 go_wp2_with (first | (go_at_call 107; (with_reducible refine (rtile22_as true t _ F0).mono ?_); rintro e w' ⟨rfl, rfl⟩) | (go_at_call 78; (with_reducible refine (eqc_as r p s 4 0 none 0 0 [] t wd h 0 0 p s 4 n a m c u t wd h x y _ (Nq.nil _ _ _) (by omega) (HNA.out _ HC.out) hm EE).mono ?_); rintro e w9 ⟨rfl, hb9⟩; have HC := Hk.mk (HC.out.trans (hb9.mono HC.out.size)); clear hb9))
 go_ret
 exact ⟨rfl, HC.out⟩
end Go.Proofs.YtdpblimhfmfbnaaGreat
namespace Go.Proofs.YtdpblimhfmfbnaaGreat
open Go.RowKit
set_option maxRecDepth 100000 in
set_option maxHeartbeats 3200000 in
theorem rcmd5 (r : Bool) (p s n : Int) (a : Option Addr) (m c : Nat) (u : List Int) (t wd h x y : Int) (w : World) (hN : Nq w w.heap.size a m u) (hm : m ≤ 1099511627776) (E : Hk (refC p s 5 ⟨n, u, t, wd, h, x, y⟩ = r)) :
  Calls Tryz.prog 95 #[.agg (jkC p s 5 n a m c t wd h x y)] w fun e w' => e = .returned (.bool r) ∧ Below w.heap.size w w' := by
 have HNA : Hk (∀ X, Below w.heap.size w X → Nq X X.heap.size a m u) := ⟨fun X hX => (hN.below hX (Nat.le_refl _)).mono hX.size⟩
 clear hN
 have HW0 : Hk (Below w.heap.size w ((w.alloc (.cells (jkC p s 5 n a m c t wd h x y) 95)).alloc (.cells (jkC p s 5 0 none 0 0 0 0 0 0 0) 95))) := ⟨((Below.refl _ _).alloc (Nat.le_refl _) _).alloc (by simp) _⟩
 by_cases g0 : ¬ (1 ≤ p)
 ·have b0 : decide (1 ≤ p) = false := by simp; omega
  have R : Hk (false = r) := ⟨by rw [← E.out]; unfold refC baseB; simp; intros; omega⟩
  clear E
  have HC : Hk (Below w.heap.size w ((w.alloc (.cells (jkC p s 5 n a m c t wd h x y) 95)).alloc (.cells (jkC p s 5 n none 0 0 0 0 0 0 0) 95))) := ⟨((Below.refl _ _).alloc (Nat.le_refl _) _).alloc (by simp) _⟩
  go_enter Tryz.func95, Tryz.ntmps95
  go_wp2
  go_ret
  exact ⟨rb R.out, HC.out⟩
 have b0 : decide (1 ≤ p) = true := by simp; omega
 by_cases g1 : ¬ (p ≤ 8)
 ·have b1 : decide (p ≤ 8) = false := by simp; omega
  have R : Hk (false = r) := ⟨by rw [← E.out]; unfold refC baseB; simp; intros; omega⟩
  clear E
  have HC : Hk (Below w.heap.size w ((w.alloc (.cells (jkC p s 5 n a m c t wd h x y) 95)).alloc (.cells (jkC p s 5 n none 0 0 0 0 0 0 0) 95))) := ⟨((Below.refl _ _).alloc (Nat.le_refl _) _).alloc (by simp) _⟩
  go_enter Tryz.func95, Tryz.ntmps95
  go_wp2
  go_ret
  exact ⟨rb R.out, HC.out⟩
 have b1 : decide (p ≤ 8) = true := by simp; omega
 cases e1 : decide (0 ≤ s ∧ s ≤ 1099511627776)
 case false =>
  have E1 := Hk.mk e1
  have R : Hk (false = r) := ⟨by rw [← E.out]; simp at e1; unfold refC baseB; simp; intros; omega⟩
  clear E e1
  have HC : Hk (Below w.heap.size w ((w.alloc (.cells (jkC p s 5 n a m c t wd h x y) 95)).alloc (.cells (jkC p s 5 n none 0 0 0 0 0 0 0) 95))) := ⟨((Below.refl _ _).alloc (Nat.le_refl _) _).alloc (by simp) _⟩
  go_enter Tryz.func95, Tryz.ntmps95
  go_wp2_with (first | (go_at_call 29; (with_reducible refine (rnum22_as false s 1099511627776 _ E1).mono ?_); rintro e w' ⟨rfl, rfl⟩))
  go_ret
  exact ⟨rb R.out, HC.out⟩
 have E1 := Hk.mk e1
 have BB : Hk (baseB p s = true) := ⟨by simp at e1; unfold baseB; simp; omega⟩
 clear e1 g0 g1
 cases h0 : decide (1 ≤ n ∧ n ≤ 1099511627776)
 case false =>
  have R : Hk (false = r) := ⟨by rw [← E.out]; unfold refC; rw [BB.out]; simp at h0; simp [vB]; intros; omega⟩
  have F0 := Hk.mk h0
  clear E h0
  have HC : Hk (Below w.heap.size w ((w.alloc (.cells (jkC p s 5 n a m c t wd h x y) 95)).alloc (.cells (jkC p s 5 n none 0 0 0 0 0 0 0) 95))) := ⟨((Below.refl _ _).alloc (Nat.le_refl _) _).alloc (by simp) _⟩
  go_enter Tryz.func95, Tryz.ntmps95
  go_wp2_with (first | (go_at_call 29; (with_reducible refine (rnum22_as true s 1099511627776 _ E1).mono ?_); rintro e w' ⟨rfl, rfl⟩) | (go_at_call 108; (with_reducible refine (rid22_as false n _ F0).mono ?_); rintro e w' ⟨rfl, rfl⟩))
  go_ret
  exact ⟨rb R.out, HC.out⟩
 have F0 := Hk.mk h0
 have EE : Hk (eqcB p s 5 n [] 0 0 0 0 0 p s 5 n u t wd h x y = r) := ⟨by
  rw [← E.out]; unfold refC eqcB; rw [BB.out, Bool.eq_iff_iff]
  simp at h0
  simp [vB]
  first | done | grind | omega⟩
 clear E h0
 have HC : Hk (Below w.heap.size w ((w.alloc (.cells (jkC p s 5 n a m c t wd h x y) 95)).alloc (.cells (jkC p s 5 n none 0 0 0 0 0 0 0) 95))) := ⟨((Below.refl _ _).alloc (Nat.le_refl _) _).alloc (by simp) _⟩
 go_enter Tryz.func95, Tryz.ntmps95
 go_wp2_with (first | (go_at_call 29; (with_reducible refine (rnum22_as true s 1099511627776 _ E1).mono ?_); rintro e w' ⟨rfl, rfl⟩) | (go_at_call 108; (with_reducible refine (rid22_as true n _ F0).mono ?_); rintro e w' ⟨rfl, rfl⟩) | (go_at_call 78; (with_reducible refine (eqc_as r p s 5 n none 0 0 [] 0 0 0 0 0 p s 5 n a m c u t wd h x y _ (Nq.nil _ _ _) (by omega) (HNA.out _ HC.out) hm EE).mono ?_); rintro e w9 ⟨rfl, hb9⟩; have HC := Hk.mk (HC.out.trans (hb9.mono HC.out.size)); clear hb9))
 go_ret
 exact ⟨rfl, HC.out⟩
set_option maxRecDepth 100000 in
set_option maxHeartbeats 3200000 in
theorem rcmd6 (r : Bool) (p s n : Int) (a : Option Addr) (m c : Nat) (u : List Int) (t wd h x y : Int) (w : World) (hN : Nq w w.heap.size a m u) (hm : m ≤ 1099511627776) (E : Hk (refC p s 6 ⟨n, u, t, wd, h, x, y⟩ = r)) :
  Calls Tryz.prog 95 #[.agg (jkC p s 6 n a m c t wd h x y)] w fun e w' => e = .returned (.bool r) ∧ Below w.heap.size w w' := by
 have HNA : Hk (∀ X, Below w.heap.size w X → Nq X X.heap.size a m u) := ⟨fun X hX => (hN.below hX (Nat.le_refl _)).mono hX.size⟩
 clear hN
 have HW0 : Hk (Below w.heap.size w ((w.alloc (.cells (jkC p s 6 n a m c t wd h x y) 95)).alloc (.cells (jkC p s 6 0 none 0 0 0 0 0 0 0) 95))) := ⟨((Below.refl _ _).alloc (Nat.le_refl _) _).alloc (by simp) _⟩
 by_cases g0 : ¬ (1 ≤ p)
 ·have b0 : decide (1 ≤ p) = false := by simp; omega
  have R : Hk (false = r) := ⟨by rw [← E.out]; unfold refC baseB; simp; intros; omega⟩
  clear E
  go_enter Tryz.func95, Tryz.ntmps95
  go_wp2
  obtain ⟨c0, c1, c2, c3, c4, c5, c6, c7, c8, c9, cf⟩ := (CmB.box w p s 6 n a m c t wd h x y).below ((Below.refl _ _).alloc (Nat.le_refl _) (.cells (jkC p s 6 0 none 0 0 0 0 0 0 0) 95)) (by simp)
  obtain ⟨x0, x1, x2, x3, x4, x5, x6, x7, x8, x9, xf⟩ := CmB.box (w.alloc (.cells (jkC p s 6 n a m c t wd h x y) 95)) p s 6 0 none 0 0 0 0 0 0 0
  rw [show (w.alloc (.cells (jkC p s 6 n a m c t wd h x y) 95)).heap.size = w.heap.size + 1 by simp] at *
  have f4 := xf 4
  have f3 := xf 3
  have hz : w.heap.size < ((w.alloc (.cells (jkC p s 6 n a m c t wd h x y) 95)).alloc (.cells (jkC p s 6 0 none 0 0 0 0 0 0 0) 95)).heap.size := by simp; omega
  have hz1 : w.heap.size + 1 < ((w.alloc (.cells (jkC p s 6 n a m c t wd h x y) 95)).alloc (.cells (jkC p s 6 0 none 0 0 0 0 0 0 0) 95)).heap.size := by simp
  have CF := Hk.mk cf
  have XF := Hk.mk xf
  clear cf xf
  generalize ((w.alloc (.cells (jkC p s 6 n a m c t wd h x y) 95)).alloc (.cells (jkC p s 6 0 none 0 0 0 0 0 0 0) 95)) = W0 at *
  go_region
  have HC : Hk (Below w.heap.size w ((W0.setCell ⟨w.heap.size + 1, 4, none⟩ (.slice a m c)).setCell ⟨w.heap.size + 1, 3, none⟩ (.int .i64 n)).drew) := ⟨Below.drew (((HW0.out.setCell (p := ⟨w.heap.size + 1, 4, none⟩) (by simp) _).setCell (p := ⟨w.heap.size + 1, 3, none⟩) (by simp) _))⟩
  have HCB : Hk (CmB ((W0.setCell ⟨w.heap.size + 1, 4, none⟩ (.slice a m c)).setCell ⟨w.heap.size + 1, 3, none⟩ (.int .i64 n)).drew w.heap.size p s 6 n a m c t wd h x y) := ⟨⟨by go_simp, by go_simp, by go_simp, by go_simp, by go_simp, by go_simp, by go_simp, by go_simp, by go_simp, by go_simp, fun j => by have := CF.out j; go_simp⟩⟩
  have HXB : Hk (CmB ((W0.setCell ⟨w.heap.size + 1, 4, none⟩ (.slice a m c)).setCell ⟨w.heap.size + 1, 3, none⟩ (.int .i64 n)).drew (w.heap.size + 1) p s 6 n a m c 0 0 0 0 0) := ⟨⟨by go_simp, by go_simp, by go_simp, by go_simp, by go_simp, by go_simp, by go_simp, by go_simp, by go_simp, by go_simp, fun j => by have := XF.out j; go_simp⟩⟩
  have hy : w.heap.size < ((W0.setCell ⟨w.heap.size + 1, 4, none⟩ (.slice a m c)).setCell ⟨w.heap.size + 1, 3, none⟩ (.int .i64 n)).drew.heap.size := by simpa using hz
  have hy1 : w.heap.size + 1 < ((W0.setCell ⟨w.heap.size + 1, 4, none⟩ (.slice a m c)).setCell ⟨w.heap.size + 1, 3, none⟩ (.int .i64 n)).drew.heap.size := by simpa using hz1
  clear c0 c1 c2 c3 c4 c5 c6 c7 c8 c9 x0 x1 x2 x3 x4 x5 x6 x7 x8 x9 f4 f3 CF XF hz hz1 HW0
  generalize ((W0.setCell ⟨w.heap.size + 1, 4, none⟩ (.slice a m c)).setCell ⟨w.heap.size + 1, 3, none⟩ (.int .i64 n)).drew = W1 at *
  obtain ⟨c0, c1, c2, c3, c4, c5, c6, c7, c8, c9, -⟩ := HCB.out
  obtain ⟨x0, x1, x2, x3, x4, x5, x6, x7, x8, x9, -⟩ := HXB.out
  go_wp2
  go_ret
  exact ⟨rb R.out, HC.out⟩
 have b0 : decide (1 ≤ p) = true := by simp; omega
 by_cases g1 : ¬ (p ≤ 8)
 ·have b1 : decide (p ≤ 8) = false := by simp; omega
  have R : Hk (false = r) := ⟨by rw [← E.out]; unfold refC baseB; simp; intros; omega⟩
  clear E
  go_enter Tryz.func95, Tryz.ntmps95
  go_wp2
  obtain ⟨c0, c1, c2, c3, c4, c5, c6, c7, c8, c9, cf⟩ := (CmB.box w p s 6 n a m c t wd h x y).below ((Below.refl _ _).alloc (Nat.le_refl _) (.cells (jkC p s 6 0 none 0 0 0 0 0 0 0) 95)) (by simp)
  obtain ⟨x0, x1, x2, x3, x4, x5, x6, x7, x8, x9, xf⟩ := CmB.box (w.alloc (.cells (jkC p s 6 n a m c t wd h x y) 95)) p s 6 0 none 0 0 0 0 0 0 0
  rw [show (w.alloc (.cells (jkC p s 6 n a m c t wd h x y) 95)).heap.size = w.heap.size + 1 by simp] at *
  have f4 := xf 4
  have f3 := xf 3
  have hz : w.heap.size < ((w.alloc (.cells (jkC p s 6 n a m c t wd h x y) 95)).alloc (.cells (jkC p s 6 0 none 0 0 0 0 0 0 0) 95)).heap.size := by simp; omega
  have hz1 : w.heap.size + 1 < ((w.alloc (.cells (jkC p s 6 n a m c t wd h x y) 95)).alloc (.cells (jkC p s 6 0 none 0 0 0 0 0 0 0) 95)).heap.size := by simp
  have CF := Hk.mk cf
  have XF := Hk.mk xf
  clear cf xf
  generalize ((w.alloc (.cells (jkC p s 6 n a m c t wd h x y) 95)).alloc (.cells (jkC p s 6 0 none 0 0 0 0 0 0 0) 95)) = W0 at *
  go_region
  have HC : Hk (Below w.heap.size w ((W0.setCell ⟨w.heap.size + 1, 4, none⟩ (.slice a m c)).setCell ⟨w.heap.size + 1, 3, none⟩ (.int .i64 n)).drew) := ⟨Below.drew (((HW0.out.setCell (p := ⟨w.heap.size + 1, 4, none⟩) (by simp) _).setCell (p := ⟨w.heap.size + 1, 3, none⟩) (by simp) _))⟩
  have HCB : Hk (CmB ((W0.setCell ⟨w.heap.size + 1, 4, none⟩ (.slice a m c)).setCell ⟨w.heap.size + 1, 3, none⟩ (.int .i64 n)).drew w.heap.size p s 6 n a m c t wd h x y) := ⟨⟨by go_simp, by go_simp, by go_simp, by go_simp, by go_simp, by go_simp, by go_simp, by go_simp, by go_simp, by go_simp, fun j => by have := CF.out j; go_simp⟩⟩
  have HXB : Hk (CmB ((W0.setCell ⟨w.heap.size + 1, 4, none⟩ (.slice a m c)).setCell ⟨w.heap.size + 1, 3, none⟩ (.int .i64 n)).drew (w.heap.size + 1) p s 6 n a m c 0 0 0 0 0) := ⟨⟨by go_simp, by go_simp, by go_simp, by go_simp, by go_simp, by go_simp, by go_simp, by go_simp, by go_simp, by go_simp, fun j => by have := XF.out j; go_simp⟩⟩
  have hy : w.heap.size < ((W0.setCell ⟨w.heap.size + 1, 4, none⟩ (.slice a m c)).setCell ⟨w.heap.size + 1, 3, none⟩ (.int .i64 n)).drew.heap.size := by simpa using hz
  have hy1 : w.heap.size + 1 < ((W0.setCell ⟨w.heap.size + 1, 4, none⟩ (.slice a m c)).setCell ⟨w.heap.size + 1, 3, none⟩ (.int .i64 n)).drew.heap.size := by simpa using hz1
  clear c0 c1 c2 c3 c4 c5 c6 c7 c8 c9 x0 x1 x2 x3 x4 x5 x6 x7 x8 x9 f4 f3 CF XF hz hz1 HW0
  generalize ((W0.setCell ⟨w.heap.size + 1, 4, none⟩ (.slice a m c)).setCell ⟨w.heap.size + 1, 3, none⟩ (.int .i64 n)).drew = W1 at *
  obtain ⟨c0, c1, c2, c3, c4, c5, c6, c7, c8, c9, -⟩ := HCB.out
  obtain ⟨x0, x1, x2, x3, x4, x5, x6, x7, x8, x9, -⟩ := HXB.out
  go_wp2
  go_ret
  exact ⟨rb R.out, HC.out⟩
 have b1 : decide (p ≤ 8) = true := by simp; omega
 cases e1 : decide (0 ≤ s ∧ s ≤ 1099511627776)
 case false =>
  have E1 := Hk.mk e1
  have R : Hk (false = r) := ⟨by rw [← E.out]; simp at e1; unfold refC baseB; simp; intros; omega⟩
  clear E e1
  go_enter Tryz.func95, Tryz.ntmps95
  go_wp2_with (go_at_call 29; (with_reducible refine (rnum22_as false s 1099511627776 _ E1).mono ?_); rintro e w' ⟨rfl, rfl⟩)
  obtain ⟨c0, c1, c2, c3, c4, c5, c6, c7, c8, c9, cf⟩ := (CmB.box w p s 6 n a m c t wd h x y).below ((Below.refl _ _).alloc (Nat.le_refl _) (.cells (jkC p s 6 0 none 0 0 0 0 0 0 0) 95)) (by simp)
  obtain ⟨x0, x1, x2, x3, x4, x5, x6, x7, x8, x9, xf⟩ := CmB.box (w.alloc (.cells (jkC p s 6 n a m c t wd h x y) 95)) p s 6 0 none 0 0 0 0 0 0 0
  rw [show (w.alloc (.cells (jkC p s 6 n a m c t wd h x y) 95)).heap.size = w.heap.size + 1 by simp] at *
  have f4 := xf 4
  have f3 := xf 3
  have hz : w.heap.size < ((w.alloc (.cells (jkC p s 6 n a m c t wd h x y) 95)).alloc (.cells (jkC p s 6 0 none 0 0 0 0 0 0 0) 95)).heap.size := by simp; omega
  have hz1 : w.heap.size + 1 < ((w.alloc (.cells (jkC p s 6 n a m c t wd h x y) 95)).alloc (.cells (jkC p s 6 0 none 0 0 0 0 0 0 0) 95)).heap.size := by simp
  have CF := Hk.mk cf
  have XF := Hk.mk xf
  clear cf xf
  generalize ((w.alloc (.cells (jkC p s 6 n a m c t wd h x y) 95)).alloc (.cells (jkC p s 6 0 none 0 0 0 0 0 0 0) 95)) = W0 at *
  go_region
  have HC : Hk (Below w.heap.size w ((W0.setCell ⟨w.heap.size + 1, 4, none⟩ (.slice a m c)).setCell ⟨w.heap.size + 1, 3, none⟩ (.int .i64 n)).drew) := ⟨Below.drew (((HW0.out.setCell (p := ⟨w.heap.size + 1, 4, none⟩) (by simp) _).setCell (p := ⟨w.heap.size + 1, 3, none⟩) (by simp) _))⟩
  have HCB : Hk (CmB ((W0.setCell ⟨w.heap.size + 1, 4, none⟩ (.slice a m c)).setCell ⟨w.heap.size + 1, 3, none⟩ (.int .i64 n)).drew w.heap.size p s 6 n a m c t wd h x y) := ⟨⟨by go_simp, by go_simp, by go_simp, by go_simp, by go_simp, by go_simp, by go_simp, by go_simp, by go_simp, by go_simp, fun j => by have := CF.out j; go_simp⟩⟩
  have HXB : Hk (CmB ((W0.setCell ⟨w.heap.size + 1, 4, none⟩ (.slice a m c)).setCell ⟨w.heap.size + 1, 3, none⟩ (.int .i64 n)).drew (w.heap.size + 1) p s 6 n a m c 0 0 0 0 0) := ⟨⟨by go_simp, by go_simp, by go_simp, by go_simp, by go_simp, by go_simp, by go_simp, by go_simp, by go_simp, by go_simp, fun j => by have := XF.out j; go_simp⟩⟩
  have hy : w.heap.size < ((W0.setCell ⟨w.heap.size + 1, 4, none⟩ (.slice a m c)).setCell ⟨w.heap.size + 1, 3, none⟩ (.int .i64 n)).drew.heap.size := by simpa using hz
  have hy1 : w.heap.size + 1 < ((W0.setCell ⟨w.heap.size + 1, 4, none⟩ (.slice a m c)).setCell ⟨w.heap.size + 1, 3, none⟩ (.int .i64 n)).drew.heap.size := by simpa using hz1
  clear c0 c1 c2 c3 c4 c5 c6 c7 c8 c9 x0 x1 x2 x3 x4 x5 x6 x7 x8 x9 f4 f3 CF XF hz hz1 HW0
  generalize ((W0.setCell ⟨w.heap.size + 1, 4, none⟩ (.slice a m c)).setCell ⟨w.heap.size + 1, 3, none⟩ (.int .i64 n)).drew = W1 at *
  obtain ⟨c0, c1, c2, c3, c4, c5, c6, c7, c8, c9, -⟩ := HCB.out
  obtain ⟨x0, x1, x2, x3, x4, x5, x6, x7, x8, x9, -⟩ := HXB.out
  go_wp2
  go_ret
  exact ⟨rb R.out, HC.out⟩
 have E1 := Hk.mk e1
 have BB : Hk (baseB p s = true) := ⟨by simp at e1; unfold baseB; simp; omega⟩
 clear e1 g0 g1
 cases h0 : idsB u
 case false =>
  have R : Hk (false = r) := ⟨by rw [← E.out]; unfold refC; rw [BB.out]; simp [vB, h0]⟩
  have F0 := Hk.mk h0
  clear E h0
  go_enter Tryz.func95, Tryz.ntmps95
  go_wp2_with (go_at_call 29; (with_reducible refine (rnum22_as true s 1099511627776 _ E1).mono ?_); rintro e w' ⟨rfl, rfl⟩)
  obtain ⟨c0, c1, c2, c3, c4, c5, c6, c7, c8, c9, cf⟩ := (CmB.box w p s 6 n a m c t wd h x y).below ((Below.refl _ _).alloc (Nat.le_refl _) (.cells (jkC p s 6 0 none 0 0 0 0 0 0 0) 95)) (by simp)
  obtain ⟨x0, x1, x2, x3, x4, x5, x6, x7, x8, x9, xf⟩ := CmB.box (w.alloc (.cells (jkC p s 6 n a m c t wd h x y) 95)) p s 6 0 none 0 0 0 0 0 0 0
  rw [show (w.alloc (.cells (jkC p s 6 n a m c t wd h x y) 95)).heap.size = w.heap.size + 1 by simp] at *
  have f4 := xf 4
  have f3 := xf 3
  have hz : w.heap.size < ((w.alloc (.cells (jkC p s 6 n a m c t wd h x y) 95)).alloc (.cells (jkC p s 6 0 none 0 0 0 0 0 0 0) 95)).heap.size := by simp; omega
  have hz1 : w.heap.size + 1 < ((w.alloc (.cells (jkC p s 6 n a m c t wd h x y) 95)).alloc (.cells (jkC p s 6 0 none 0 0 0 0 0 0 0) 95)).heap.size := by simp
  have CF := Hk.mk cf
  have XF := Hk.mk xf
  clear cf xf
  generalize ((w.alloc (.cells (jkC p s 6 n a m c t wd h x y) 95)).alloc (.cells (jkC p s 6 0 none 0 0 0 0 0 0 0) 95)) = W0 at *
  go_region
  have HC : Hk (Below w.heap.size w ((W0.setCell ⟨w.heap.size + 1, 4, none⟩ (.slice a m c)).setCell ⟨w.heap.size + 1, 3, none⟩ (.int .i64 n)).drew) := ⟨Below.drew (((HW0.out.setCell (p := ⟨w.heap.size + 1, 4, none⟩) (by simp) _).setCell (p := ⟨w.heap.size + 1, 3, none⟩) (by simp) _))⟩
  have HCB : Hk (CmB ((W0.setCell ⟨w.heap.size + 1, 4, none⟩ (.slice a m c)).setCell ⟨w.heap.size + 1, 3, none⟩ (.int .i64 n)).drew w.heap.size p s 6 n a m c t wd h x y) := ⟨⟨by go_simp, by go_simp, by go_simp, by go_simp, by go_simp, by go_simp, by go_simp, by go_simp, by go_simp, by go_simp, fun j => by have := CF.out j; go_simp⟩⟩
  have HXB : Hk (CmB ((W0.setCell ⟨w.heap.size + 1, 4, none⟩ (.slice a m c)).setCell ⟨w.heap.size + 1, 3, none⟩ (.int .i64 n)).drew (w.heap.size + 1) p s 6 n a m c 0 0 0 0 0) := ⟨⟨by go_simp, by go_simp, by go_simp, by go_simp, by go_simp, by go_simp, by go_simp, by go_simp, by go_simp, by go_simp, fun j => by have := XF.out j; go_simp⟩⟩
  have hy : w.heap.size < ((W0.setCell ⟨w.heap.size + 1, 4, none⟩ (.slice a m c)).setCell ⟨w.heap.size + 1, 3, none⟩ (.int .i64 n)).drew.heap.size := by simpa using hz
  have hy1 : w.heap.size + 1 < ((W0.setCell ⟨w.heap.size + 1, 4, none⟩ (.slice a m c)).setCell ⟨w.heap.size + 1, 3, none⟩ (.int .i64 n)).drew.heap.size := by simpa using hz1
  clear c0 c1 c2 c3 c4 c5 c6 c7 c8 c9 x0 x1 x2 x3 x4 x5 x6 x7 x8 x9 f4 f3 CF XF hz hz1 HW0
  generalize ((W0.setCell ⟨w.heap.size + 1, 4, none⟩ (.slice a m c)).setCell ⟨w.heap.size + 1, 3, none⟩ (.int .i64 n)).drew = W1 at *
  obtain ⟨c0, c1, c2, c3, c4, c5, c6, c7, c8, c9, -⟩ := HCB.out
  obtain ⟨x0, x1, x2, x3, x4, x5, x6, x7, x8, x9, -⟩ := HXB.out
  go_wp2_with (first | (go_at_call 106; (with_reducible refine (rids_as false a m c u _ (HNA.out _ HC.out) hm F0).mono ?_); rintro e w' ⟨rfl, mm, rfl⟩; have HC := Hk.mk (below_drewN HC.out mm)))
  go_ret
  exact ⟨rb R.out, HC.out⟩
 have F0 := Hk.mk h0
 cases h1 : decide (1 ≤ n ∧ n ≤ 1099511627776)
 case false =>
  have R : Hk (false = r) := ⟨by rw [← E.out]; unfold refC; rw [BB.out]; simp at h1; simp [vB]; intros; omega⟩
  have F1 := Hk.mk h1
  clear E h1
  go_enter Tryz.func95, Tryz.ntmps95
  go_wp2_with (go_at_call 29; (with_reducible refine (rnum22_as true s 1099511627776 _ E1).mono ?_); rintro e w' ⟨rfl, rfl⟩)
  obtain ⟨c0, c1, c2, c3, c4, c5, c6, c7, c8, c9, cf⟩ := (CmB.box w p s 6 n a m c t wd h x y).below ((Below.refl _ _).alloc (Nat.le_refl _) (.cells (jkC p s 6 0 none 0 0 0 0 0 0 0) 95)) (by simp)
  obtain ⟨x0, x1, x2, x3, x4, x5, x6, x7, x8, x9, xf⟩ := CmB.box (w.alloc (.cells (jkC p s 6 n a m c t wd h x y) 95)) p s 6 0 none 0 0 0 0 0 0 0
  rw [show (w.alloc (.cells (jkC p s 6 n a m c t wd h x y) 95)).heap.size = w.heap.size + 1 by simp] at *
  have f4 := xf 4
  have f3 := xf 3
  have hz : w.heap.size < ((w.alloc (.cells (jkC p s 6 n a m c t wd h x y) 95)).alloc (.cells (jkC p s 6 0 none 0 0 0 0 0 0 0) 95)).heap.size := by simp; omega
  have hz1 : w.heap.size + 1 < ((w.alloc (.cells (jkC p s 6 n a m c t wd h x y) 95)).alloc (.cells (jkC p s 6 0 none 0 0 0 0 0 0 0) 95)).heap.size := by simp
  have CF := Hk.mk cf
  have XF := Hk.mk xf
  clear cf xf
  generalize ((w.alloc (.cells (jkC p s 6 n a m c t wd h x y) 95)).alloc (.cells (jkC p s 6 0 none 0 0 0 0 0 0 0) 95)) = W0 at *
  go_region
  have HC : Hk (Below w.heap.size w ((W0.setCell ⟨w.heap.size + 1, 4, none⟩ (.slice a m c)).setCell ⟨w.heap.size + 1, 3, none⟩ (.int .i64 n)).drew) := ⟨Below.drew (((HW0.out.setCell (p := ⟨w.heap.size + 1, 4, none⟩) (by simp) _).setCell (p := ⟨w.heap.size + 1, 3, none⟩) (by simp) _))⟩
  have HCB : Hk (CmB ((W0.setCell ⟨w.heap.size + 1, 4, none⟩ (.slice a m c)).setCell ⟨w.heap.size + 1, 3, none⟩ (.int .i64 n)).drew w.heap.size p s 6 n a m c t wd h x y) := ⟨⟨by go_simp, by go_simp, by go_simp, by go_simp, by go_simp, by go_simp, by go_simp, by go_simp, by go_simp, by go_simp, fun j => by have := CF.out j; go_simp⟩⟩
  have HXB : Hk (CmB ((W0.setCell ⟨w.heap.size + 1, 4, none⟩ (.slice a m c)).setCell ⟨w.heap.size + 1, 3, none⟩ (.int .i64 n)).drew (w.heap.size + 1) p s 6 n a m c 0 0 0 0 0) := ⟨⟨by go_simp, by go_simp, by go_simp, by go_simp, by go_simp, by go_simp, by go_simp, by go_simp, by go_simp, by go_simp, fun j => by have := XF.out j; go_simp⟩⟩
  have hy : w.heap.size < ((W0.setCell ⟨w.heap.size + 1, 4, none⟩ (.slice a m c)).setCell ⟨w.heap.size + 1, 3, none⟩ (.int .i64 n)).drew.heap.size := by simpa using hz
  have hy1 : w.heap.size + 1 < ((W0.setCell ⟨w.heap.size + 1, 4, none⟩ (.slice a m c)).setCell ⟨w.heap.size + 1, 3, none⟩ (.int .i64 n)).drew.heap.size := by simpa using hz1
  clear c0 c1 c2 c3 c4 c5 c6 c7 c8 c9 x0 x1 x2 x3 x4 x5 x6 x7 x8 x9 f4 f3 CF XF hz hz1 HW0
  generalize ((W0.setCell ⟨w.heap.size + 1, 4, none⟩ (.slice a m c)).setCell ⟨w.heap.size + 1, 3, none⟩ (.int .i64 n)).drew = W1 at *
  obtain ⟨c0, c1, c2, c3, c4, c5, c6, c7, c8, c9, -⟩ := HCB.out
  obtain ⟨x0, x1, x2, x3, x4, x5, x6, x7, x8, x9, -⟩ := HXB.out
  go_wp2_with (first | (go_at_call 106; (with_reducible refine (rids_as true a m c u _ (HNA.out _ HC.out) hm F0).mono ?_); rintro e w' ⟨rfl, mm, rfl⟩; have HC := Hk.mk (below_drewN HC.out mm)) | (go_at_call 108; (with_reducible refine (rid22_as false n _ F1).mono ?_); rintro e w' ⟨rfl, rfl⟩))
  go_ret
  exact ⟨rb R.out, HC.out⟩
 have F1 := Hk.mk h1
 have EE : Hk (eqcB p s 6 n u 0 0 0 0 0 p s 6 n u t wd h x y = r) := ⟨by
  rw [← E.out]; unfold refC eqcB; rw [BB.out, Bool.eq_iff_iff]
  simp at h1
  simp [vB, h0]
  first | done | grind | omega⟩
 clear E h0 h1
 go_enter Tryz.func95, Tryz.ntmps95
 go_wp2_with (go_at_call 29; (with_reducible refine (rnum22_as true s 1099511627776 _ E1).mono ?_); rintro e w' ⟨rfl, rfl⟩)
 obtain ⟨c0, c1, c2, c3, c4, c5, c6, c7, c8, c9, cf⟩ := (CmB.box w p s 6 n a m c t wd h x y).below ((Below.refl _ _).alloc (Nat.le_refl _) (.cells (jkC p s 6 0 none 0 0 0 0 0 0 0) 95)) (by simp)
 obtain ⟨x0, x1, x2, x3, x4, x5, x6, x7, x8, x9, xf⟩ := CmB.box (w.alloc (.cells (jkC p s 6 n a m c t wd h x y) 95)) p s 6 0 none 0 0 0 0 0 0 0
 rw [show (w.alloc (.cells (jkC p s 6 n a m c t wd h x y) 95)).heap.size = w.heap.size + 1 by simp] at *
 have f4 := xf 4
 have f3 := xf 3
 have hz : w.heap.size < ((w.alloc (.cells (jkC p s 6 n a m c t wd h x y) 95)).alloc (.cells (jkC p s 6 0 none 0 0 0 0 0 0 0) 95)).heap.size := by simp; omega
 have hz1 : w.heap.size + 1 < ((w.alloc (.cells (jkC p s 6 n a m c t wd h x y) 95)).alloc (.cells (jkC p s 6 0 none 0 0 0 0 0 0 0) 95)).heap.size := by simp
 have CF := Hk.mk cf
 have XF := Hk.mk xf
 clear cf xf
 generalize ((w.alloc (.cells (jkC p s 6 n a m c t wd h x y) 95)).alloc (.cells (jkC p s 6 0 none 0 0 0 0 0 0 0) 95)) = W0 at *
 go_region
 have HC : Hk (Below w.heap.size w ((W0.setCell ⟨w.heap.size + 1, 4, none⟩ (.slice a m c)).setCell ⟨w.heap.size + 1, 3, none⟩ (.int .i64 n)).drew) := ⟨Below.drew (((HW0.out.setCell (p := ⟨w.heap.size + 1, 4, none⟩) (by simp) _).setCell (p := ⟨w.heap.size + 1, 3, none⟩) (by simp) _))⟩
 have HCB : Hk (CmB ((W0.setCell ⟨w.heap.size + 1, 4, none⟩ (.slice a m c)).setCell ⟨w.heap.size + 1, 3, none⟩ (.int .i64 n)).drew w.heap.size p s 6 n a m c t wd h x y) := ⟨⟨by go_simp, by go_simp, by go_simp, by go_simp, by go_simp, by go_simp, by go_simp, by go_simp, by go_simp, by go_simp, fun j => by have := CF.out j; go_simp⟩⟩
 have HXB : Hk (CmB ((W0.setCell ⟨w.heap.size + 1, 4, none⟩ (.slice a m c)).setCell ⟨w.heap.size + 1, 3, none⟩ (.int .i64 n)).drew (w.heap.size + 1) p s 6 n a m c 0 0 0 0 0) := ⟨⟨by go_simp, by go_simp, by go_simp, by go_simp, by go_simp, by go_simp, by go_simp, by go_simp, by go_simp, by go_simp, fun j => by have := XF.out j; go_simp⟩⟩
 have hy : w.heap.size < ((W0.setCell ⟨w.heap.size + 1, 4, none⟩ (.slice a m c)).setCell ⟨w.heap.size + 1, 3, none⟩ (.int .i64 n)).drew.heap.size := by simpa using hz
 have hy1 : w.heap.size + 1 < ((W0.setCell ⟨w.heap.size + 1, 4, none⟩ (.slice a m c)).setCell ⟨w.heap.size + 1, 3, none⟩ (.int .i64 n)).drew.heap.size := by simpa using hz1
 clear c0 c1 c2 c3 c4 c5 c6 c7 c8 c9 x0 x1 x2 x3 x4 x5 x6 x7 x8 x9 f4 f3 CF XF hz hz1 HW0
 generalize ((W0.setCell ⟨w.heap.size + 1, 4, none⟩ (.slice a m c)).setCell ⟨w.heap.size + 1, 3, none⟩ (.int .i64 n)).drew = W1 at *
 obtain ⟨c0, c1, c2, c3, c4, c5, c6, c7, c8, c9, -⟩ := HCB.out
 obtain ⟨x0, x1, x2, x3, x4, x5, x6, x7, x8, x9, -⟩ := HXB.out
 go_wp2_with (first | (go_at_call 106; (with_reducible refine (rids_as true a m c u _ (HNA.out _ HC.out) hm F0).mono ?_); rintro e w' ⟨rfl, mm, rfl⟩; have HC := Hk.mk (below_drewN HC.out mm)) | (go_at_call 108; (with_reducible refine (rid22_as true n _ F1).mono ?_); rintro e w' ⟨rfl, rfl⟩) | (go_at_call 78; (with_reducible refine (eqc_as r p s 6 n a m c u 0 0 0 0 0 p s 6 n a m c u t wd h x y _ (HNA.out _ HC.out) hm (HNA.out _ HC.out) hm EE).mono ?_); rintro e w9 ⟨rfl, hb9⟩; have HC := Hk.mk (HC.out.trans (hb9.mono HC.out.size)); clear hb9))
 go_ret
 exact ⟨rfl, HC.out⟩
set_option maxRecDepth 100000 in
set_option maxHeartbeats 3200000 in
theorem rcmd7 (r : Bool) (p s n : Int) (a : Option Addr) (m c : Nat) (u : List Int) (t wd h x y : Int) (w : World) (hN : Nq w w.heap.size a m u) (hm : m ≤ 1099511627776) (E : Hk (refC p s 7 ⟨n, u, t, wd, h, x, y⟩ = r)) :
  Calls Tryz.prog 95 #[.agg (jkC p s 7 n a m c t wd h x y)] w fun e w' => e = .returned (.bool r) ∧ Below w.heap.size w w' := by
 have HNA : Hk (∀ X, Below w.heap.size w X → Nq X X.heap.size a m u) := ⟨fun X hX => (hN.below hX (Nat.le_refl _)).mono hX.size⟩
 clear hN
 have HW0 : Hk (Below w.heap.size w ((w.alloc (.cells (jkC p s 7 n a m c t wd h x y) 95)).alloc (.cells (jkC p s 7 0 none 0 0 0 0 0 0 0) 95))) := ⟨((Below.refl _ _).alloc (Nat.le_refl _) _).alloc (by simp) _⟩
 by_cases g0 : ¬ (1 ≤ p)
 ·have b0 : decide (1 ≤ p) = false := by simp; omega
  have R : Hk (false = r) := ⟨by rw [← E.out]; unfold refC baseB; simp; intros; omega⟩
  clear E
  go_enter Tryz.func95, Tryz.ntmps95
  go_wp2
  obtain ⟨c0, c1, c2, c3, c4, c5, c6, c7, c8, c9, cf⟩ := (CmB.box w p s 7 n a m c t wd h x y).below ((Below.refl _ _).alloc (Nat.le_refl _) (.cells (jkC p s 7 0 none 0 0 0 0 0 0 0) 95)) (by simp)
  obtain ⟨x0, x1, x2, x3, x4, x5, x6, x7, x8, x9, xf⟩ := CmB.box (w.alloc (.cells (jkC p s 7 n a m c t wd h x y) 95)) p s 7 0 none 0 0 0 0 0 0 0
  rw [show (w.alloc (.cells (jkC p s 7 n a m c t wd h x y) 95)).heap.size = w.heap.size + 1 by simp] at *
  have f3 := xf 3
  have f5 := xf 5
  have hz : w.heap.size < ((w.alloc (.cells (jkC p s 7 n a m c t wd h x y) 95)).alloc (.cells (jkC p s 7 0 none 0 0 0 0 0 0 0) 95)).heap.size := by simp; omega
  have hz1 : w.heap.size + 1 < ((w.alloc (.cells (jkC p s 7 n a m c t wd h x y) 95)).alloc (.cells (jkC p s 7 0 none 0 0 0 0 0 0 0) 95)).heap.size := by simp
  have CF := Hk.mk cf
  have XF := Hk.mk xf
  clear cf xf
  generalize ((w.alloc (.cells (jkC p s 7 n a m c t wd h x y) 95)).alloc (.cells (jkC p s 7 0 none 0 0 0 0 0 0 0) 95)) = W0 at *
  go_region
  have HC : Hk (Below w.heap.size w ((W0.setCell ⟨w.heap.size + 1, 3, none⟩ (.int .i64 n)).setCell ⟨w.heap.size + 1, 5, none⟩ (.int .i64 t)).drew) := ⟨Below.drew (((HW0.out.setCell (p := ⟨w.heap.size + 1, 3, none⟩) (by simp) _).setCell (p := ⟨w.heap.size + 1, 5, none⟩) (by simp) _))⟩
  have HCB : Hk (CmB ((W0.setCell ⟨w.heap.size + 1, 3, none⟩ (.int .i64 n)).setCell ⟨w.heap.size + 1, 5, none⟩ (.int .i64 t)).drew w.heap.size p s 7 n a m c t wd h x y) := ⟨⟨by go_simp, by go_simp, by go_simp, by go_simp, by go_simp, by go_simp, by go_simp, by go_simp, by go_simp, by go_simp, fun j => by have := CF.out j; go_simp⟩⟩
  have HXB : Hk (CmB ((W0.setCell ⟨w.heap.size + 1, 3, none⟩ (.int .i64 n)).setCell ⟨w.heap.size + 1, 5, none⟩ (.int .i64 t)).drew (w.heap.size + 1) p s 7 n none 0 0 t 0 0 0 0) := ⟨⟨by go_simp, by go_simp, by go_simp, by go_simp, by go_simp, by go_simp, by go_simp, by go_simp, by go_simp, by go_simp, fun j => by have := XF.out j; go_simp⟩⟩
  have hy : w.heap.size < ((W0.setCell ⟨w.heap.size + 1, 3, none⟩ (.int .i64 n)).setCell ⟨w.heap.size + 1, 5, none⟩ (.int .i64 t)).drew.heap.size := by simpa using hz
  have hy1 : w.heap.size + 1 < ((W0.setCell ⟨w.heap.size + 1, 3, none⟩ (.int .i64 n)).setCell ⟨w.heap.size + 1, 5, none⟩ (.int .i64 t)).drew.heap.size := by simpa using hz1
  clear c0 c1 c2 c3 c4 c5 c6 c7 c8 c9 x0 x1 x2 x3 x4 x5 x6 x7 x8 x9 f3 f5 CF XF hz hz1 HW0
  generalize ((W0.setCell ⟨w.heap.size + 1, 3, none⟩ (.int .i64 n)).setCell ⟨w.heap.size + 1, 5, none⟩ (.int .i64 t)).drew = W1 at *
  obtain ⟨c0, c1, c2, c3, c4, c5, c6, c7, c8, c9, -⟩ := HCB.out
  obtain ⟨x0, x1, x2, x3, x4, x5, x6, x7, x8, x9, -⟩ := HXB.out
  go_wp2
  go_ret
  exact ⟨rb R.out, HC.out⟩
 have b0 : decide (1 ≤ p) = true := by simp; omega
 by_cases g1 : ¬ (p ≤ 8)
 ·have b1 : decide (p ≤ 8) = false := by simp; omega
  have R : Hk (false = r) := ⟨by rw [← E.out]; unfold refC baseB; simp; intros; omega⟩
  clear E
  go_enter Tryz.func95, Tryz.ntmps95
  go_wp2
  obtain ⟨c0, c1, c2, c3, c4, c5, c6, c7, c8, c9, cf⟩ := (CmB.box w p s 7 n a m c t wd h x y).below ((Below.refl _ _).alloc (Nat.le_refl _) (.cells (jkC p s 7 0 none 0 0 0 0 0 0 0) 95)) (by simp)
  obtain ⟨x0, x1, x2, x3, x4, x5, x6, x7, x8, x9, xf⟩ := CmB.box (w.alloc (.cells (jkC p s 7 n a m c t wd h x y) 95)) p s 7 0 none 0 0 0 0 0 0 0
  rw [show (w.alloc (.cells (jkC p s 7 n a m c t wd h x y) 95)).heap.size = w.heap.size + 1 by simp] at *
  have f3 := xf 3
  have f5 := xf 5
  have hz : w.heap.size < ((w.alloc (.cells (jkC p s 7 n a m c t wd h x y) 95)).alloc (.cells (jkC p s 7 0 none 0 0 0 0 0 0 0) 95)).heap.size := by simp; omega
  have hz1 : w.heap.size + 1 < ((w.alloc (.cells (jkC p s 7 n a m c t wd h x y) 95)).alloc (.cells (jkC p s 7 0 none 0 0 0 0 0 0 0) 95)).heap.size := by simp
  have CF := Hk.mk cf
  have XF := Hk.mk xf
  clear cf xf
  generalize ((w.alloc (.cells (jkC p s 7 n a m c t wd h x y) 95)).alloc (.cells (jkC p s 7 0 none 0 0 0 0 0 0 0) 95)) = W0 at *
  go_region
  have HC : Hk (Below w.heap.size w ((W0.setCell ⟨w.heap.size + 1, 3, none⟩ (.int .i64 n)).setCell ⟨w.heap.size + 1, 5, none⟩ (.int .i64 t)).drew) := ⟨Below.drew (((HW0.out.setCell (p := ⟨w.heap.size + 1, 3, none⟩) (by simp) _).setCell (p := ⟨w.heap.size + 1, 5, none⟩) (by simp) _))⟩
  have HCB : Hk (CmB ((W0.setCell ⟨w.heap.size + 1, 3, none⟩ (.int .i64 n)).setCell ⟨w.heap.size + 1, 5, none⟩ (.int .i64 t)).drew w.heap.size p s 7 n a m c t wd h x y) := ⟨⟨by go_simp, by go_simp, by go_simp, by go_simp, by go_simp, by go_simp, by go_simp, by go_simp, by go_simp, by go_simp, fun j => by have := CF.out j; go_simp⟩⟩
  have HXB : Hk (CmB ((W0.setCell ⟨w.heap.size + 1, 3, none⟩ (.int .i64 n)).setCell ⟨w.heap.size + 1, 5, none⟩ (.int .i64 t)).drew (w.heap.size + 1) p s 7 n none 0 0 t 0 0 0 0) := ⟨⟨by go_simp, by go_simp, by go_simp, by go_simp, by go_simp, by go_simp, by go_simp, by go_simp, by go_simp, by go_simp, fun j => by have := XF.out j; go_simp⟩⟩
  have hy : w.heap.size < ((W0.setCell ⟨w.heap.size + 1, 3, none⟩ (.int .i64 n)).setCell ⟨w.heap.size + 1, 5, none⟩ (.int .i64 t)).drew.heap.size := by simpa using hz
  have hy1 : w.heap.size + 1 < ((W0.setCell ⟨w.heap.size + 1, 3, none⟩ (.int .i64 n)).setCell ⟨w.heap.size + 1, 5, none⟩ (.int .i64 t)).drew.heap.size := by simpa using hz1
  clear c0 c1 c2 c3 c4 c5 c6 c7 c8 c9 x0 x1 x2 x3 x4 x5 x6 x7 x8 x9 f3 f5 CF XF hz hz1 HW0
  generalize ((W0.setCell ⟨w.heap.size + 1, 3, none⟩ (.int .i64 n)).setCell ⟨w.heap.size + 1, 5, none⟩ (.int .i64 t)).drew = W1 at *
  obtain ⟨c0, c1, c2, c3, c4, c5, c6, c7, c8, c9, -⟩ := HCB.out
  obtain ⟨x0, x1, x2, x3, x4, x5, x6, x7, x8, x9, -⟩ := HXB.out
  go_wp2
  go_ret
  exact ⟨rb R.out, HC.out⟩
 have b1 : decide (p ≤ 8) = true := by simp; omega
 cases e1 : decide (0 ≤ s ∧ s ≤ 1099511627776)
 case false =>
  have E1 := Hk.mk e1
  have R : Hk (false = r) := ⟨by rw [← E.out]; simp at e1; unfold refC baseB; simp; intros; omega⟩
  clear E e1
  go_enter Tryz.func95, Tryz.ntmps95
  go_wp2_with (go_at_call 29; (with_reducible refine (rnum22_as false s 1099511627776 _ E1).mono ?_); rintro e w' ⟨rfl, rfl⟩)
  obtain ⟨c0, c1, c2, c3, c4, c5, c6, c7, c8, c9, cf⟩ := (CmB.box w p s 7 n a m c t wd h x y).below ((Below.refl _ _).alloc (Nat.le_refl _) (.cells (jkC p s 7 0 none 0 0 0 0 0 0 0) 95)) (by simp)
  obtain ⟨x0, x1, x2, x3, x4, x5, x6, x7, x8, x9, xf⟩ := CmB.box (w.alloc (.cells (jkC p s 7 n a m c t wd h x y) 95)) p s 7 0 none 0 0 0 0 0 0 0
  rw [show (w.alloc (.cells (jkC p s 7 n a m c t wd h x y) 95)).heap.size = w.heap.size + 1 by simp] at *
  have f3 := xf 3
  have f5 := xf 5
  have hz : w.heap.size < ((w.alloc (.cells (jkC p s 7 n a m c t wd h x y) 95)).alloc (.cells (jkC p s 7 0 none 0 0 0 0 0 0 0) 95)).heap.size := by simp; omega
  have hz1 : w.heap.size + 1 < ((w.alloc (.cells (jkC p s 7 n a m c t wd h x y) 95)).alloc (.cells (jkC p s 7 0 none 0 0 0 0 0 0 0) 95)).heap.size := by simp
  have CF := Hk.mk cf
  have XF := Hk.mk xf
  clear cf xf
  generalize ((w.alloc (.cells (jkC p s 7 n a m c t wd h x y) 95)).alloc (.cells (jkC p s 7 0 none 0 0 0 0 0 0 0) 95)) = W0 at *
  go_region
  have HC : Hk (Below w.heap.size w ((W0.setCell ⟨w.heap.size + 1, 3, none⟩ (.int .i64 n)).setCell ⟨w.heap.size + 1, 5, none⟩ (.int .i64 t)).drew) := ⟨Below.drew (((HW0.out.setCell (p := ⟨w.heap.size + 1, 3, none⟩) (by simp) _).setCell (p := ⟨w.heap.size + 1, 5, none⟩) (by simp) _))⟩
  have HCB : Hk (CmB ((W0.setCell ⟨w.heap.size + 1, 3, none⟩ (.int .i64 n)).setCell ⟨w.heap.size + 1, 5, none⟩ (.int .i64 t)).drew w.heap.size p s 7 n a m c t wd h x y) := ⟨⟨by go_simp, by go_simp, by go_simp, by go_simp, by go_simp, by go_simp, by go_simp, by go_simp, by go_simp, by go_simp, fun j => by have := CF.out j; go_simp⟩⟩
  have HXB : Hk (CmB ((W0.setCell ⟨w.heap.size + 1, 3, none⟩ (.int .i64 n)).setCell ⟨w.heap.size + 1, 5, none⟩ (.int .i64 t)).drew (w.heap.size + 1) p s 7 n none 0 0 t 0 0 0 0) := ⟨⟨by go_simp, by go_simp, by go_simp, by go_simp, by go_simp, by go_simp, by go_simp, by go_simp, by go_simp, by go_simp, fun j => by have := XF.out j; go_simp⟩⟩
  have hy : w.heap.size < ((W0.setCell ⟨w.heap.size + 1, 3, none⟩ (.int .i64 n)).setCell ⟨w.heap.size + 1, 5, none⟩ (.int .i64 t)).drew.heap.size := by simpa using hz
  have hy1 : w.heap.size + 1 < ((W0.setCell ⟨w.heap.size + 1, 3, none⟩ (.int .i64 n)).setCell ⟨w.heap.size + 1, 5, none⟩ (.int .i64 t)).drew.heap.size := by simpa using hz1
  clear c0 c1 c2 c3 c4 c5 c6 c7 c8 c9 x0 x1 x2 x3 x4 x5 x6 x7 x8 x9 f3 f5 CF XF hz hz1 HW0
  generalize ((W0.setCell ⟨w.heap.size + 1, 3, none⟩ (.int .i64 n)).setCell ⟨w.heap.size + 1, 5, none⟩ (.int .i64 t)).drew = W1 at *
  obtain ⟨c0, c1, c2, c3, c4, c5, c6, c7, c8, c9, -⟩ := HCB.out
  obtain ⟨x0, x1, x2, x3, x4, x5, x6, x7, x8, x9, -⟩ := HXB.out
  go_wp2
  go_ret
  exact ⟨rb R.out, HC.out⟩
 have E1 := Hk.mk e1
 have BB : Hk (baseB p s = true) := ⟨by simp at e1; unfold baseB; simp; omega⟩
 clear e1 g0 g1
 cases h0 : decide (1 ≤ n ∧ n ≤ 1099511627776)
 case false =>
  have R : Hk (false = r) := ⟨by rw [← E.out]; unfold refC; rw [BB.out]; simp at h0; simp [vB]; intros; omega⟩
  have F0 := Hk.mk h0
  clear E h0
  go_enter Tryz.func95, Tryz.ntmps95
  go_wp2_with (go_at_call 29; (with_reducible refine (rnum22_as true s 1099511627776 _ E1).mono ?_); rintro e w' ⟨rfl, rfl⟩)
  obtain ⟨c0, c1, c2, c3, c4, c5, c6, c7, c8, c9, cf⟩ := (CmB.box w p s 7 n a m c t wd h x y).below ((Below.refl _ _).alloc (Nat.le_refl _) (.cells (jkC p s 7 0 none 0 0 0 0 0 0 0) 95)) (by simp)
  obtain ⟨x0, x1, x2, x3, x4, x5, x6, x7, x8, x9, xf⟩ := CmB.box (w.alloc (.cells (jkC p s 7 n a m c t wd h x y) 95)) p s 7 0 none 0 0 0 0 0 0 0
  rw [show (w.alloc (.cells (jkC p s 7 n a m c t wd h x y) 95)).heap.size = w.heap.size + 1 by simp] at *
  have f3 := xf 3
  have f5 := xf 5
  have hz : w.heap.size < ((w.alloc (.cells (jkC p s 7 n a m c t wd h x y) 95)).alloc (.cells (jkC p s 7 0 none 0 0 0 0 0 0 0) 95)).heap.size := by simp; omega
  have hz1 : w.heap.size + 1 < ((w.alloc (.cells (jkC p s 7 n a m c t wd h x y) 95)).alloc (.cells (jkC p s 7 0 none 0 0 0 0 0 0 0) 95)).heap.size := by simp
  have CF := Hk.mk cf
  have XF := Hk.mk xf
  clear cf xf
  generalize ((w.alloc (.cells (jkC p s 7 n a m c t wd h x y) 95)).alloc (.cells (jkC p s 7 0 none 0 0 0 0 0 0 0) 95)) = W0 at *
  go_region
  have HC : Hk (Below w.heap.size w ((W0.setCell ⟨w.heap.size + 1, 3, none⟩ (.int .i64 n)).setCell ⟨w.heap.size + 1, 5, none⟩ (.int .i64 t)).drew) := ⟨Below.drew (((HW0.out.setCell (p := ⟨w.heap.size + 1, 3, none⟩) (by simp) _).setCell (p := ⟨w.heap.size + 1, 5, none⟩) (by simp) _))⟩
  have HCB : Hk (CmB ((W0.setCell ⟨w.heap.size + 1, 3, none⟩ (.int .i64 n)).setCell ⟨w.heap.size + 1, 5, none⟩ (.int .i64 t)).drew w.heap.size p s 7 n a m c t wd h x y) := ⟨⟨by go_simp, by go_simp, by go_simp, by go_simp, by go_simp, by go_simp, by go_simp, by go_simp, by go_simp, by go_simp, fun j => by have := CF.out j; go_simp⟩⟩
  have HXB : Hk (CmB ((W0.setCell ⟨w.heap.size + 1, 3, none⟩ (.int .i64 n)).setCell ⟨w.heap.size + 1, 5, none⟩ (.int .i64 t)).drew (w.heap.size + 1) p s 7 n none 0 0 t 0 0 0 0) := ⟨⟨by go_simp, by go_simp, by go_simp, by go_simp, by go_simp, by go_simp, by go_simp, by go_simp, by go_simp, by go_simp, fun j => by have := XF.out j; go_simp⟩⟩
  have hy : w.heap.size < ((W0.setCell ⟨w.heap.size + 1, 3, none⟩ (.int .i64 n)).setCell ⟨w.heap.size + 1, 5, none⟩ (.int .i64 t)).drew.heap.size := by simpa using hz
  have hy1 : w.heap.size + 1 < ((W0.setCell ⟨w.heap.size + 1, 3, none⟩ (.int .i64 n)).setCell ⟨w.heap.size + 1, 5, none⟩ (.int .i64 t)).drew.heap.size := by simpa using hz1
  clear c0 c1 c2 c3 c4 c5 c6 c7 c8 c9 x0 x1 x2 x3 x4 x5 x6 x7 x8 x9 f3 f5 CF XF hz hz1 HW0
  generalize ((W0.setCell ⟨w.heap.size + 1, 3, none⟩ (.int .i64 n)).setCell ⟨w.heap.size + 1, 5, none⟩ (.int .i64 t)).drew = W1 at *
  obtain ⟨c0, c1, c2, c3, c4, c5, c6, c7, c8, c9, -⟩ := HCB.out
  obtain ⟨x0, x1, x2, x3, x4, x5, x6, x7, x8, x9, -⟩ := HXB.out
  go_wp2_with (first | (go_at_call 108; (with_reducible refine (rid22_as false n _ F0).mono ?_); rintro e w' ⟨rfl, rfl⟩))
  go_ret
  exact ⟨rb R.out, HC.out⟩
 have F0 := Hk.mk h0
 cases h1 : decide (0 ≤ t ∧ t ≤ 16383)
 case false =>
  have R : Hk (false = r) := ⟨by rw [← E.out]; unfold refC; rw [BB.out]; simp at h1; simp [vB]; intros; omega⟩
  have F1 := Hk.mk h1
  clear E h1
  go_enter Tryz.func95, Tryz.ntmps95
  go_wp2_with (go_at_call 29; (with_reducible refine (rnum22_as true s 1099511627776 _ E1).mono ?_); rintro e w' ⟨rfl, rfl⟩)
  obtain ⟨c0, c1, c2, c3, c4, c5, c6, c7, c8, c9, cf⟩ := (CmB.box w p s 7 n a m c t wd h x y).below ((Below.refl _ _).alloc (Nat.le_refl _) (.cells (jkC p s 7 0 none 0 0 0 0 0 0 0) 95)) (by simp)
  obtain ⟨x0, x1, x2, x3, x4, x5, x6, x7, x8, x9, xf⟩ := CmB.box (w.alloc (.cells (jkC p s 7 n a m c t wd h x y) 95)) p s 7 0 none 0 0 0 0 0 0 0
  rw [show (w.alloc (.cells (jkC p s 7 n a m c t wd h x y) 95)).heap.size = w.heap.size + 1 by simp] at *
  have f3 := xf 3
  have f5 := xf 5
  have hz : w.heap.size < ((w.alloc (.cells (jkC p s 7 n a m c t wd h x y) 95)).alloc (.cells (jkC p s 7 0 none 0 0 0 0 0 0 0) 95)).heap.size := by simp; omega
  have hz1 : w.heap.size + 1 < ((w.alloc (.cells (jkC p s 7 n a m c t wd h x y) 95)).alloc (.cells (jkC p s 7 0 none 0 0 0 0 0 0 0) 95)).heap.size := by simp
  have CF := Hk.mk cf
  have XF := Hk.mk xf
  clear cf xf
  generalize ((w.alloc (.cells (jkC p s 7 n a m c t wd h x y) 95)).alloc (.cells (jkC p s 7 0 none 0 0 0 0 0 0 0) 95)) = W0 at *
  go_region
  have HC : Hk (Below w.heap.size w ((W0.setCell ⟨w.heap.size + 1, 3, none⟩ (.int .i64 n)).setCell ⟨w.heap.size + 1, 5, none⟩ (.int .i64 t)).drew) := ⟨Below.drew (((HW0.out.setCell (p := ⟨w.heap.size + 1, 3, none⟩) (by simp) _).setCell (p := ⟨w.heap.size + 1, 5, none⟩) (by simp) _))⟩
  have HCB : Hk (CmB ((W0.setCell ⟨w.heap.size + 1, 3, none⟩ (.int .i64 n)).setCell ⟨w.heap.size + 1, 5, none⟩ (.int .i64 t)).drew w.heap.size p s 7 n a m c t wd h x y) := ⟨⟨by go_simp, by go_simp, by go_simp, by go_simp, by go_simp, by go_simp, by go_simp, by go_simp, by go_simp, by go_simp, fun j => by have := CF.out j; go_simp⟩⟩
  have HXB : Hk (CmB ((W0.setCell ⟨w.heap.size + 1, 3, none⟩ (.int .i64 n)).setCell ⟨w.heap.size + 1, 5, none⟩ (.int .i64 t)).drew (w.heap.size + 1) p s 7 n none 0 0 t 0 0 0 0) := ⟨⟨by go_simp, by go_simp, by go_simp, by go_simp, by go_simp, by go_simp, by go_simp, by go_simp, by go_simp, by go_simp, fun j => by have := XF.out j; go_simp⟩⟩
  have hy : w.heap.size < ((W0.setCell ⟨w.heap.size + 1, 3, none⟩ (.int .i64 n)).setCell ⟨w.heap.size + 1, 5, none⟩ (.int .i64 t)).drew.heap.size := by simpa using hz
  have hy1 : w.heap.size + 1 < ((W0.setCell ⟨w.heap.size + 1, 3, none⟩ (.int .i64 n)).setCell ⟨w.heap.size + 1, 5, none⟩ (.int .i64 t)).drew.heap.size := by simpa using hz1
  clear c0 c1 c2 c3 c4 c5 c6 c7 c8 c9 x0 x1 x2 x3 x4 x5 x6 x7 x8 x9 f3 f5 CF XF hz hz1 HW0
  generalize ((W0.setCell ⟨w.heap.size + 1, 3, none⟩ (.int .i64 n)).setCell ⟨w.heap.size + 1, 5, none⟩ (.int .i64 t)).drew = W1 at *
  obtain ⟨c0, c1, c2, c3, c4, c5, c6, c7, c8, c9, -⟩ := HCB.out
  obtain ⟨x0, x1, x2, x3, x4, x5, x6, x7, x8, x9, -⟩ := HXB.out
  go_wp2_with (first | (go_at_call 108; (with_reducible refine (rid22_as true n _ F0).mono ?_); rintro e w' ⟨rfl, rfl⟩) | (go_at_call 107; (with_reducible refine (rtile22_as false t _ F1).mono ?_); rintro e w' ⟨rfl, rfl⟩))
  go_ret
  exact ⟨rb R.out, HC.out⟩
 have F1 := Hk.mk h1
 have EE : Hk (eqcB p s 7 n [] t 0 0 0 0 p s 7 n u t wd h x y = r) := ⟨by
  rw [← E.out]; unfold refC eqcB; rw [BB.out, Bool.eq_iff_iff]
  simp at h0 h1
  simp [vB]
  first | done | grind | omega⟩
 clear E h0 h1
 go_enter Tryz.func95, Tryz.ntmps95
 go_wp2_with (go_at_call 29; (with_reducible refine (rnum22_as true s 1099511627776 _ E1).mono ?_); rintro e w' ⟨rfl, rfl⟩)
 obtain ⟨c0, c1, c2, c3, c4, c5, c6, c7, c8, c9, cf⟩ := (CmB.box w p s 7 n a m c t wd h x y).below ((Below.refl _ _).alloc (Nat.le_refl _) (.cells (jkC p s 7 0 none 0 0 0 0 0 0 0) 95)) (by simp)
 obtain ⟨x0, x1, x2, x3, x4, x5, x6, x7, x8, x9, xf⟩ := CmB.box (w.alloc (.cells (jkC p s 7 n a m c t wd h x y) 95)) p s 7 0 none 0 0 0 0 0 0 0
 rw [show (w.alloc (.cells (jkC p s 7 n a m c t wd h x y) 95)).heap.size = w.heap.size + 1 by simp] at *
 have f3 := xf 3
 have f5 := xf 5
 have hz : w.heap.size < ((w.alloc (.cells (jkC p s 7 n a m c t wd h x y) 95)).alloc (.cells (jkC p s 7 0 none 0 0 0 0 0 0 0) 95)).heap.size := by simp; omega
 have hz1 : w.heap.size + 1 < ((w.alloc (.cells (jkC p s 7 n a m c t wd h x y) 95)).alloc (.cells (jkC p s 7 0 none 0 0 0 0 0 0 0) 95)).heap.size := by simp
 have CF := Hk.mk cf
 have XF := Hk.mk xf
 clear cf xf
 generalize ((w.alloc (.cells (jkC p s 7 n a m c t wd h x y) 95)).alloc (.cells (jkC p s 7 0 none 0 0 0 0 0 0 0) 95)) = W0 at *
 go_region
 have HC : Hk (Below w.heap.size w ((W0.setCell ⟨w.heap.size + 1, 3, none⟩ (.int .i64 n)).setCell ⟨w.heap.size + 1, 5, none⟩ (.int .i64 t)).drew) := ⟨Below.drew (((HW0.out.setCell (p := ⟨w.heap.size + 1, 3, none⟩) (by simp) _).setCell (p := ⟨w.heap.size + 1, 5, none⟩) (by simp) _))⟩
 have HCB : Hk (CmB ((W0.setCell ⟨w.heap.size + 1, 3, none⟩ (.int .i64 n)).setCell ⟨w.heap.size + 1, 5, none⟩ (.int .i64 t)).drew w.heap.size p s 7 n a m c t wd h x y) := ⟨⟨by go_simp, by go_simp, by go_simp, by go_simp, by go_simp, by go_simp, by go_simp, by go_simp, by go_simp, by go_simp, fun j => by have := CF.out j; go_simp⟩⟩
 have HXB : Hk (CmB ((W0.setCell ⟨w.heap.size + 1, 3, none⟩ (.int .i64 n)).setCell ⟨w.heap.size + 1, 5, none⟩ (.int .i64 t)).drew (w.heap.size + 1) p s 7 n none 0 0 t 0 0 0 0) := ⟨⟨by go_simp, by go_simp, by go_simp, by go_simp, by go_simp, by go_simp, by go_simp, by go_simp, by go_simp, by go_simp, fun j => by have := XF.out j; go_simp⟩⟩
 have hy : w.heap.size < ((W0.setCell ⟨w.heap.size + 1, 3, none⟩ (.int .i64 n)).setCell ⟨w.heap.size + 1, 5, none⟩ (.int .i64 t)).drew.heap.size := by simpa using hz
 have hy1 : w.heap.size + 1 < ((W0.setCell ⟨w.heap.size + 1, 3, none⟩ (.int .i64 n)).setCell ⟨w.heap.size + 1, 5, none⟩ (.int .i64 t)).drew.heap.size := by simpa using hz1
 clear c0 c1 c2 c3 c4 c5 c6 c7 c8 c9 x0 x1 x2 x3 x4 x5 x6 x7 x8 x9 f3 f5 CF XF hz hz1 HW0
 generalize ((W0.setCell ⟨w.heap.size + 1, 3, none⟩ (.int .i64 n)).setCell ⟨w.heap.size + 1, 5, none⟩ (.int .i64 t)).drew = W1 at *
 obtain ⟨c0, c1, c2, c3, c4, c5, c6, c7, c8, c9, -⟩ := HCB.out
 obtain ⟨x0, x1, x2, x3, x4, x5, x6, x7, x8, x9, -⟩ := HXB.out
 go_wp2_with (first | (go_at_call 108; (with_reducible refine (rid22_as true n _ F0).mono ?_); rintro e w' ⟨rfl, rfl⟩) | (go_at_call 107; (with_reducible refine (rtile22_as true t _ F1).mono ?_); rintro e w' ⟨rfl, rfl⟩) | (go_at_call 78; (with_reducible refine (eqc_as r p s 7 n none 0 0 [] t 0 0 0 0 p s 7 n a m c u t wd h x y _ (Nq.nil _ _ _) (by omega) (HNA.out _ HC.out) hm EE).mono ?_); rintro e w9 ⟨rfl, hb9⟩; have HC := Hk.mk (HC.out.trans (hb9.mono HC.out.size)); clear hb9))
 go_ret
 exact ⟨rfl, HC.out⟩
end Go.Proofs.YtdpblimhfmfbnaaGreat
namespace Go.Proofs.YtdpblimhfmfbnaaGreat
open Go.RowKit
set_option maxRecDepth 100000 in
set_option maxHeartbeats 1600000 in
theorem rcmd_no (p s k n : Int) (a : Option Addr) (m c : Nat) (u : List Int) (t wd h x y : Int) (w : World) (hk : k < 1 ∨ 7 < k) :
  Calls Tryz.prog 95 #[.agg (jkC p s k n a m c t wd h x y)] w fun e w' => e = .returned (.bool false) ∧ Below w.heap.size w w' := by
 have HW0 : Hk (Below w.heap.size w ((w.alloc (.cells (jkC p s k n a m c t wd h x y) 95)).alloc (.cells (jkC p s k 0 none 0 0 0 0 0 0 0) 95))) := ⟨((Below.refl _ _).alloc (Nat.le_refl _) _).alloc (by simp) _⟩
 have a1 : (k == 1) = false := by simp; omega
 have a2 : (k == 2) = false := by simp; omega
 have a3 : (k == 3) = false := by simp; omega
 have a4 : (k == 4) = false := by simp; omega
 have a5 : (k == 5) = false := by simp; omega
 have a6 : (k == 6) = false := by simp; omega
 have a7 : (k == 7) = false := by simp; omega
 clear hk
 by_cases g0 : ¬ (1 ≤ p)
 ·have b0 : decide (1 ≤ p) = false := by simp; omega
  go_enter Tryz.func95, Tryz.ntmps95
  go_wp2
  go_ret
  exact ⟨rfl, HW0.out⟩
 have b0 : decide (1 ≤ p) = true := by simp; omega
 by_cases g1 : ¬ (p ≤ 8)
 ·have b1 : decide (p ≤ 8) = false := by simp; omega
  go_enter Tryz.func95, Tryz.ntmps95
  go_wp2
  go_ret
  exact ⟨rfl, HW0.out⟩
 have b1 : decide (p ≤ 8) = true := by simp; omega
 obtain ⟨b, hb⟩ : ∃ b, decide (0 ≤ s ∧ s ≤ 1099511627776) = b := ⟨_, rfl⟩
 have E1 := Hk.mk hb
 clear hb
 cases b <;>
 ·go_enter Tryz.func95, Tryz.ntmps95
  go_wp2_with (go_at_call 29; (with_reducible refine (rnum22_as _ s 1099511627776 _ E1).mono ?_); rintro e w' ⟨rfl, rfl⟩)
  go_ret
  exact ⟨rfl, HW0.out⟩
theorem rcmd_as (r : Bool) (p s k n : Int) (a : Option Addr) (m c : Nat) (u : List Int) (t wd h x y : Int) (w : World) (hN : Nq w w.heap.size a m u) (hm : m ≤ 1099511627776) (E : Hk (okC p s k ⟨n, u, t, wd, h, x, y⟩ = r)) :
  Calls Tryz.prog 95 #[.agg (jkC p s k n a m c t wd h x y)] w fun e w' => e = .returned (.bool r) ∧ Below w.heap.size w w' := by
 have E : Hk (refC p s k ⟨n, u, t, wd, h, x, y⟩ = r) := ⟨by rw [← refC_eq]; exact E.out⟩
 by_cases h1 : k = 1
 ·subst h1; exact rcmd1 r p s n a m c u t wd h x y w hN hm E
 by_cases h2 : k = 2
 ·subst h2; exact rcmd2 r p s n a m c u t wd h x y w hN hm E
 by_cases h3 : k = 3
 ·subst h3; exact rcmd3 r p s n a m c u t wd h x y w hN hm E
 by_cases h4 : k = 4
 ·subst h4; exact rcmd4 r p s n a m c u t wd h x y w hN hm E
 by_cases h5 : k = 5
 ·subst h5; exact rcmd5 r p s n a m c u t wd h x y w hN hm E
 by_cases h6 : k = 6
 ·subst h6; exact rcmd6 r p s n a m c u t wd h x y w hN hm E
 by_cases h7 : k = 7
 ·subst h7; exact rcmd7 r p s n a m c u t wd h x y w hN hm E
 have hr : r = false := by rw [← E.out]; unfold refC; simp [h1, h2, h3, h4, h5, h6, h7]
 subst hr
 exact rcmd_no p s k n a m c u t wd h x y w (by omega)
end Go.Proofs.YtdpblimhfmfbnaaGreat
