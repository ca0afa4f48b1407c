import Derived.RegionTactic
import Derived.ChangeAlike
import Derived.BigRegion
import Derived.Test.YtejilcnldllhpaaUb
import Derived.Test.YtejilcnldllhpaaUc
import Derived.Test.YtejilcnldllhpaaUd
import Derived.Test.YtejilcnldllhpaaUa
import Derived.Laws.AppendOwnNone
/- Whether a command may be, by the reference. -/
namespace Go.Proofs.Ytejilcnldllhpaa
open Go.RowKit
set_option linter.unusedVariables false
set_option maxRecDepth 100000 in
set_option maxHeartbeats 3200000 in
theorem rcmd5 (r : Bool) (p s n : Int) (a : Option Addr) (m c : Nat) (u : List Int) (t wd h x y : Int) (w : World) (hN : Nq w w.heap.size a m u) (hm : m ≤ 1099511627776) (E : Hk (refC p s 5 ⟨n, u, t, wd, h, x, y⟩ = r)) :
    Calls Try.prog 18 #[.agg #[.int .i64 p, .int .i64 s, .int .i64 5, .int .i64 n, .slice a m c, .int .i64 t, .int .i64 wd, .int .i64 h, .int .i64 x, .int .i64 y]] w fun e w' => e = .returned (.bool r) ∧ Below w.heap.size w w' := by
  have HNA : Hk (∀ X, Below w.heap.size w X → Nq X X.heap.size a m u) := ⟨fun X hX => (hN.below hX (Nat.le_refl _)).mono hX.size⟩
  clear hN
  have HW0 : Hk (Below w.heap.size w ((w.alloc (.cells #[.int .i64 p, .int .i64 s, .int .i64 5, .int .i64 n, .slice a m c, .int .i64 t, .int .i64 wd, .int .i64 h, .int .i64 x, .int .i64 y] 28)).alloc (.cells #[.int .i64 p, .int .i64 s, .int .i64 5, .int .i64 0, .slice none 0 0, .int .i64 0, .int .i64 0, .int .i64 0, .int .i64 0, .int .i64 0] 28))) := ⟨((Below.refl _ _).alloc (Nat.le_refl _) _).alloc (by simp) _⟩
  by_cases g0 : ¬ (1 ≤ p)
  · have b0 : decide (1 ≤ p) = false := by simp; omega
    have R : Hk (false = r) := ⟨by rw [← E.out]; unfold refC baseB; simp; intros; omega⟩
    clear E
    have HC : Hk (Below w.heap.size w ((w.alloc (.cells #[.int .i64 p, .int .i64 s, .int .i64 5, .int .i64 n, .slice a m c, .int .i64 t, .int .i64 wd, .int .i64 h, .int .i64 x, .int .i64 y] 28)).alloc (.cells #[.int .i64 p, .int .i64 s, .int .i64 5, .int .i64 n, .slice none 0 0, .int .i64 0, .int .i64 0, .int .i64 0, .int .i64 0, .int .i64 0] 28))) := ⟨((Below.refl _ _).alloc (Nat.le_refl _) _).alloc (by simp) _⟩
    go_enter Try.func18, Try.ntmps18
    go_wp2
    go_ret
    exact ⟨rb R.out, HC.out⟩
  have b0 : decide (1 ≤ p) = true := by simp; omega
  by_cases g1 : ¬ (p ≤ 8)
  · have b1 : decide (p ≤ 8) = false := by simp; omega
    have R : Hk (false = r) := ⟨by rw [← E.out]; unfold refC baseB; simp; intros; omega⟩
    clear E
    have HC : Hk (Below w.heap.size w ((w.alloc (.cells #[.int .i64 p, .int .i64 s, .int .i64 5, .int .i64 n, .slice a m c, .int .i64 t, .int .i64 wd, .int .i64 h, .int .i64 x, .int .i64 y] 28)).alloc (.cells #[.int .i64 p, .int .i64 s, .int .i64 5, .int .i64 n, .slice none 0 0, .int .i64 0, .int .i64 0, .int .i64 0, .int .i64 0, .int .i64 0] 28))) := ⟨((Below.refl _ _).alloc (Nat.le_refl _) _).alloc (by simp) _⟩
    go_enter Try.func18, Try.ntmps18
    go_wp2
    go_ret
    exact ⟨rb R.out, HC.out⟩
  have b1 : decide (p ≤ 8) = true := by simp; omega
  cases e1 : decide (0 ≤ s ∧ s ≤ 1099511627776)
  case false =>
    have E1 := Hk.mk e1
    have R : Hk (false = r) := ⟨by rw [← E.out]; simp at e1; unfold refC baseB; simp; intros; omega⟩
    clear E e1
    have HC : Hk (Below w.heap.size w ((w.alloc (.cells #[.int .i64 p, .int .i64 s, .int .i64 5, .int .i64 n, .slice a m c, .int .i64 t, .int .i64 wd, .int .i64 h, .int .i64 x, .int .i64 y] 28)).alloc (.cells #[.int .i64 p, .int .i64 s, .int .i64 5, .int .i64 n, .slice none 0 0, .int .i64 0, .int .i64 0, .int .i64 0, .int .i64 0, .int .i64 0] 28))) := ⟨((Below.refl _ _).alloc (Nat.le_refl _) _).alloc (by simp) _⟩
    go_enter Try.func18, Try.ntmps18
    go_wp2_with (first | (go_at_call 63; (with_reducible refine (rnum22_as false s 1099511627776 _ E1).mono ?_); rintro e w' ⟨rfl, rfl⟩))
    go_ret
    exact ⟨rb R.out, HC.out⟩
  have E1 := Hk.mk e1
  have BB : Hk (baseB p s = true) := ⟨by simp at e1; unfold baseB; simp; omega⟩
  clear e1 g0 g1
  cases h0 : decide (1 ≤ n ∧ n ≤ 1099511627776)
  case false =>
    have R : Hk (false = r) := ⟨by rw [← E.out]; unfold refC; rw [BB.out]; simp at h0; simp [vB]; intros; omega⟩
    have F0 := Hk.mk h0
    clear E h0
    have HC : Hk (Below w.heap.size w ((w.alloc (.cells #[.int .i64 p, .int .i64 s, .int .i64 5, .int .i64 n, .slice a m c, .int .i64 t, .int .i64 wd, .int .i64 h, .int .i64 x, .int .i64 y] 28)).alloc (.cells #[.int .i64 p, .int .i64 s, .int .i64 5, .int .i64 n, .slice none 0 0, .int .i64 0, .int .i64 0, .int .i64 0, .int .i64 0, .int .i64 0] 28))) := ⟨((Below.refl _ _).alloc (Nat.le_refl _) _).alloc (by simp) _⟩
    go_enter Try.func18, Try.ntmps18
    go_wp2_with (first | (go_at_call 63; (with_reducible refine (rnum22_as true s 1099511627776 _ E1).mono ?_); rintro e w' ⟨rfl, rfl⟩) | (go_at_call 67; (with_reducible refine (rid22_as false n _ F0).mono ?_); rintro e w' ⟨rfl, rfl⟩))
    go_ret
    exact ⟨rb R.out, HC.out⟩
  have F0 := Hk.mk h0
  have EE : Hk (eqcB p s 5 n [] 0 0 0 0 0 p s 5 n u t wd h x y = r) := ⟨by
    rw [← E.out]; unfold refC eqcB; rw [BB.out, Bool.eq_iff_iff]
    simp at h0
    simp [vB]
    first | done | grind | omega⟩
  clear E h0
  have HC : Hk (Below w.heap.size w ((w.alloc (.cells #[.int .i64 p, .int .i64 s, .int .i64 5, .int .i64 n, .slice a m c, .int .i64 t, .int .i64 wd, .int .i64 h, .int .i64 x, .int .i64 y] 28)).alloc (.cells #[.int .i64 p, .int .i64 s, .int .i64 5, .int .i64 n, .slice none 0 0, .int .i64 0, .int .i64 0, .int .i64 0, .int .i64 0, .int .i64 0] 28))) := ⟨((Below.refl _ _).alloc (Nat.le_refl _) _).alloc (by simp) _⟩
  go_enter Try.func18, Try.ntmps18
  go_wp2_with (first | (go_at_call 63; (with_reducible refine (rnum22_as true s 1099511627776 _ E1).mono ?_); rintro e w' ⟨rfl, rfl⟩) | (go_at_call 67; (with_reducible refine (rid22_as true n _ F0).mono ?_); rintro e w' ⟨rfl, rfl⟩) | (go_at_call 23; (with_reducible refine (eqc_as r p s 5 n none 0 0 [] 0 0 0 0 0 p s 5 n a m c u t wd h x y _ (Nq.nil _ _ _) (by omega) (HNA.out _ HC.out) hm EE).mono ?_); rintro e w9 ⟨rfl, hb9⟩; have HC := Hk.mk (HC.out.trans (hb9.mono HC.out.size)); clear hb9))
  go_ret
  exact ⟨rfl, HC.out⟩
set_option maxRecDepth 100000 in
set_option maxHeartbeats 3200000 in
theorem rcmd6 (r : Bool) (p s n : Int) (a : Option Addr) (m c : Nat) (u : List Int) (t wd h x y : Int) (w : World) (hN : Nq w w.heap.size a m u) (hm : m ≤ 1099511627776) (E : Hk (refC p s 6 ⟨n, u, t, wd, h, x, y⟩ = r)) :
    Calls Try.prog 18 #[.agg #[.int .i64 p, .int .i64 s, .int .i64 6, .int .i64 n, .slice a m c, .int .i64 t, .int .i64 wd, .int .i64 h, .int .i64 x, .int .i64 y]] w fun e w' => e = .returned (.bool r) ∧ Below w.heap.size w w' := by
  have HNA : Hk (∀ X, Below w.heap.size w X → Nq X X.heap.size a m u) := ⟨fun X hX => (hN.below hX (Nat.le_refl _)).mono hX.size⟩
  clear hN
  have HW0 : Hk (Below w.heap.size w ((w.alloc (.cells #[.int .i64 p, .int .i64 s, .int .i64 6, .int .i64 n, .slice a m c, .int .i64 t, .int .i64 wd, .int .i64 h, .int .i64 x, .int .i64 y] 28)).alloc (.cells #[.int .i64 p, .int .i64 s, .int .i64 6, .int .i64 0, .slice none 0 0, .int .i64 0, .int .i64 0, .int .i64 0, .int .i64 0, .int .i64 0] 28))) := ⟨((Below.refl _ _).alloc (Nat.le_refl _) _).alloc (by simp) _⟩
  by_cases g0 : ¬ (1 ≤ p)
  · have b0 : decide (1 ≤ p) = false := by simp; omega
    have R : Hk (false = r) := ⟨by rw [← E.out]; unfold refC baseB; simp; intros; omega⟩
    clear E
    go_enter Try.func18, Try.ntmps18
    go_wp2
    obtain ⟨c0, c1, c2, c3, c4, c5, c6, c7, c8, c9, cf⟩ := (CmB.box w p s 6 n a m c t wd h x y).below ((Below.refl _ _).alloc (Nat.le_refl _) (.cells #[.int .i64 p, .int .i64 s, .int .i64 6, .int .i64 0, .slice none 0 0, .int .i64 0, .int .i64 0, .int .i64 0, .int .i64 0, .int .i64 0] 28)) (by simp)
    obtain ⟨x0, x1, x2, x3, x4, x5, x6, x7, x8, x9, xf⟩ := CmB.box (w.alloc (.cells #[.int .i64 p, .int .i64 s, .int .i64 6, .int .i64 n, .slice a m c, .int .i64 t, .int .i64 wd, .int .i64 h, .int .i64 x, .int .i64 y] 28)) p s 6 0 none 0 0 0 0 0 0 0
    rw [show (w.alloc (.cells #[.int .i64 p, .int .i64 s, .int .i64 6, .int .i64 n, .slice a m c, .int .i64 t, .int .i64 wd, .int .i64 h, .int .i64 x, .int .i64 y] 28)).heap.size = w.heap.size + 1 by simp] at *
    have f4 := xf 4
    have f3 := xf 3
    have hz : w.heap.size < ((w.alloc (.cells #[.int .i64 p, .int .i64 s, .int .i64 6, .int .i64 n, .slice a m c, .int .i64 t, .int .i64 wd, .int .i64 h, .int .i64 x, .int .i64 y] 28)).alloc (.cells #[.int .i64 p, .int .i64 s, .int .i64 6, .int .i64 0, .slice none 0 0, .int .i64 0, .int .i64 0, .int .i64 0, .int .i64 0, .int .i64 0] 28)).heap.size := by simp; omega
    have hz1 : w.heap.size + 1 < ((w.alloc (.cells #[.int .i64 p, .int .i64 s, .int .i64 6, .int .i64 n, .slice a m c, .int .i64 t, .int .i64 wd, .int .i64 h, .int .i64 x, .int .i64 y] 28)).alloc (.cells #[.int .i64 p, .int .i64 s, .int .i64 6, .int .i64 0, .slice none 0 0, .int .i64 0, .int .i64 0, .int .i64 0, .int .i64 0, .int .i64 0] 28)).heap.size := by simp
    have CF := Hk.mk cf
    have XF := Hk.mk xf
    clear cf xf
    generalize ((w.alloc (.cells #[.int .i64 p, .int .i64 s, .int .i64 6, .int .i64 n, .slice a m c, .int .i64 t, .int .i64 wd, .int .i64 h, .int .i64 x, .int .i64 y] 28)).alloc (.cells #[.int .i64 p, .int .i64 s, .int .i64 6, .int .i64 0, .slice none 0 0, .int .i64 0, .int .i64 0, .int .i64 0, .int .i64 0, .int .i64 0] 28)) = W0 at *
    go_region
    have HC : Hk (Below w.heap.size w ((W0.setCell ⟨w.heap.size + 1, 4, none⟩ (.slice a m c)).setCell ⟨w.heap.size + 1, 3, none⟩ (.int .i64 n)).drew) := ⟨Below.drew (((HW0.out.setCell (p := ⟨w.heap.size + 1, 4, none⟩) (by simp) _).setCell (p := ⟨w.heap.size + 1, 3, none⟩) (by simp) _))⟩
    have HCB : Hk (CmB ((W0.setCell ⟨w.heap.size + 1, 4, none⟩ (.slice a m c)).setCell ⟨w.heap.size + 1, 3, none⟩ (.int .i64 n)).drew w.heap.size p s 6 n a m c t wd h x y) := ⟨⟨by go_simp, by go_simp, by go_simp, by go_simp, by go_simp, by go_simp, by go_simp, by go_simp, by go_simp, by go_simp, fun j => by have := CF.out j; go_simp⟩⟩
    have HXB : Hk (CmB ((W0.setCell ⟨w.heap.size + 1, 4, none⟩ (.slice a m c)).setCell ⟨w.heap.size + 1, 3, none⟩ (.int .i64 n)).drew (w.heap.size + 1) p s 6 n a m c 0 0 0 0 0) := ⟨⟨by go_simp, by go_simp, by go_simp, by go_simp, by go_simp, by go_simp, by go_simp, by go_simp, by go_simp, by go_simp, fun j => by have := XF.out j; go_simp⟩⟩
    have hy : w.heap.size < ((W0.setCell ⟨w.heap.size + 1, 4, none⟩ (.slice a m c)).setCell ⟨w.heap.size + 1, 3, none⟩ (.int .i64 n)).drew.heap.size := by simpa using hz
    have hy1 : w.heap.size + 1 < ((W0.setCell ⟨w.heap.size + 1, 4, none⟩ (.slice a m c)).setCell ⟨w.heap.size + 1, 3, none⟩ (.int .i64 n)).drew.heap.size := by simpa using hz1
    clear c0 c1 c2 c3 c4 c5 c6 c7 c8 c9 x0 x1 x2 x3 x4 x5 x6 x7 x8 x9 f4 f3 CF XF hz hz1 HW0
    generalize ((W0.setCell ⟨w.heap.size + 1, 4, none⟩ (.slice a m c)).setCell ⟨w.heap.size + 1, 3, none⟩ (.int .i64 n)).drew = W1 at *
    obtain ⟨c0, c1, c2, c3, c4, c5, c6, c7, c8, c9, -⟩ := HCB.out
    obtain ⟨x0, x1, x2, x3, x4, x5, x6, x7, x8, x9, -⟩ := HXB.out
    go_wp2
    go_ret
    exact ⟨rb R.out, HC.out⟩
  have b0 : decide (1 ≤ p) = true := by simp; omega
  by_cases g1 : ¬ (p ≤ 8)
  · have b1 : decide (p ≤ 8) = false := by simp; omega
    have R : Hk (false = r) := ⟨by rw [← E.out]; unfold refC baseB; simp; intros; omega⟩
    clear E
    go_enter Try.func18, Try.ntmps18
    go_wp2
    obtain ⟨c0, c1, c2, c3, c4, c5, c6, c7, c8, c9, cf⟩ := (CmB.box w p s 6 n a m c t wd h x y).below ((Below.refl _ _).alloc (Nat.le_refl _) (.cells #[.int .i64 p, .int .i64 s, .int .i64 6, .int .i64 0, .slice none 0 0, .int .i64 0, .int .i64 0, .int .i64 0, .int .i64 0, .int .i64 0] 28)) (by simp)
    obtain ⟨x0, x1, x2, x3, x4, x5, x6, x7, x8, x9, xf⟩ := CmB.box (w.alloc (.cells #[.int .i64 p, .int .i64 s, .int .i64 6, .int .i64 n, .slice a m c, .int .i64 t, .int .i64 wd, .int .i64 h, .int .i64 x, .int .i64 y] 28)) p s 6 0 none 0 0 0 0 0 0 0
    rw [show (w.alloc (.cells #[.int .i64 p, .int .i64 s, .int .i64 6, .int .i64 n, .slice a m c, .int .i64 t, .int .i64 wd, .int .i64 h, .int .i64 x, .int .i64 y] 28)).heap.size = w.heap.size + 1 by simp] at *
    have f4 := xf 4
    have f3 := xf 3
    have hz : w.heap.size < ((w.alloc (.cells #[.int .i64 p, .int .i64 s, .int .i64 6, .int .i64 n, .slice a m c, .int .i64 t, .int .i64 wd, .int .i64 h, .int .i64 x, .int .i64 y] 28)).alloc (.cells #[.int .i64 p, .int .i64 s, .int .i64 6, .int .i64 0, .slice none 0 0, .int .i64 0, .int .i64 0, .int .i64 0, .int .i64 0, .int .i64 0] 28)).heap.size := by simp; omega
    have hz1 : w.heap.size + 1 < ((w.alloc (.cells #[.int .i64 p, .int .i64 s, .int .i64 6, .int .i64 n, .slice a m c, .int .i64 t, .int .i64 wd, .int .i64 h, .int .i64 x, .int .i64 y] 28)).alloc (.cells #[.int .i64 p, .int .i64 s, .int .i64 6, .int .i64 0, .slice none 0 0, .int .i64 0, .int .i64 0, .int .i64 0, .int .i64 0, .int .i64 0] 28)).heap.size := by simp
    have CF := Hk.mk cf
    have XF := Hk.mk xf
    clear cf xf
    generalize ((w.alloc (.cells #[.int .i64 p, .int .i64 s, .int .i64 6, .int .i64 n, .slice a m c, .int .i64 t, .int .i64 wd, .int .i64 h, .int .i64 x, .int .i64 y] 28)).alloc (.cells #[.int .i64 p, .int .i64 s, .int .i64 6, .int .i64 0, .slice none 0 0, .int .i64 0, .int .i64 0, .int .i64 0, .int .i64 0, .int .i64 0] 28)) = W0 at *
    go_region
    have HC : Hk (Below w.heap.size w ((W0.setCell ⟨w.heap.size + 1, 4, none⟩ (.slice a m c)).setCell ⟨w.heap.size + 1, 3, none⟩ (.int .i64 n)).drew) := ⟨Below.drew (((HW0.out.setCell (p := ⟨w.heap.size + 1, 4, none⟩) (by simp) _).setCell (p := ⟨w.heap.size + 1, 3, none⟩) (by simp) _))⟩
    have HCB : Hk (CmB ((W0.setCell ⟨w.heap.size + 1, 4, none⟩ (.slice a m c)).setCell ⟨w.heap.size + 1, 3, none⟩ (.int .i64 n)).drew w.heap.size p s 6 n a m c t wd h x y) := ⟨⟨by go_simp, by go_simp, by go_simp, by go_simp, by go_simp, by go_simp, by go_simp, by go_simp, by go_simp, by go_simp, fun j => by have := CF.out j; go_simp⟩⟩
    have HXB : Hk (CmB ((W0.setCell ⟨w.heap.size + 1, 4, none⟩ (.slice a m c)).setCell ⟨w.heap.size + 1, 3, none⟩ (.int .i64 n)).drew (w.heap.size + 1) p s 6 n a m c 0 0 0 0 0) := ⟨⟨by go_simp, by go_simp, by go_simp, by go_simp, by go_simp, by go_simp, by go_simp, by go_simp, by go_simp, by go_simp, fun j => by have := XF.out j; go_simp⟩⟩
    have hy : w.heap.size < ((W0.setCell ⟨w.heap.size + 1, 4, none⟩ (.slice a m c)).setCell ⟨w.heap.size + 1, 3, none⟩ (.int .i64 n)).drew.heap.size := by simpa using hz
    have hy1 : w.heap.size + 1 < ((W0.setCell ⟨w.heap.size + 1, 4, none⟩ (.slice a m c)).setCell ⟨w.heap.size + 1, 3, none⟩ (.int .i64 n)).drew.heap.size := by simpa using hz1
    clear c0 c1 c2 c3 c4 c5 c6 c7 c8 c9 x0 x1 x2 x3 x4 x5 x6 x7 x8 x9 f4 f3 CF XF hz hz1 HW0
    generalize ((W0.setCell ⟨w.heap.size + 1, 4, none⟩ (.slice a m c)).setCell ⟨w.heap.size + 1, 3, none⟩ (.int .i64 n)).drew = W1 at *
    obtain ⟨c0, c1, c2, c3, c4, c5, c6, c7, c8, c9, -⟩ := HCB.out
    obtain ⟨x0, x1, x2, x3, x4, x5, x6, x7, x8, x9, -⟩ := HXB.out
    go_wp2
    go_ret
    exact ⟨rb R.out, HC.out⟩
  have b1 : decide (p ≤ 8) = true := by simp; omega
  cases e1 : decide (0 ≤ s ∧ s ≤ 1099511627776)
  case false =>
    have E1 := Hk.mk e1
    have R : Hk (false = r) := ⟨by rw [← E.out]; simp at e1; unfold refC baseB; simp; intros; omega⟩
    clear E e1
    go_enter Try.func18, Try.ntmps18
    go_wp2_with (go_at_call 63; (with_reducible refine (rnum22_as false s 1099511627776 _ E1).mono ?_); rintro e w' ⟨rfl, rfl⟩)
    obtain ⟨c0, c1, c2, c3, c4, c5, c6, c7, c8, c9, cf⟩ := (CmB.box w p s 6 n a m c t wd h x y).below ((Below.refl _ _).alloc (Nat.le_refl _) (.cells #[.int .i64 p, .int .i64 s, .int .i64 6, .int .i64 0, .slice none 0 0, .int .i64 0, .int .i64 0, .int .i64 0, .int .i64 0, .int .i64 0] 28)) (by simp)
    obtain ⟨x0, x1, x2, x3, x4, x5, x6, x7, x8, x9, xf⟩ := CmB.box (w.alloc (.cells #[.int .i64 p, .int .i64 s, .int .i64 6, .int .i64 n, .slice a m c, .int .i64 t, .int .i64 wd, .int .i64 h, .int .i64 x, .int .i64 y] 28)) p s 6 0 none 0 0 0 0 0 0 0
    rw [show (w.alloc (.cells #[.int .i64 p, .int .i64 s, .int .i64 6, .int .i64 n, .slice a m c, .int .i64 t, .int .i64 wd, .int .i64 h, .int .i64 x, .int .i64 y] 28)).heap.size = w.heap.size + 1 by simp] at *
    have f4 := xf 4
    have f3 := xf 3
    have hz : w.heap.size < ((w.alloc (.cells #[.int .i64 p, .int .i64 s, .int .i64 6, .int .i64 n, .slice a m c, .int .i64 t, .int .i64 wd, .int .i64 h, .int .i64 x, .int .i64 y] 28)).alloc (.cells #[.int .i64 p, .int .i64 s, .int .i64 6, .int .i64 0, .slice none 0 0, .int .i64 0, .int .i64 0, .int .i64 0, .int .i64 0, .int .i64 0] 28)).heap.size := by simp; omega
    have hz1 : w.heap.size + 1 < ((w.alloc (.cells #[.int .i64 p, .int .i64 s, .int .i64 6, .int .i64 n, .slice a m c, .int .i64 t, .int .i64 wd, .int .i64 h, .int .i64 x, .int .i64 y] 28)).alloc (.cells #[.int .i64 p, .int .i64 s, .int .i64 6, .int .i64 0, .slice none 0 0, .int .i64 0, .int .i64 0, .int .i64 0, .int .i64 0, .int .i64 0] 28)).heap.size := by simp
    have CF := Hk.mk cf
    have XF := Hk.mk xf
    clear cf xf
    generalize ((w.alloc (.cells #[.int .i64 p, .int .i64 s, .int .i64 6, .int .i64 n, .slice a m c, .int .i64 t, .int .i64 wd, .int .i64 h, .int .i64 x, .int .i64 y] 28)).alloc (.cells #[.int .i64 p, .int .i64 s, .int .i64 6, .int .i64 0, .slice none 0 0, .int .i64 0, .int .i64 0, .int .i64 0, .int .i64 0, .int .i64 0] 28)) = W0 at *
    go_region
    have HC : Hk (Below w.heap.size w ((W0.setCell ⟨w.heap.size + 1, 4, none⟩ (.slice a m c)).setCell ⟨w.heap.size + 1, 3, none⟩ (.int .i64 n)).drew) := ⟨Below.drew (((HW0.out.setCell (p := ⟨w.heap.size + 1, 4, none⟩) (by simp) _).setCell (p := ⟨w.heap.size + 1, 3, none⟩) (by simp) _))⟩
    have HCB : Hk (CmB ((W0.setCell ⟨w.heap.size + 1, 4, none⟩ (.slice a m c)).setCell ⟨w.heap.size + 1, 3, none⟩ (.int .i64 n)).drew w.heap.size p s 6 n a m c t wd h x y) := ⟨⟨by go_simp, by go_simp, by go_simp, by go_simp, by go_simp, by go_simp, by go_simp, by go_simp, by go_simp, by go_simp, fun j => by have := CF.out j; go_simp⟩⟩
    have HXB : Hk (CmB ((W0.setCell ⟨w.heap.size + 1, 4, none⟩ (.slice a m c)).setCell ⟨w.heap.size + 1, 3, none⟩ (.int .i64 n)).drew (w.heap.size + 1) p s 6 n a m c 0 0 0 0 0) := ⟨⟨by go_simp, by go_simp, by go_simp, by go_simp, by go_simp, by go_simp, by go_simp, by go_simp, by go_simp, by go_simp, fun j => by have := XF.out j; go_simp⟩⟩
    have hy : w.heap.size < ((W0.setCell ⟨w.heap.size + 1, 4, none⟩ (.slice a m c)).setCell ⟨w.heap.size + 1, 3, none⟩ (.int .i64 n)).drew.heap.size := by simpa using hz
    have hy1 : w.heap.size + 1 < ((W0.setCell ⟨w.heap.size + 1, 4, none⟩ (.slice a m c)).setCell ⟨w.heap.size + 1, 3, none⟩ (.int .i64 n)).drew.heap.size := by simpa using hz1
    clear c0 c1 c2 c3 c4 c5 c6 c7 c8 c9 x0 x1 x2 x3 x4 x5 x6 x7 x8 x9 f4 f3 CF XF hz hz1 HW0
    generalize ((W0.setCell ⟨w.heap.size + 1, 4, none⟩ (.slice a m c)).setCell ⟨w.heap.size + 1, 3, none⟩ (.int .i64 n)).drew = W1 at *
    obtain ⟨c0, c1, c2, c3, c4, c5, c6, c7, c8, c9, -⟩ := HCB.out
    obtain ⟨x0, x1, x2, x3, x4, x5, x6, x7, x8, x9, -⟩ := HXB.out
    go_wp2
    go_ret
    exact ⟨rb R.out, HC.out⟩
  have E1 := Hk.mk e1
  have BB : Hk (baseB p s = true) := ⟨by simp at e1; unfold baseB; simp; omega⟩
  clear e1 g0 g1
  cases h0 : idsB u
  case false =>
    have R : Hk (false = r) := ⟨by rw [← E.out]; unfold refC; rw [BB.out]; simp [vB, h0]⟩
    have F0 := Hk.mk h0
    clear E h0
    go_enter Try.func18, Try.ntmps18
    go_wp2_with (go_at_call 63; (with_reducible refine (rnum22_as true s 1099511627776 _ E1).mono ?_); rintro e w' ⟨rfl, rfl⟩)
    obtain ⟨c0, c1, c2, c3, c4, c5, c6, c7, c8, c9, cf⟩ := (CmB.box w p s 6 n a m c t wd h x y).below ((Below.refl _ _).alloc (Nat.le_refl _) (.cells #[.int .i64 p, .int .i64 s, .int .i64 6, .int .i64 0, .slice none 0 0, .int .i64 0, .int .i64 0, .int .i64 0, .int .i64 0, .int .i64 0] 28)) (by simp)
    obtain ⟨x0, x1, x2, x3, x4, x5, x6, x7, x8, x9, xf⟩ := CmB.box (w.alloc (.cells #[.int .i64 p, .int .i64 s, .int .i64 6, .int .i64 n, .slice a m c, .int .i64 t, .int .i64 wd, .int .i64 h, .int .i64 x, .int .i64 y] 28)) p s 6 0 none 0 0 0 0 0 0 0
    rw [show (w.alloc (.cells #[.int .i64 p, .int .i64 s, .int .i64 6, .int .i64 n, .slice a m c, .int .i64 t, .int .i64 wd, .int .i64 h, .int .i64 x, .int .i64 y] 28)).heap.size = w.heap.size + 1 by simp] at *
    have f4 := xf 4
    have f3 := xf 3
    have hz : w.heap.size < ((w.alloc (.cells #[.int .i64 p, .int .i64 s, .int .i64 6, .int .i64 n, .slice a m c, .int .i64 t, .int .i64 wd, .int .i64 h, .int .i64 x, .int .i64 y] 28)).alloc (.cells #[.int .i64 p, .int .i64 s, .int .i64 6, .int .i64 0, .slice none 0 0, .int .i64 0, .int .i64 0, .int .i64 0, .int .i64 0, .int .i64 0] 28)).heap.size := by simp; omega
    have hz1 : w.heap.size + 1 < ((w.alloc (.cells #[.int .i64 p, .int .i64 s, .int .i64 6, .int .i64 n, .slice a m c, .int .i64 t, .int .i64 wd, .int .i64 h, .int .i64 x, .int .i64 y] 28)).alloc (.cells #[.int .i64 p, .int .i64 s, .int .i64 6, .int .i64 0, .slice none 0 0, .int .i64 0, .int .i64 0, .int .i64 0, .int .i64 0, .int .i64 0] 28)).heap.size := by simp
    have CF := Hk.mk cf
    have XF := Hk.mk xf
    clear cf xf
    generalize ((w.alloc (.cells #[.int .i64 p, .int .i64 s, .int .i64 6, .int .i64 n, .slice a m c, .int .i64 t, .int .i64 wd, .int .i64 h, .int .i64 x, .int .i64 y] 28)).alloc (.cells #[.int .i64 p, .int .i64 s, .int .i64 6, .int .i64 0, .slice none 0 0, .int .i64 0, .int .i64 0, .int .i64 0, .int .i64 0, .int .i64 0] 28)) = W0 at *
    go_region
    have HC : Hk (Below w.heap.size w ((W0.setCell ⟨w.heap.size + 1, 4, none⟩ (.slice a m c)).setCell ⟨w.heap.size + 1, 3, none⟩ (.int .i64 n)).drew) := ⟨Below.drew (((HW0.out.setCell (p := ⟨w.heap.size + 1, 4, none⟩) (by simp) _).setCell (p := ⟨w.heap.size + 1, 3, none⟩) (by simp) _))⟩
    have HCB : Hk (CmB ((W0.setCell ⟨w.heap.size + 1, 4, none⟩ (.slice a m c)).setCell ⟨w.heap.size + 1, 3, none⟩ (.int .i64 n)).drew w.heap.size p s 6 n a m c t wd h x y) := ⟨⟨by go_simp, by go_simp, by go_simp, by go_simp, by go_simp, by go_simp, by go_simp, by go_simp, by go_simp, by go_simp, fun j => by have := CF.out j; go_simp⟩⟩
    have HXB : Hk (CmB ((W0.setCell ⟨w.heap.size + 1, 4, none⟩ (.slice a m c)).setCell ⟨w.heap.size + 1, 3, none⟩ (.int .i64 n)).drew (w.heap.size + 1) p s 6 n a m c 0 0 0 0 0) := ⟨⟨by go_simp, by go_simp, by go_simp, by go_simp, by go_simp, by go_simp, by go_simp, by go_simp, by go_simp, by go_simp, fun j => by have := XF.out j; go_simp⟩⟩
    have hy : w.heap.size < ((W0.setCell ⟨w.heap.size + 1, 4, none⟩ (.slice a m c)).setCell ⟨w.heap.size + 1, 3, none⟩ (.int .i64 n)).drew.heap.size := by simpa using hz
    have hy1 : w.heap.size + 1 < ((W0.setCell ⟨w.heap.size + 1, 4, none⟩ (.slice a m c)).setCell ⟨w.heap.size + 1, 3, none⟩ (.int .i64 n)).drew.heap.size := by simpa using hz1
    clear c0 c1 c2 c3 c4 c5 c6 c7 c8 c9 x0 x1 x2 x3 x4 x5 x6 x7 x8 x9 f4 f3 CF XF hz hz1 HW0
    generalize ((W0.setCell ⟨w.heap.size + 1, 4, none⟩ (.slice a m c)).setCell ⟨w.heap.size + 1, 3, none⟩ (.int .i64 n)).drew = W1 at *
    obtain ⟨c0, c1, c2, c3, c4, c5, c6, c7, c8, c9, -⟩ := HCB.out
    obtain ⟨x0, x1, x2, x3, x4, x5, x6, x7, x8, x9, -⟩ := HXB.out
    go_wp2_with (first | (go_at_call 65; (with_reducible refine (rids_as false a m c u _ (HNA.out _ HC.out) hm F0).mono ?_); rintro e w' ⟨rfl, mm, rfl⟩; have HC := Hk.mk (below_drewN HC.out mm)))
    go_ret
    exact ⟨rb R.out, HC.out⟩
  have F0 := Hk.mk h0
  cases h1 : decide (1 ≤ n ∧ n ≤ 1099511627776)
  case false =>
    have R : Hk (false = r) := ⟨by rw [← E.out]; unfold refC; rw [BB.out]; simp at h1; simp [vB]; intros; omega⟩
    have F1 := Hk.mk h1
    clear E h1
    go_enter Try.func18, Try.ntmps18
    go_wp2_with (go_at_call 63; (with_reducible refine (rnum22_as true s 1099511627776 _ E1).mono ?_); rintro e w' ⟨rfl, rfl⟩)
    obtain ⟨c0, c1, c2, c3, c4, c5, c6, c7, c8, c9, cf⟩ := (CmB.box w p s 6 n a m c t wd h x y).below ((Below.refl _ _).alloc (Nat.le_refl _) (.cells #[.int .i64 p, .int .i64 s, .int .i64 6, .int .i64 0, .slice none 0 0, .int .i64 0, .int .i64 0, .int .i64 0, .int .i64 0, .int .i64 0] 28)) (by simp)
    obtain ⟨x0, x1, x2, x3, x4, x5, x6, x7, x8, x9, xf⟩ := CmB.box (w.alloc (.cells #[.int .i64 p, .int .i64 s, .int .i64 6, .int .i64 n, .slice a m c, .int .i64 t, .int .i64 wd, .int .i64 h, .int .i64 x, .int .i64 y] 28)) p s 6 0 none 0 0 0 0 0 0 0
    rw [show (w.alloc (.cells #[.int .i64 p, .int .i64 s, .int .i64 6, .int .i64 n, .slice a m c, .int .i64 t, .int .i64 wd, .int .i64 h, .int .i64 x, .int .i64 y] 28)).heap.size = w.heap.size + 1 by simp] at *
    have f4 := xf 4
    have f3 := xf 3
    have hz : w.heap.size < ((w.alloc (.cells #[.int .i64 p, .int .i64 s, .int .i64 6, .int .i64 n, .slice a m c, .int .i64 t, .int .i64 wd, .int .i64 h, .int .i64 x, .int .i64 y] 28)).alloc (.cells #[.int .i64 p, .int .i64 s, .int .i64 6, .int .i64 0, .slice none 0 0, .int .i64 0, .int .i64 0, .int .i64 0, .int .i64 0, .int .i64 0] 28)).heap.size := by simp; omega
    have hz1 : w.heap.size + 1 < ((w.alloc (.cells #[.int .i64 p, .int .i64 s, .int .i64 6, .int .i64 n, .slice a m c, .int .i64 t, .int .i64 wd, .int .i64 h, .int .i64 x, .int .i64 y] 28)).alloc (.cells #[.int .i64 p, .int .i64 s, .int .i64 6, .int .i64 0, .slice none 0 0, .int .i64 0, .int .i64 0, .int .i64 0, .int .i64 0, .int .i64 0] 28)).heap.size := by simp
    have CF := Hk.mk cf
    have XF := Hk.mk xf
    clear cf xf
    generalize ((w.alloc (.cells #[.int .i64 p, .int .i64 s, .int .i64 6, .int .i64 n, .slice a m c, .int .i64 t, .int .i64 wd, .int .i64 h, .int .i64 x, .int .i64 y] 28)).alloc (.cells #[.int .i64 p, .int .i64 s, .int .i64 6, .int .i64 0, .slice none 0 0, .int .i64 0, .int .i64 0, .int .i64 0, .int .i64 0, .int .i64 0] 28)) = W0 at *
    go_region
    have HC : Hk (Below w.heap.size w ((W0.setCell ⟨w.heap.size + 1, 4, none⟩ (.slice a m c)).setCell ⟨w.heap.size + 1, 3, none⟩ (.int .i64 n)).drew) := ⟨Below.drew (((HW0.out.setCell (p := ⟨w.heap.size + 1, 4, none⟩) (by simp) _).setCell (p := ⟨w.heap.size + 1, 3, none⟩) (by simp) _))⟩
    have HCB : Hk (CmB ((W0.setCell ⟨w.heap.size + 1, 4, none⟩ (.slice a m c)).setCell ⟨w.heap.size + 1, 3, none⟩ (.int .i64 n)).drew w.heap.size p s 6 n a m c t wd h x y) := ⟨⟨by go_simp, by go_simp, by go_simp, by go_simp, by go_simp, by go_simp, by go_simp, by go_simp, by go_simp, by go_simp, fun j => by have := CF.out j; go_simp⟩⟩
    have HXB : Hk (CmB ((W0.setCell ⟨w.heap.size + 1, 4, none⟩ (.slice a m c)).setCell ⟨w.heap.size + 1, 3, none⟩ (.int .i64 n)).drew (w.heap.size + 1) p s 6 n a m c 0 0 0 0 0) := ⟨⟨by go_simp, by go_simp, by go_simp, by go_simp, by go_simp, by go_simp, by go_simp, by go_simp, by go_simp, by go_simp, fun j => by have := XF.out j; go_simp⟩⟩
    have hy : w.heap.size < ((W0.setCell ⟨w.heap.size + 1, 4, none⟩ (.slice a m c)).setCell ⟨w.heap.size + 1, 3, none⟩ (.int .i64 n)).drew.heap.size := by simpa using hz
    have hy1 : w.heap.size + 1 < ((W0.setCell ⟨w.heap.size + 1, 4, none⟩ (.slice a m c)).setCell ⟨w.heap.size + 1, 3, none⟩ (.int .i64 n)).drew.heap.size := by simpa using hz1
    clear c0 c1 c2 c3 c4 c5 c6 c7 c8 c9 x0 x1 x2 x3 x4 x5 x6 x7 x8 x9 f4 f3 CF XF hz hz1 HW0
    generalize ((W0.setCell ⟨w.heap.size + 1, 4, none⟩ (.slice a m c)).setCell ⟨w.heap.size + 1, 3, none⟩ (.int .i64 n)).drew = W1 at *
    obtain ⟨c0, c1, c2, c3, c4, c5, c6, c7, c8, c9, -⟩ := HCB.out
    obtain ⟨x0, x1, x2, x3, x4, x5, x6, x7, x8, x9, -⟩ := HXB.out
    go_wp2_with (first | (go_at_call 65; (with_reducible refine (rids_as true a m c u _ (HNA.out _ HC.out) hm F0).mono ?_); rintro e w' ⟨rfl, mm, rfl⟩; have HC := Hk.mk (below_drewN HC.out mm)) | (go_at_call 67; (with_reducible refine (rid22_as false n _ F1).mono ?_); rintro e w' ⟨rfl, rfl⟩))
    go_ret
    exact ⟨rb R.out, HC.out⟩
  have F1 := Hk.mk h1
  have EE : Hk (eqcB p s 6 n u 0 0 0 0 0 p s 6 n u t wd h x y = r) := ⟨by
    rw [← E.out]; unfold refC eqcB; rw [BB.out, Bool.eq_iff_iff]
    simp at h1
    simp [vB, h0]
    first | done | grind | omega⟩
  clear E h0 h1
  go_enter Try.func18, Try.ntmps18
  go_wp2_with (go_at_call 63; (with_reducible refine (rnum22_as true s 1099511627776 _ E1).mono ?_); rintro e w' ⟨rfl, rfl⟩)
  obtain ⟨c0, c1, c2, c3, c4, c5, c6, c7, c8, c9, cf⟩ := (CmB.box w p s 6 n a m c t wd h x y).below ((Below.refl _ _).alloc (Nat.le_refl _) (.cells #[.int .i64 p, .int .i64 s, .int .i64 6, .int .i64 0, .slice none 0 0, .int .i64 0, .int .i64 0, .int .i64 0, .int .i64 0, .int .i64 0] 28)) (by simp)
  obtain ⟨x0, x1, x2, x3, x4, x5, x6, x7, x8, x9, xf⟩ := CmB.box (w.alloc (.cells #[.int .i64 p, .int .i64 s, .int .i64 6, .int .i64 n, .slice a m c, .int .i64 t, .int .i64 wd, .int .i64 h, .int .i64 x, .int .i64 y] 28)) p s 6 0 none 0 0 0 0 0 0 0
  rw [show (w.alloc (.cells #[.int .i64 p, .int .i64 s, .int .i64 6, .int .i64 n, .slice a m c, .int .i64 t, .int .i64 wd, .int .i64 h, .int .i64 x, .int .i64 y] 28)).heap.size = w.heap.size + 1 by simp] at *
  have f4 := xf 4
  have f3 := xf 3
  have hz : w.heap.size < ((w.alloc (.cells #[.int .i64 p, .int .i64 s, .int .i64 6, .int .i64 n, .slice a m c, .int .i64 t, .int .i64 wd, .int .i64 h, .int .i64 x, .int .i64 y] 28)).alloc (.cells #[.int .i64 p, .int .i64 s, .int .i64 6, .int .i64 0, .slice none 0 0, .int .i64 0, .int .i64 0, .int .i64 0, .int .i64 0, .int .i64 0] 28)).heap.size := by simp; omega
  have hz1 : w.heap.size + 1 < ((w.alloc (.cells #[.int .i64 p, .int .i64 s, .int .i64 6, .int .i64 n, .slice a m c, .int .i64 t, .int .i64 wd, .int .i64 h, .int .i64 x, .int .i64 y] 28)).alloc (.cells #[.int .i64 p, .int .i64 s, .int .i64 6, .int .i64 0, .slice none 0 0, .int .i64 0, .int .i64 0, .int .i64 0, .int .i64 0, .int .i64 0] 28)).heap.size := by simp
  have CF := Hk.mk cf
  have XF := Hk.mk xf
  clear cf xf
  generalize ((w.alloc (.cells #[.int .i64 p, .int .i64 s, .int .i64 6, .int .i64 n, .slice a m c, .int .i64 t, .int .i64 wd, .int .i64 h, .int .i64 x, .int .i64 y] 28)).alloc (.cells #[.int .i64 p, .int .i64 s, .int .i64 6, .int .i64 0, .slice none 0 0, .int .i64 0, .int .i64 0, .int .i64 0, .int .i64 0, .int .i64 0] 28)) = W0 at *
  go_region
  have HC : Hk (Below w.heap.size w ((W0.setCell ⟨w.heap.size + 1, 4, none⟩ (.slice a m c)).setCell ⟨w.heap.size + 1, 3, none⟩ (.int .i64 n)).drew) := ⟨Below.drew (((HW0.out.setCell (p := ⟨w.heap.size + 1, 4, none⟩) (by simp) _).setCell (p := ⟨w.heap.size + 1, 3, none⟩) (by simp) _))⟩
  have HCB : Hk (CmB ((W0.setCell ⟨w.heap.size + 1, 4, none⟩ (.slice a m c)).setCell ⟨w.heap.size + 1, 3, none⟩ (.int .i64 n)).drew w.heap.size p s 6 n a m c t wd h x y) := ⟨⟨by go_simp, by go_simp, by go_simp, by go_simp, by go_simp, by go_simp, by go_simp, by go_simp, by go_simp, by go_simp, fun j => by have := CF.out j; go_simp⟩⟩
  have HXB : Hk (CmB ((W0.setCell ⟨w.heap.size + 1, 4, none⟩ (.slice a m c)).setCell ⟨w.heap.size + 1, 3, none⟩ (.int .i64 n)).drew (w.heap.size + 1) p s 6 n a m c 0 0 0 0 0) := ⟨⟨by go_simp, by go_simp, by go_simp, by go_simp, by go_simp, by go_simp, by go_simp, by go_simp, by go_simp, by go_simp, fun j => by have := XF.out j; go_simp⟩⟩
  have hy : w.heap.size < ((W0.setCell ⟨w.heap.size + 1, 4, none⟩ (.slice a m c)).setCell ⟨w.heap.size + 1, 3, none⟩ (.int .i64 n)).drew.heap.size := by simpa using hz
  have hy1 : w.heap.size + 1 < ((W0.setCell ⟨w.heap.size + 1, 4, none⟩ (.slice a m c)).setCell ⟨w.heap.size + 1, 3, none⟩ (.int .i64 n)).drew.heap.size := by simpa using hz1
  clear c0 c1 c2 c3 c4 c5 c6 c7 c8 c9 x0 x1 x2 x3 x4 x5 x6 x7 x8 x9 f4 f3 CF XF hz hz1 HW0
  generalize ((W0.setCell ⟨w.heap.size + 1, 4, none⟩ (.slice a m c)).setCell ⟨w.heap.size + 1, 3, none⟩ (.int .i64 n)).drew = W1 at *
  obtain ⟨c0, c1, c2, c3, c4, c5, c6, c7, c8, c9, -⟩ := HCB.out
  obtain ⟨x0, x1, x2, x3, x4, x5, x6, x7, x8, x9, -⟩ := HXB.out
  go_wp2_with (first | (go_at_call 65; (with_reducible refine (rids_as true a m c u _ (HNA.out _ HC.out) hm F0).mono ?_); rintro e w' ⟨rfl, mm, rfl⟩; have HC := Hk.mk (below_drewN HC.out mm)) | (go_at_call 67; (with_reducible refine (rid22_as true n _ F1).mono ?_); rintro e w' ⟨rfl, rfl⟩) | (go_at_call 23; (with_reducible refine (eqc_as r p s 6 n a m c u 0 0 0 0 0 p s 6 n a m c u t wd h x y _ (HNA.out _ HC.out) hm (HNA.out _ HC.out) hm EE).mono ?_); rintro e w9 ⟨rfl, hb9⟩; have HC := Hk.mk (HC.out.trans (hb9.mono HC.out.size)); clear hb9))
  go_ret
  exact ⟨rfl, HC.out⟩
set_option maxRecDepth 100000 in
set_option maxHeartbeats 3200000 in
theorem rcmd7 (r : Bool) (p s n : Int) (a : Option Addr) (m c : Nat) (u : List Int) (t wd h x y : Int) (w : World) (hN : Nq w w.heap.size a m u) (hm : m ≤ 1099511627776) (E : Hk (refC p s 7 ⟨n, u, t, wd, h, x, y⟩ = r)) :
    Calls Try.prog 18 #[.agg #[.int .i64 p, .int .i64 s, .int .i64 7, .int .i64 n, .slice a m c, .int .i64 t, .int .i64 wd, .int .i64 h, .int .i64 x, .int .i64 y]] w fun e w' => e = .returned (.bool r) ∧ Below w.heap.size w w' := by
  have HNA : Hk (∀ X, Below w.heap.size w X → Nq X X.heap.size a m u) := ⟨fun X hX => (hN.below hX (Nat.le_refl _)).mono hX.size⟩
  clear hN
  have HW0 : Hk (Below w.heap.size w ((w.alloc (.cells #[.int .i64 p, .int .i64 s, .int .i64 7, .int .i64 n, .slice a m c, .int .i64 t, .int .i64 wd, .int .i64 h, .int .i64 x, .int .i64 y] 28)).alloc (.cells #[.int .i64 p, .int .i64 s, .int .i64 7, .int .i64 0, .slice none 0 0, .int .i64 0, .int .i64 0, .int .i64 0, .int .i64 0, .int .i64 0] 28))) := ⟨((Below.refl _ _).alloc (Nat.le_refl _) _).alloc (by simp) _⟩
  by_cases g0 : ¬ (1 ≤ p)
  · have b0 : decide (1 ≤ p) = false := by simp; omega
    have R : Hk (false = r) := ⟨by rw [← E.out]; unfold refC baseB; simp; intros; omega⟩
    clear E
    go_enter Try.func18, Try.ntmps18
    go_wp2
    obtain ⟨c0, c1, c2, c3, c4, c5, c6, c7, c8, c9, cf⟩ := (CmB.box w p s 7 n a m c t wd h x y).below ((Below.refl _ _).alloc (Nat.le_refl _) (.cells #[.int .i64 p, .int .i64 s, .int .i64 7, .int .i64 0, .slice none 0 0, .int .i64 0, .int .i64 0, .int .i64 0, .int .i64 0, .int .i64 0] 28)) (by simp)
    obtain ⟨x0, x1, x2, x3, x4, x5, x6, x7, x8, x9, xf⟩ := CmB.box (w.alloc (.cells #[.int .i64 p, .int .i64 s, .int .i64 7, .int .i64 n, .slice a m c, .int .i64 t, .int .i64 wd, .int .i64 h, .int .i64 x, .int .i64 y] 28)) p s 7 0 none 0 0 0 0 0 0 0
    rw [show (w.alloc (.cells #[.int .i64 p, .int .i64 s, .int .i64 7, .int .i64 n, .slice a m c, .int .i64 t, .int .i64 wd, .int .i64 h, .int .i64 x, .int .i64 y] 28)).heap.size = w.heap.size + 1 by simp] at *
    have f3 := xf 3
    have f5 := xf 5
    have hz : w.heap.size < ((w.alloc (.cells #[.int .i64 p, .int .i64 s, .int .i64 7, .int .i64 n, .slice a m c, .int .i64 t, .int .i64 wd, .int .i64 h, .int .i64 x, .int .i64 y] 28)).alloc (.cells #[.int .i64 p, .int .i64 s, .int .i64 7, .int .i64 0, .slice none 0 0, .int .i64 0, .int .i64 0, .int .i64 0, .int .i64 0, .int .i64 0] 28)).heap.size := by simp; omega
    have hz1 : w.heap.size + 1 < ((w.alloc (.cells #[.int .i64 p, .int .i64 s, .int .i64 7, .int .i64 n, .slice a m c, .int .i64 t, .int .i64 wd, .int .i64 h, .int .i64 x, .int .i64 y] 28)).alloc (.cells #[.int .i64 p, .int .i64 s, .int .i64 7, .int .i64 0, .slice none 0 0, .int .i64 0, .int .i64 0, .int .i64 0, .int .i64 0, .int .i64 0] 28)).heap.size := by simp
    have CF := Hk.mk cf
    have XF := Hk.mk xf
    clear cf xf
    generalize ((w.alloc (.cells #[.int .i64 p, .int .i64 s, .int .i64 7, .int .i64 n, .slice a m c, .int .i64 t, .int .i64 wd, .int .i64 h, .int .i64 x, .int .i64 y] 28)).alloc (.cells #[.int .i64 p, .int .i64 s, .int .i64 7, .int .i64 0, .slice none 0 0, .int .i64 0, .int .i64 0, .int .i64 0, .int .i64 0, .int .i64 0] 28)) = W0 at *
    go_region
    have HC : Hk (Below w.heap.size w ((W0.setCell ⟨w.heap.size + 1, 3, none⟩ (.int .i64 n)).setCell ⟨w.heap.size + 1, 5, none⟩ (.int .i64 t)).drew) := ⟨Below.drew (((HW0.out.setCell (p := ⟨w.heap.size + 1, 3, none⟩) (by simp) _).setCell (p := ⟨w.heap.size + 1, 5, none⟩) (by simp) _))⟩
    have HCB : Hk (CmB ((W0.setCell ⟨w.heap.size + 1, 3, none⟩ (.int .i64 n)).setCell ⟨w.heap.size + 1, 5, none⟩ (.int .i64 t)).drew w.heap.size p s 7 n a m c t wd h x y) := ⟨⟨by go_simp, by go_simp, by go_simp, by go_simp, by go_simp, by go_simp, by go_simp, by go_simp, by go_simp, by go_simp, fun j => by have := CF.out j; go_simp⟩⟩
    have HXB : Hk (CmB ((W0.setCell ⟨w.heap.size + 1, 3, none⟩ (.int .i64 n)).setCell ⟨w.heap.size + 1, 5, none⟩ (.int .i64 t)).drew (w.heap.size + 1) p s 7 n none 0 0 t 0 0 0 0) := ⟨⟨by go_simp, by go_simp, by go_simp, by go_simp, by go_simp, by go_simp, by go_simp, by go_simp, by go_simp, by go_simp, fun j => by have := XF.out j; go_simp⟩⟩
    have hy : w.heap.size < ((W0.setCell ⟨w.heap.size + 1, 3, none⟩ (.int .i64 n)).setCell ⟨w.heap.size + 1, 5, none⟩ (.int .i64 t)).drew.heap.size := by simpa using hz
    have hy1 : w.heap.size + 1 < ((W0.setCell ⟨w.heap.size + 1, 3, none⟩ (.int .i64 n)).setCell ⟨w.heap.size + 1, 5, none⟩ (.int .i64 t)).drew.heap.size := by simpa using hz1
    clear c0 c1 c2 c3 c4 c5 c6 c7 c8 c9 x0 x1 x2 x3 x4 x5 x6 x7 x8 x9 f3 f5 CF XF hz hz1 HW0
    generalize ((W0.setCell ⟨w.heap.size + 1, 3, none⟩ (.int .i64 n)).setCell ⟨w.heap.size + 1, 5, none⟩ (.int .i64 t)).drew = W1 at *
    obtain ⟨c0, c1, c2, c3, c4, c5, c6, c7, c8, c9, -⟩ := HCB.out
    obtain ⟨x0, x1, x2, x3, x4, x5, x6, x7, x8, x9, -⟩ := HXB.out
    go_wp2
    go_ret
    exact ⟨rb R.out, HC.out⟩
  have b0 : decide (1 ≤ p) = true := by simp; omega
  by_cases g1 : ¬ (p ≤ 8)
  · have b1 : decide (p ≤ 8) = false := by simp; omega
    have R : Hk (false = r) := ⟨by rw [← E.out]; unfold refC baseB; simp; intros; omega⟩
    clear E
    go_enter Try.func18, Try.ntmps18
    go_wp2
    obtain ⟨c0, c1, c2, c3, c4, c5, c6, c7, c8, c9, cf⟩ := (CmB.box w p s 7 n a m c t wd h x y).below ((Below.refl _ _).alloc (Nat.le_refl _) (.cells #[.int .i64 p, .int .i64 s, .int .i64 7, .int .i64 0, .slice none 0 0, .int .i64 0, .int .i64 0, .int .i64 0, .int .i64 0, .int .i64 0] 28)) (by simp)
    obtain ⟨x0, x1, x2, x3, x4, x5, x6, x7, x8, x9, xf⟩ := CmB.box (w.alloc (.cells #[.int .i64 p, .int .i64 s, .int .i64 7, .int .i64 n, .slice a m c, .int .i64 t, .int .i64 wd, .int .i64 h, .int .i64 x, .int .i64 y] 28)) p s 7 0 none 0 0 0 0 0 0 0
    rw [show (w.alloc (.cells #[.int .i64 p, .int .i64 s, .int .i64 7, .int .i64 n, .slice a m c, .int .i64 t, .int .i64 wd, .int .i64 h, .int .i64 x, .int .i64 y] 28)).heap.size = w.heap.size + 1 by simp] at *
    have f3 := xf 3
    have f5 := xf 5
    have hz : w.heap.size < ((w.alloc (.cells #[.int .i64 p, .int .i64 s, .int .i64 7, .int .i64 n, .slice a m c, .int .i64 t, .int .i64 wd, .int .i64 h, .int .i64 x, .int .i64 y] 28)).alloc (.cells #[.int .i64 p, .int .i64 s, .int .i64 7, .int .i64 0, .slice none 0 0, .int .i64 0, .int .i64 0, .int .i64 0, .int .i64 0, .int .i64 0] 28)).heap.size := by simp; omega
    have hz1 : w.heap.size + 1 < ((w.alloc (.cells #[.int .i64 p, .int .i64 s, .int .i64 7, .int .i64 n, .slice a m c, .int .i64 t, .int .i64 wd, .int .i64 h, .int .i64 x, .int .i64 y] 28)).alloc (.cells #[.int .i64 p, .int .i64 s, .int .i64 7, .int .i64 0, .slice none 0 0, .int .i64 0, .int .i64 0, .int .i64 0, .int .i64 0, .int .i64 0] 28)).heap.size := by simp
    have CF := Hk.mk cf
    have XF := Hk.mk xf
    clear cf xf
    generalize ((w.alloc (.cells #[.int .i64 p, .int .i64 s, .int .i64 7, .int .i64 n, .slice a m c, .int .i64 t, .int .i64 wd, .int .i64 h, .int .i64 x, .int .i64 y] 28)).alloc (.cells #[.int .i64 p, .int .i64 s, .int .i64 7, .int .i64 0, .slice none 0 0, .int .i64 0, .int .i64 0, .int .i64 0, .int .i64 0, .int .i64 0] 28)) = W0 at *
    go_region
    have HC : Hk (Below w.heap.size w ((W0.setCell ⟨w.heap.size + 1, 3, none⟩ (.int .i64 n)).setCell ⟨w.heap.size + 1, 5, none⟩ (.int .i64 t)).drew) := ⟨Below.drew (((HW0.out.setCell (p := ⟨w.heap.size + 1, 3, none⟩) (by simp) _).setCell (p := ⟨w.heap.size + 1, 5, none⟩) (by simp) _))⟩
    have HCB : Hk (CmB ((W0.setCell ⟨w.heap.size + 1, 3, none⟩ (.int .i64 n)).setCell ⟨w.heap.size + 1, 5, none⟩ (.int .i64 t)).drew w.heap.size p s 7 n a m c t wd h x y) := ⟨⟨by go_simp, by go_simp, by go_simp, by go_simp, by go_simp, by go_simp, by go_simp, by go_simp, by go_simp, by go_simp, fun j => by have := CF.out j; go_simp⟩⟩
    have HXB : Hk (CmB ((W0.setCell ⟨w.heap.size + 1, 3, none⟩ (.int .i64 n)).setCell ⟨w.heap.size + 1, 5, none⟩ (.int .i64 t)).drew (w.heap.size + 1) p s 7 n none 0 0 t 0 0 0 0) := ⟨⟨by go_simp, by go_simp, by go_simp, by go_simp, by go_simp, by go_simp, by go_simp, by go_simp, by go_simp, by go_simp, fun j => by have := XF.out j; go_simp⟩⟩
    have hy : w.heap.size < ((W0.setCell ⟨w.heap.size + 1, 3, none⟩ (.int .i64 n)).setCell ⟨w.heap.size + 1, 5, none⟩ (.int .i64 t)).drew.heap.size := by simpa using hz
    have hy1 : w.heap.size + 1 < ((W0.setCell ⟨w.heap.size + 1, 3, none⟩ (.int .i64 n)).setCell ⟨w.heap.size + 1, 5, none⟩ (.int .i64 t)).drew.heap.size := by simpa using hz1
    clear c0 c1 c2 c3 c4 c5 c6 c7 c8 c9 x0 x1 x2 x3 x4 x5 x6 x7 x8 x9 f3 f5 CF XF hz hz1 HW0
    generalize ((W0.setCell ⟨w.heap.size + 1, 3, none⟩ (.int .i64 n)).setCell ⟨w.heap.size + 1, 5, none⟩ (.int .i64 t)).drew = W1 at *
    obtain ⟨c0, c1, c2, c3, c4, c5, c6, c7, c8, c9, -⟩ := HCB.out
    obtain ⟨x0, x1, x2, x3, x4, x5, x6, x7, x8, x9, -⟩ := HXB.out
    go_wp2
    go_ret
    exact ⟨rb R.out, HC.out⟩
  have b1 : decide (p ≤ 8) = true := by simp; omega
  cases e1 : decide (0 ≤ s ∧ s ≤ 1099511627776)
  case false =>
    have E1 := Hk.mk e1
    have R : Hk (false = r) := ⟨by rw [← E.out]; simp at e1; unfold refC baseB; simp; intros; omega⟩
    clear E e1
    go_enter Try.func18, Try.ntmps18
    go_wp2_with (go_at_call 63; (with_reducible refine (rnum22_as false s 1099511627776 _ E1).mono ?_); rintro e w' ⟨rfl, rfl⟩)
    obtain ⟨c0, c1, c2, c3, c4, c5, c6, c7, c8, c9, cf⟩ := (CmB.box w p s 7 n a m c t wd h x y).below ((Below.refl _ _).alloc (Nat.le_refl _) (.cells #[.int .i64 p, .int .i64 s, .int .i64 7, .int .i64 0, .slice none 0 0, .int .i64 0, .int .i64 0, .int .i64 0, .int .i64 0, .int .i64 0] 28)) (by simp)
    obtain ⟨x0, x1, x2, x3, x4, x5, x6, x7, x8, x9, xf⟩ := CmB.box (w.alloc (.cells #[.int .i64 p, .int .i64 s, .int .i64 7, .int .i64 n, .slice a m c, .int .i64 t, .int .i64 wd, .int .i64 h, .int .i64 x, .int .i64 y] 28)) p s 7 0 none 0 0 0 0 0 0 0
    rw [show (w.alloc (.cells #[.int .i64 p, .int .i64 s, .int .i64 7, .int .i64 n, .slice a m c, .int .i64 t, .int .i64 wd, .int .i64 h, .int .i64 x, .int .i64 y] 28)).heap.size = w.heap.size + 1 by simp] at *
    have f3 := xf 3
    have f5 := xf 5
    have hz : w.heap.size < ((w.alloc (.cells #[.int .i64 p, .int .i64 s, .int .i64 7, .int .i64 n, .slice a m c, .int .i64 t, .int .i64 wd, .int .i64 h, .int .i64 x, .int .i64 y] 28)).alloc (.cells #[.int .i64 p, .int .i64 s, .int .i64 7, .int .i64 0, .slice none 0 0, .int .i64 0, .int .i64 0, .int .i64 0, .int .i64 0, .int .i64 0] 28)).heap.size := by simp; omega
    have hz1 : w.heap.size + 1 < ((w.alloc (.cells #[.int .i64 p, .int .i64 s, .int .i64 7, .int .i64 n, .slice a m c, .int .i64 t, .int .i64 wd, .int .i64 h, .int .i64 x, .int .i64 y] 28)).alloc (.cells #[.int .i64 p, .int .i64 s, .int .i64 7, .int .i64 0, .slice none 0 0, .int .i64 0, .int .i64 0, .int .i64 0, .int .i64 0, .int .i64 0] 28)).heap.size := by simp
    have CF := Hk.mk cf
    have XF := Hk.mk xf
    clear cf xf
    generalize ((w.alloc (.cells #[.int .i64 p, .int .i64 s, .int .i64 7, .int .i64 n, .slice a m c, .int .i64 t, .int .i64 wd, .int .i64 h, .int .i64 x, .int .i64 y] 28)).alloc (.cells #[.int .i64 p, .int .i64 s, .int .i64 7, .int .i64 0, .slice none 0 0, .int .i64 0, .int .i64 0, .int .i64 0, .int .i64 0, .int .i64 0] 28)) = W0 at *
    go_region
    have HC : Hk (Below w.heap.size w ((W0.setCell ⟨w.heap.size + 1, 3, none⟩ (.int .i64 n)).setCell ⟨w.heap.size + 1, 5, none⟩ (.int .i64 t)).drew) := ⟨Below.drew (((HW0.out.setCell (p := ⟨w.heap.size + 1, 3, none⟩) (by simp) _).setCell (p := ⟨w.heap.size + 1, 5, none⟩) (by simp) _))⟩
    have HCB : Hk (CmB ((W0.setCell ⟨w.heap.size + 1, 3, none⟩ (.int .i64 n)).setCell ⟨w.heap.size + 1, 5, none⟩ (.int .i64 t)).drew w.heap.size p s 7 n a m c t wd h x y) := ⟨⟨by go_simp, by go_simp, by go_simp, by go_simp, by go_simp, by go_simp, by go_simp, by go_simp, by go_simp, by go_simp, fun j => by have := CF.out j; go_simp⟩⟩
    have HXB : Hk (CmB ((W0.setCell ⟨w.heap.size + 1, 3, none⟩ (.int .i64 n)).setCell ⟨w.heap.size + 1, 5, none⟩ (.int .i64 t)).drew (w.heap.size + 1) p s 7 n none 0 0 t 0 0 0 0) := ⟨⟨by go_simp, by go_simp, by go_simp, by go_simp, by go_simp, by go_simp, by go_simp, by go_simp, by go_simp, by go_simp, fun j => by have := XF.out j; go_simp⟩⟩
    have hy : w.heap.size < ((W0.setCell ⟨w.heap.size + 1, 3, none⟩ (.int .i64 n)).setCell ⟨w.heap.size + 1, 5, none⟩ (.int .i64 t)).drew.heap.size := by simpa using hz
    have hy1 : w.heap.size + 1 < ((W0.setCell ⟨w.heap.size + 1, 3, none⟩ (.int .i64 n)).setCell ⟨w.heap.size + 1, 5, none⟩ (.int .i64 t)).drew.heap.size := by simpa using hz1
    clear c0 c1 c2 c3 c4 c5 c6 c7 c8 c9 x0 x1 x2 x3 x4 x5 x6 x7 x8 x9 f3 f5 CF XF hz hz1 HW0
    generalize ((W0.setCell ⟨w.heap.size + 1, 3, none⟩ (.int .i64 n)).setCell ⟨w.heap.size + 1, 5, none⟩ (.int .i64 t)).drew = W1 at *
    obtain ⟨c0, c1, c2, c3, c4, c5, c6, c7, c8, c9, -⟩ := HCB.out
    obtain ⟨x0, x1, x2, x3, x4, x5, x6, x7, x8, x9, -⟩ := HXB.out
    go_wp2
    go_ret
    exact ⟨rb R.out, HC.out⟩
  have E1 := Hk.mk e1
  have BB : Hk (baseB p s = true) := ⟨by simp at e1; unfold baseB; simp; omega⟩
  clear e1 g0 g1
  cases h0 : decide (1 ≤ n ∧ n ≤ 1099511627776)
  case false =>
    have R : Hk (false = r) := ⟨by rw [← E.out]; unfold refC; rw [BB.out]; simp at h0; simp [vB]; intros; omega⟩
    have F0 := Hk.mk h0
    clear E h0
    go_enter Try.func18, Try.ntmps18
    go_wp2_with (go_at_call 63; (with_reducible refine (rnum22_as true s 1099511627776 _ E1).mono ?_); rintro e w' ⟨rfl, rfl⟩)
    obtain ⟨c0, c1, c2, c3, c4, c5, c6, c7, c8, c9, cf⟩ := (CmB.box w p s 7 n a m c t wd h x y).below ((Below.refl _ _).alloc (Nat.le_refl _) (.cells #[.int .i64 p, .int .i64 s, .int .i64 7, .int .i64 0, .slice none 0 0, .int .i64 0, .int .i64 0, .int .i64 0, .int .i64 0, .int .i64 0] 28)) (by simp)
    obtain ⟨x0, x1, x2, x3, x4, x5, x6, x7, x8, x9, xf⟩ := CmB.box (w.alloc (.cells #[.int .i64 p, .int .i64 s, .int .i64 7, .int .i64 n, .slice a m c, .int .i64 t, .int .i64 wd, .int .i64 h, .int .i64 x, .int .i64 y] 28)) p s 7 0 none 0 0 0 0 0 0 0
    rw [show (w.alloc (.cells #[.int .i64 p, .int .i64 s, .int .i64 7, .int .i64 n, .slice a m c, .int .i64 t, .int .i64 wd, .int .i64 h, .int .i64 x, .int .i64 y] 28)).heap.size = w.heap.size + 1 by simp] at *
    have f3 := xf 3
    have f5 := xf 5
    have hz : w.heap.size < ((w.alloc (.cells #[.int .i64 p, .int .i64 s, .int .i64 7, .int .i64 n, .slice a m c, .int .i64 t, .int .i64 wd, .int .i64 h, .int .i64 x, .int .i64 y] 28)).alloc (.cells #[.int .i64 p, .int .i64 s, .int .i64 7, .int .i64 0, .slice none 0 0, .int .i64 0, .int .i64 0, .int .i64 0, .int .i64 0, .int .i64 0] 28)).heap.size := by simp; omega
    have hz1 : w.heap.size + 1 < ((w.alloc (.cells #[.int .i64 p, .int .i64 s, .int .i64 7, .int .i64 n, .slice a m c, .int .i64 t, .int .i64 wd, .int .i64 h, .int .i64 x, .int .i64 y] 28)).alloc (.cells #[.int .i64 p, .int .i64 s, .int .i64 7, .int .i64 0, .slice none 0 0, .int .i64 0, .int .i64 0, .int .i64 0, .int .i64 0, .int .i64 0] 28)).heap.size := by simp
    have CF := Hk.mk cf
    have XF := Hk.mk xf
    clear cf xf
    generalize ((w.alloc (.cells #[.int .i64 p, .int .i64 s, .int .i64 7, .int .i64 n, .slice a m c, .int .i64 t, .int .i64 wd, .int .i64 h, .int .i64 x, .int .i64 y] 28)).alloc (.cells #[.int .i64 p, .int .i64 s, .int .i64 7, .int .i64 0, .slice none 0 0, .int .i64 0, .int .i64 0, .int .i64 0, .int .i64 0, .int .i64 0] 28)) = W0 at *
    go_region
    have HC : Hk (Below w.heap.size w ((W0.setCell ⟨w.heap.size + 1, 3, none⟩ (.int .i64 n)).setCell ⟨w.heap.size + 1, 5, none⟩ (.int .i64 t)).drew) := ⟨Below.drew (((HW0.out.setCell (p := ⟨w.heap.size + 1, 3, none⟩) (by simp) _).setCell (p := ⟨w.heap.size + 1, 5, none⟩) (by simp) _))⟩
    have HCB : Hk (CmB ((W0.setCell ⟨w.heap.size + 1, 3, none⟩ (.int .i64 n)).setCell ⟨w.heap.size + 1, 5, none⟩ (.int .i64 t)).drew w.heap.size p s 7 n a m c t wd h x y) := ⟨⟨by go_simp, by go_simp, by go_simp, by go_simp, by go_simp, by go_simp, by go_simp, by go_simp, by go_simp, by go_simp, fun j => by have := CF.out j; go_simp⟩⟩
    have HXB : Hk (CmB ((W0.setCell ⟨w.heap.size + 1, 3, none⟩ (.int .i64 n)).setCell ⟨w.heap.size + 1, 5, none⟩ (.int .i64 t)).drew (w.heap.size + 1) p s 7 n none 0 0 t 0 0 0 0) := ⟨⟨by go_simp, by go_simp, by go_simp, by go_simp, by go_simp, by go_simp, by go_simp, by go_simp, by go_simp, by go_simp, fun j => by have := XF.out j; go_simp⟩⟩
    have hy : w.heap.size < ((W0.setCell ⟨w.heap.size + 1, 3, none⟩ (.int .i64 n)).setCell ⟨w.heap.size + 1, 5, none⟩ (.int .i64 t)).drew.heap.size := by simpa using hz
    have hy1 : w.heap.size + 1 < ((W0.setCell ⟨w.heap.size + 1, 3, none⟩ (.int .i64 n)).setCell ⟨w.heap.size + 1, 5, none⟩ (.int .i64 t)).drew.heap.size := by simpa using hz1
    clear c0 c1 c2 c3 c4 c5 c6 c7 c8 c9 x0 x1 x2 x3 x4 x5 x6 x7 x8 x9 f3 f5 CF XF hz hz1 HW0
    generalize ((W0.setCell ⟨w.heap.size + 1, 3, none⟩ (.int .i64 n)).setCell ⟨w.heap.size + 1, 5, none⟩ (.int .i64 t)).drew = W1 at *
    obtain ⟨c0, c1, c2, c3, c4, c5, c6, c7, c8, c9, -⟩ := HCB.out
    obtain ⟨x0, x1, x2, x3, x4, x5, x6, x7, x8, x9, -⟩ := HXB.out
    go_wp2_with (first | (go_at_call 67; (with_reducible refine (rid22_as false n _ F0).mono ?_); rintro e w' ⟨rfl, rfl⟩))
    go_ret
    exact ⟨rb R.out, HC.out⟩
  have F0 := Hk.mk h0
  cases h1 : decide (0 ≤ t ∧ t ≤ 16383)
  case false =>
    have R : Hk (false = r) := ⟨by rw [← E.out]; unfold refC; rw [BB.out]; simp at h1; simp [vB]; intros; omega⟩
    have F1 := Hk.mk h1
    clear E h1
    go_enter Try.func18, Try.ntmps18
    go_wp2_with (go_at_call 63; (with_reducible refine (rnum22_as true s 1099511627776 _ E1).mono ?_); rintro e w' ⟨rfl, rfl⟩)
    obtain ⟨c0, c1, c2, c3, c4, c5, c6, c7, c8, c9, cf⟩ := (CmB.box w p s 7 n a m c t wd h x y).below ((Below.refl _ _).alloc (Nat.le_refl _) (.cells #[.int .i64 p, .int .i64 s, .int .i64 7, .int .i64 0, .slice none 0 0, .int .i64 0, .int .i64 0, .int .i64 0, .int .i64 0, .int .i64 0] 28)) (by simp)
    obtain ⟨x0, x1, x2, x3, x4, x5, x6, x7, x8, x9, xf⟩ := CmB.box (w.alloc (.cells #[.int .i64 p, .int .i64 s, .int .i64 7, .int .i64 n, .slice a m c, .int .i64 t, .int .i64 wd, .int .i64 h, .int .i64 x, .int .i64 y] 28)) p s 7 0 none 0 0 0 0 0 0 0
    rw [show (w.alloc (.cells #[.int .i64 p, .int .i64 s, .int .i64 7, .int .i64 n, .slice a m c, .int .i64 t, .int .i64 wd, .int .i64 h, .int .i64 x, .int .i64 y] 28)).heap.size = w.heap.size + 1 by simp] at *
    have f3 := xf 3
    have f5 := xf 5
    have hz : w.heap.size < ((w.alloc (.cells #[.int .i64 p, .int .i64 s, .int .i64 7, .int .i64 n, .slice a m c, .int .i64 t, .int .i64 wd, .int .i64 h, .int .i64 x, .int .i64 y] 28)).alloc (.cells #[.int .i64 p, .int .i64 s, .int .i64 7, .int .i64 0, .slice none 0 0, .int .i64 0, .int .i64 0, .int .i64 0, .int .i64 0, .int .i64 0] 28)).heap.size := by simp; omega
    have hz1 : w.heap.size + 1 < ((w.alloc (.cells #[.int .i64 p, .int .i64 s, .int .i64 7, .int .i64 n, .slice a m c, .int .i64 t, .int .i64 wd, .int .i64 h, .int .i64 x, .int .i64 y] 28)).alloc (.cells #[.int .i64 p, .int .i64 s, .int .i64 7, .int .i64 0, .slice none 0 0, .int .i64 0, .int .i64 0, .int .i64 0, .int .i64 0, .int .i64 0] 28)).heap.size := by simp
    have CF := Hk.mk cf
    have XF := Hk.mk xf
    clear cf xf
    generalize ((w.alloc (.cells #[.int .i64 p, .int .i64 s, .int .i64 7, .int .i64 n, .slice a m c, .int .i64 t, .int .i64 wd, .int .i64 h, .int .i64 x, .int .i64 y] 28)).alloc (.cells #[.int .i64 p, .int .i64 s, .int .i64 7, .int .i64 0, .slice none 0 0, .int .i64 0, .int .i64 0, .int .i64 0, .int .i64 0, .int .i64 0] 28)) = W0 at *
    go_region
    have HC : Hk (Below w.heap.size w ((W0.setCell ⟨w.heap.size + 1, 3, none⟩ (.int .i64 n)).setCell ⟨w.heap.size + 1, 5, none⟩ (.int .i64 t)).drew) := ⟨Below.drew (((HW0.out.setCell (p := ⟨w.heap.size + 1, 3, none⟩) (by simp) _).setCell (p := ⟨w.heap.size + 1, 5, none⟩) (by simp) _))⟩
    have HCB : Hk (CmB ((W0.setCell ⟨w.heap.size + 1, 3, none⟩ (.int .i64 n)).setCell ⟨w.heap.size + 1, 5, none⟩ (.int .i64 t)).drew w.heap.size p s 7 n a m c t wd h x y) := ⟨⟨by go_simp, by go_simp, by go_simp, by go_simp, by go_simp, by go_simp, by go_simp, by go_simp, by go_simp, by go_simp, fun j => by have := CF.out j; go_simp⟩⟩
    have HXB : Hk (CmB ((W0.setCell ⟨w.heap.size + 1, 3, none⟩ (.int .i64 n)).setCell ⟨w.heap.size + 1, 5, none⟩ (.int .i64 t)).drew (w.heap.size + 1) p s 7 n none 0 0 t 0 0 0 0) := ⟨⟨by go_simp, by go_simp, by go_simp, by go_simp, by go_simp, by go_simp, by go_simp, by go_simp, by go_simp, by go_simp, fun j => by have := XF.out j; go_simp⟩⟩
    have hy : w.heap.size < ((W0.setCell ⟨w.heap.size + 1, 3, none⟩ (.int .i64 n)).setCell ⟨w.heap.size + 1, 5, none⟩ (.int .i64 t)).drew.heap.size := by simpa using hz
    have hy1 : w.heap.size + 1 < ((W0.setCell ⟨w.heap.size + 1, 3, none⟩ (.int .i64 n)).setCell ⟨w.heap.size + 1, 5, none⟩ (.int .i64 t)).drew.heap.size := by simpa using hz1
    clear c0 c1 c2 c3 c4 c5 c6 c7 c8 c9 x0 x1 x2 x3 x4 x5 x6 x7 x8 x9 f3 f5 CF XF hz hz1 HW0
    generalize ((W0.setCell ⟨w.heap.size + 1, 3, none⟩ (.int .i64 n)).setCell ⟨w.heap.size + 1, 5, none⟩ (.int .i64 t)).drew = W1 at *
    obtain ⟨c0, c1, c2, c3, c4, c5, c6, c7, c8, c9, -⟩ := HCB.out
    obtain ⟨x0, x1, x2, x3, x4, x5, x6, x7, x8, x9, -⟩ := HXB.out
    go_wp2_with (first | (go_at_call 67; (with_reducible refine (rid22_as true n _ F0).mono ?_); rintro e w' ⟨rfl, rfl⟩) | (go_at_call 66; (with_reducible refine (rtile22_as false t _ F1).mono ?_); rintro e w' ⟨rfl, rfl⟩))
    go_ret
    exact ⟨rb R.out, HC.out⟩
  have F1 := Hk.mk h1
  have EE : Hk (eqcB p s 7 n [] t 0 0 0 0 p s 7 n u t wd h x y = r) := ⟨by
    rw [← E.out]; unfold refC eqcB; rw [BB.out, Bool.eq_iff_iff]
    simp at h0 h1
    simp [vB]
    first | done | grind | omega⟩
  clear E h0 h1
  go_enter Try.func18, Try.ntmps18
  go_wp2_with (go_at_call 63; (with_reducible refine (rnum22_as true s 1099511627776 _ E1).mono ?_); rintro e w' ⟨rfl, rfl⟩)
  obtain ⟨c0, c1, c2, c3, c4, c5, c6, c7, c8, c9, cf⟩ := (CmB.box w p s 7 n a m c t wd h x y).below ((Below.refl _ _).alloc (Nat.le_refl _) (.cells #[.int .i64 p, .int .i64 s, .int .i64 7, .int .i64 0, .slice none 0 0, .int .i64 0, .int .i64 0, .int .i64 0, .int .i64 0, .int .i64 0] 28)) (by simp)
  obtain ⟨x0, x1, x2, x3, x4, x5, x6, x7, x8, x9, xf⟩ := CmB.box (w.alloc (.cells #[.int .i64 p, .int .i64 s, .int .i64 7, .int .i64 n, .slice a m c, .int .i64 t, .int .i64 wd, .int .i64 h, .int .i64 x, .int .i64 y] 28)) p s 7 0 none 0 0 0 0 0 0 0
  rw [show (w.alloc (.cells #[.int .i64 p, .int .i64 s, .int .i64 7, .int .i64 n, .slice a m c, .int .i64 t, .int .i64 wd, .int .i64 h, .int .i64 x, .int .i64 y] 28)).heap.size = w.heap.size + 1 by simp] at *
  have f3 := xf 3
  have f5 := xf 5
  have hz : w.heap.size < ((w.alloc (.cells #[.int .i64 p, .int .i64 s, .int .i64 7, .int .i64 n, .slice a m c, .int .i64 t, .int .i64 wd, .int .i64 h, .int .i64 x, .int .i64 y] 28)).alloc (.cells #[.int .i64 p, .int .i64 s, .int .i64 7, .int .i64 0, .slice none 0 0, .int .i64 0, .int .i64 0, .int .i64 0, .int .i64 0, .int .i64 0] 28)).heap.size := by simp; omega
  have hz1 : w.heap.size + 1 < ((w.alloc (.cells #[.int .i64 p, .int .i64 s, .int .i64 7, .int .i64 n, .slice a m c, .int .i64 t, .int .i64 wd, .int .i64 h, .int .i64 x, .int .i64 y] 28)).alloc (.cells #[.int .i64 p, .int .i64 s, .int .i64 7, .int .i64 0, .slice none 0 0, .int .i64 0, .int .i64 0, .int .i64 0, .int .i64 0, .int .i64 0] 28)).heap.size := by simp
  have CF := Hk.mk cf
  have XF := Hk.mk xf
  clear cf xf
  generalize ((w.alloc (.cells #[.int .i64 p, .int .i64 s, .int .i64 7, .int .i64 n, .slice a m c, .int .i64 t, .int .i64 wd, .int .i64 h, .int .i64 x, .int .i64 y] 28)).alloc (.cells #[.int .i64 p, .int .i64 s, .int .i64 7, .int .i64 0, .slice none 0 0, .int .i64 0, .int .i64 0, .int .i64 0, .int .i64 0, .int .i64 0] 28)) = W0 at *
  go_region
  have HC : Hk (Below w.heap.size w ((W0.setCell ⟨w.heap.size + 1, 3, none⟩ (.int .i64 n)).setCell ⟨w.heap.size + 1, 5, none⟩ (.int .i64 t)).drew) := ⟨Below.drew (((HW0.out.setCell (p := ⟨w.heap.size + 1, 3, none⟩) (by simp) _).setCell (p := ⟨w.heap.size + 1, 5, none⟩) (by simp) _))⟩
  have HCB : Hk (CmB ((W0.setCell ⟨w.heap.size + 1, 3, none⟩ (.int .i64 n)).setCell ⟨w.heap.size + 1, 5, none⟩ (.int .i64 t)).drew w.heap.size p s 7 n a m c t wd h x y) := ⟨⟨by go_simp, by go_simp, by go_simp, by go_simp, by go_simp, by go_simp, by go_simp, by go_simp, by go_simp, by go_simp, fun j => by have := CF.out j; go_simp⟩⟩
  have HXB : Hk (CmB ((W0.setCell ⟨w.heap.size + 1, 3, none⟩ (.int .i64 n)).setCell ⟨w.heap.size + 1, 5, none⟩ (.int .i64 t)).drew (w.heap.size + 1) p s 7 n none 0 0 t 0 0 0 0) := ⟨⟨by go_simp, by go_simp, by go_simp, by go_simp, by go_simp, by go_simp, by go_simp, by go_simp, by go_simp, by go_simp, fun j => by have := XF.out j; go_simp⟩⟩
  have hy : w.heap.size < ((W0.setCell ⟨w.heap.size + 1, 3, none⟩ (.int .i64 n)).setCell ⟨w.heap.size + 1, 5, none⟩ (.int .i64 t)).drew.heap.size := by simpa using hz
  have hy1 : w.heap.size + 1 < ((W0.setCell ⟨w.heap.size + 1, 3, none⟩ (.int .i64 n)).setCell ⟨w.heap.size + 1, 5, none⟩ (.int .i64 t)).drew.heap.size := by simpa using hz1
  clear c0 c1 c2 c3 c4 c5 c6 c7 c8 c9 x0 x1 x2 x3 x4 x5 x6 x7 x8 x9 f3 f5 CF XF hz hz1 HW0
  generalize ((W0.setCell ⟨w.heap.size + 1, 3, none⟩ (.int .i64 n)).setCell ⟨w.heap.size + 1, 5, none⟩ (.int .i64 t)).drew = W1 at *
  obtain ⟨c0, c1, c2, c3, c4, c5, c6, c7, c8, c9, -⟩ := HCB.out
  obtain ⟨x0, x1, x2, x3, x4, x5, x6, x7, x8, x9, -⟩ := HXB.out
  go_wp2_with (first | (go_at_call 67; (with_reducible refine (rid22_as true n _ F0).mono ?_); rintro e w' ⟨rfl, rfl⟩) | (go_at_call 66; (with_reducible refine (rtile22_as true t _ F1).mono ?_); rintro e w' ⟨rfl, rfl⟩) | (go_at_call 23; (with_reducible refine (eqc_as r p s 7 n none 0 0 [] t 0 0 0 0 p s 7 n a m c u t wd h x y _ (Nq.nil _ _ _) (by omega) (HNA.out _ HC.out) hm EE).mono ?_); rintro e w9 ⟨rfl, hb9⟩; have HC := Hk.mk (HC.out.trans (hb9.mono HC.out.size)); clear hb9))
  go_ret
  exact ⟨rfl, HC.out⟩
end Go.Proofs.Ytejilcnldllhpaa
/- Whether a command may be, by the reference: all kinds. -/
namespace Go.Proofs.Ytejilcnldllhpaa
open Go.RowKit
set_option linter.unusedVariables false
set_option maxRecDepth 100000 in
set_option maxHeartbeats 1600000 in
theorem rcmd_no (p s k n : Int) (a : Option Addr) (m c : Nat) (u : List Int) (t wd h x y : Int) (w : World) (hk : k < 1 ∨ 7 < k) :
    Calls Try.prog 18 #[.agg #[.int .i64 p, .int .i64 s, .int .i64 k, .int .i64 n, .slice a m c, .int .i64 t, .int .i64 wd, .int .i64 h, .int .i64 x, .int .i64 y]] w fun e w' => e = .returned (.bool false) ∧ Below w.heap.size w w' := by
  have HW0 : Hk (Below w.heap.size w ((w.alloc (.cells #[.int .i64 p, .int .i64 s, .int .i64 k, .int .i64 n, .slice a m c, .int .i64 t, .int .i64 wd, .int .i64 h, .int .i64 x, .int .i64 y] 28)).alloc (.cells #[.int .i64 p, .int .i64 s, .int .i64 k, .int .i64 0, .slice none 0 0, .int .i64 0, .int .i64 0, .int .i64 0, .int .i64 0, .int .i64 0] 28))) := ⟨((Below.refl _ _).alloc (Nat.le_refl _) _).alloc (by simp) _⟩
  have a1 : (k == 1) = false := by simp; omega
  have a2 : (k == 2) = false := by simp; omega
  have a3 : (k == 3) = false := by simp; omega
  have a4 : (k == 4) = false := by simp; omega
  have a5 : (k == 5) = false := by simp; omega
  have a6 : (k == 6) = false := by simp; omega
  have a7 : (k == 7) = false := by simp; omega
  clear hk
  by_cases g0 : ¬ (1 ≤ p)
  · have b0 : decide (1 ≤ p) = false := by simp; omega
    go_enter Try.func18, Try.ntmps18
    go_wp2
    go_ret
    exact ⟨rfl, HW0.out⟩
  have b0 : decide (1 ≤ p) = true := by simp; omega
  by_cases g1 : ¬ (p ≤ 8)
  · have b1 : decide (p ≤ 8) = false := by simp; omega
    go_enter Try.func18, Try.ntmps18
    go_wp2
    go_ret
    exact ⟨rfl, HW0.out⟩
  have b1 : decide (p ≤ 8) = true := by simp; omega
  obtain ⟨b, hb⟩ : ∃ b, decide (0 ≤ s ∧ s ≤ 1099511627776) = b := ⟨_, rfl⟩
  have E1 := Hk.mk hb
  clear hb
  cases b <;>
  · go_enter Try.func18, Try.ntmps18
    go_wp2_with (go_at_call 63; (with_reducible refine (rnum22_as _ s 1099511627776 _ E1).mono ?_); rintro e w' ⟨rfl, rfl⟩)
    go_ret
    exact ⟨rfl, HW0.out⟩
theorem rcmd_as (r : Bool) (p s k n : Int) (a : Option Addr) (m c : Nat) (u : List Int) (t wd h x y : Int) (w : World) (hN : Nq w w.heap.size a m u) (hm : m ≤ 1099511627776) (E : Hk (okC p s k ⟨n, u, t, wd, h, x, y⟩ = r)) :
    Calls Try.prog 18 #[.agg #[.int .i64 p, .int .i64 s, .int .i64 k, .int .i64 n, .slice a m c, .int .i64 t, .int .i64 wd, .int .i64 h, .int .i64 x, .int .i64 y]] w fun e w' => e = .returned (.bool r) ∧ Below w.heap.size w w' := by
  have E : Hk (refC p s k ⟨n, u, t, wd, h, x, y⟩ = r) := ⟨by rw [← refC_eq]; exact E.out⟩
  by_cases h1 : k = 1
  · subst h1; exact rcmd1 r p s n a m c u t wd h x y w hN hm E
  by_cases h2 : k = 2
  · subst h2; exact rcmd2 r p s n a m c u t wd h x y w hN hm E
  by_cases h3 : k = 3
  · subst h3; exact rcmd3 r p s n a m c u t wd h x y w hN hm E
  by_cases h4 : k = 4
  · subst h4; exact rcmd4 r p s n a m c u t wd h x y w hN hm E
  by_cases h5 : k = 5
  · subst h5; exact rcmd5 r p s n a m c u t wd h x y w hN hm E
  by_cases h6 : k = 6
  · subst h6; exact rcmd6 r p s n a m c u t wd h x y w hN hm E
  by_cases h7 : k = 7
  · subst h7; exact rcmd7 r p s n a m c u t wd h x y w hN hm E
  have hr : r = false := by rw [← E.out]; unfold refC; simp [h1, h2, h3, h4, h5, h6, h7]
  subst hr
  exact rcmd_no p s k n a m c u t wd h x y w (by omega)
end Go.Proofs.Ytejilcnldllhpaa
/- Layer 4: the bytes of numbers. -/
namespace Go.Proofs.Ytejilcnldllhpaa
open Go.RowKit
set_option linter.unusedVariables false
/-- What is appended to bytes of the call's own. -/
theorem OwnB.more {w w1 : World} {base n : Nat} {v v' : Value} {xs : List Int} {y : Int} (h : OwnB w base v n xs) (hy : Fn.Byt y) (h' : w1.ownsRow base 5 1 v' (n + 1) (xs.map (Value.int .u8) ++ [.int .u8 y])) : OwnB w1 base v' (n + 1) (xs ++ [y]) := by
  refine ⟨by simp [h.1], fun b hb => ?_, by simpa using h'⟩
  rcases List.mem_append.1 hb with h1 | h1
  · exact h.2.1 b h1
  · simp at h1; subst h1; exact hy
theorem OwnB.nil (w : World) (base : Nat) : OwnB w base (.slice none 0 0) 0 [] := ⟨rfl, by simp, World.ownsRow_nil _ _ _ _⟩
theorem one_at {w : World} {y : Int} {t : TypeId} : ∀ (j : Nat) (u : Value), [Value.int .u8 y][j]? = some u → (w.alloc (.cells #[.int .u8 y] t)).cell? ((⟨w.heap.size, 0, none⟩ : Addr).add j) = some u := by
  intro j u hj
  match j, hj with
  | 0, hj => simp at hj; subst hj; simp [Addr.add]
theorem one_one {y : Int} : ∀ u ∈ [Value.int .u8 y], u.oneCell' = true := by intro u hu; simp at hu; subst hu; rfl
/-- One byte appended: what the law leaves. -/
theorem OwnB.step {w w0 w1 : World} {q : Nat} {v v' : Value} {p : List Int} {y : Int} {t : TypeId} (h : OwnB w w0.heap.size v q p) (hb : Below w0.heap.size w0 w) (hy : Fn.Byt y)
    (h' : w1.ownsRow w0.heap.size 5 1 v' (q + 1) (p.map (Value.int .u8) ++ [.int .u8 y])) (hg : (w.alloc (.cells #[.int .u8 y] t)).grownBy w1 v.ownBlock) :
    OwnB w1 w0.heap.size v' (q + 1) (p ++ [y]) ∧ Below w0.heap.size w0 w1 :=
  ⟨h.more hy h', (hb.alloc hb.size _).grown hg (by have := hb.size; simp; omega) (fun g hg => (h.lt g hg).1)⟩
theorem Wr.or8 (m : Nat) : bits BinOp.or IntKind.u8 ((m : Int) % 128) 128 = ((m % 128 + 128 : Nat) : Int) := by
  rw [u8_or _ _ (by omega) (by omega) (by omega) (by omega)]
  have h := Nat.two_pow_add_eq_or_of_lt (i := 7) (b := m % 128) (by omega) 1
  have e : ((m : Int) % 128).toNat = m % 128 := by omega
  rw [e, show (128 : Int).toNat = 2 ^ 7 * 1 by decide, Nat.or_comm, ← h]; omega
set_option maxRecDepth 100000 in
theorem rnum_any (n : Nat) (w : World) (hn : n ≤ 9223372036854775807) :
    Calls Try.prog 70 #[.int .i64 n] w fun e w' => ∃ v, e = .returned v ∧ OwnB w' w.heap.size v (Wr.numL n).length (Wr.numL n) ∧ Below w.heap.size w w' := by
  obtain ⟨i0, hi, hz0, hz1, hz2⟩ := info_parts info_u8
  have HL := Hk.mk (Wr.numL_nine (n := n) (by omega))
  have HN := Hk.mk hn
  clear hn
  go_enter Try.func70, Try.ntmps70
  go_wp2
  go_loopw [0, 3] (fun x v wr => ∃ (m q : Nat) (p : List Int), x = .int .i64 m ∧ m ≤ n ∧ q ≤ 9 ∧ Hk (OwnB wr w.heap.size v q p) ∧ Hk (p ++ Wr.numL m = Wr.numL n) ∧ Hk (Below w.heap.size w wr)) (fun x _ _ => (intOf x).toNat)
  case atStart => exact ⟨n, 0, [], rfl, by omega, by omega, ⟨OwnB.nil _ _⟩, ⟨rfl⟩, ⟨Below.refl _ _⟩⟩
  case round =>
    obtain ⟨m, q, p, rfl, hm, hq, HO, HE, HB⟩ := hrel
    have hsz := HB.out.size
    have hown := HO.out.2.2
    by_cases hlt : m < 128
    · have i1 : decide ((128 : Int) ≤ (m : Int)) = false := by simp; omega
      have hy : Fn.Byt (m : Int) := by unfold Fn.Byt; omega
      go_wp2_with (at_builtin; refine wpList_append_own _ rfl _ _ 29 rfl w.heap.size 5 i0 (.int .u8 0) 1 1 Try.underlying29 hi hz0 hz1 hz2 rfl (by decide) _ _ _ rfl (hown.alloc _) ⟨wr.heap.size, 0, none⟩ 1 1 [.int .u8 (m : Int)] rfl rfl one_at one_one (by unfold maxLen; omega) (by omega) (by simp; omega) ?_; intro v' w1 hown' hgrow _)
      go_ret
      have hs := HO.out.step HB.out hy hown' hgrow
      refine ⟨_, rfl, ?_, hs.2⟩
      have e : p ++ [(m : Int)] = Wr.numL n := by have := HE.out; rwa [Wr.numL_low hlt] at this
      rw [← e, show (p ++ [(m : Int)]).length = q + 1 by simp [HO.out.1]]
      exact hs.1
    · have i1 : decide ((128 : Int) ≤ (m : Int)) = true := by simp; omega
      have hm3 : (m : Int) ≤ 9223372036854775807 := by have := HN.out; omega
      have hor := Wr.or8 m
      obtain ⟨y, hy⟩ : ∃ y : Int, ((m % 128 + 128 : Nat) : Int) = y := ⟨_, rfl⟩
      rw [hy] at hor
      have hyb : Fn.Byt y := by unfold Fn.Byt; omega
      have HY := Hk.mk hy
      have hq8 : q < 9 := by
        have h1 := congrArg List.length HE.out
        have h2 := Wr.numL_pos m
        have h3 := HL.out
        have h4 := HO.out.1
        simp at h1; omega
      clear hy
      go_wp2_with (at_builtin; refine wpList_append_own _ rfl _ _ 29 rfl w.heap.size 5 i0 (.int .u8 0) 1 1 Try.underlying29 hi hz0 hz1 hz2 rfl (by decide) _ _ _ rfl (hown.alloc _) ⟨wr.heap.size, 0, none⟩ 1 1 [.int .u8 y] rfl rfl one_at one_one (by unfold maxLen; omega) (by omega) (by simp; omega) ?_; intro v' w1 hown' hgrow _)
      go_roundw
      case rel =>
        have hs := HO.out.step HB.out hyb hown' hgrow
        exact ⟨m / 128, q + 1, p ++ [y], by go_num, by omega, by omega, ⟨hs.1⟩, ⟨by have := HE.out; rw [Wr.numL_high (by omega), HY.out] at this; simpa using this⟩, ⟨hs.2⟩⟩
      case measure => simp [intOf]; omega
theorem Wr.or8' (m : Nat) : bits BinOp.or IntKind.u8 ((m : Int) % 256) 128 = ((m % 128 + 128 : Nat) : Int) := by
  rw [u8_or _ _ (by omega) (by omega) (by omega) (by omega)]
  have e : ((m : Int) % 256).toNat = m % 256 := by omega
  rw [e, show (128 : Int).toNat = 128 by decide]
  have h1 : m % 256 = m % 256 / 128 * 128 + m % 128 := by omega
  have h2 : m % 256 / 128 = 0 ∨ m % 256 / 128 = 1 := by omega
  have h := Nat.two_pow_add_eq_or_of_lt (i := 7) (b := m % 128) (by omega) 1
  rw [show (2 ^ 7 * 1 : Nat) = 128 by decide] at h
  rcases h2 with h2 | h2
  · rw [h2] at h1
    rw [show m % 256 = m % 128 by omega, Nat.or_comm, ← h, Nat.add_comm]
  · rw [h2] at h1
    rw [show m % 256 = 128 + m % 128 by omega, h, Nat.or_comm, ← Nat.or_assoc, Nat.or_self, ← h, Nat.add_comm]
set_option maxRecDepth 100000 in
theorem num_any (n : Nat) (w : World) (hn : n ≤ 9223372036854775807) :
    Calls Try.prog 103 #[.int .i64 n] w fun e w' => ∃ v, e = .returned (.tuple #[v, .int .i64 0]) ∧ OwnB w' w.heap.size v (Wr.numL n).length (Wr.numL n) ∧ Below w.heap.size w w' := by
  obtain ⟨i0, hi, hz0, hz1, hz2⟩ := info_parts info_u8
  have HL := Hk.mk (Wr.numL_nine (n := n) (by omega))
  have HN := Hk.mk hn
  clear hn
  have HZ : decide ((n : Int) < 0) = false := by simp
  go_enter Try.func103, Try.ntmps103
  go_wp2
  go_loopw [0, 4] (fun x v wr => ∃ (m q : Nat) (p : List Int), x = .int .i64 m ∧ m ≤ n ∧ q ≤ 9 ∧ Hk (OwnB wr w.heap.size v q p) ∧ Hk (p ++ Wr.numL m = Wr.numL n) ∧ Hk (Below w.heap.size w wr)) (fun x _ _ => (intOf x).toNat)
  case atStart => exact ⟨n, 0, [], rfl, by omega, by omega, ⟨OwnB.nil _ _⟩, ⟨rfl⟩, ⟨Below.refl _ _⟩⟩
  case round =>
    obtain ⟨m, q, p, rfl, hm, hq, HO, HE, HB⟩ := hrel
    have hsz := HB.out.size
    have hown := HO.out.2.2
    by_cases hlt : m < 128
    · have i1 : decide ((128 : Int) ≤ (m : Int)) = false := by simp; omega
      have hy : Fn.Byt (m : Int) := by unfold Fn.Byt; omega
      go_wp2_with (at_builtin; refine wpList_append_own _ rfl _ _ 29 rfl w.heap.size 5 i0 (.int .u8 0) 1 1 Try.underlying29 hi hz0 hz1 hz2 rfl (by decide) _ _ _ rfl (hown.alloc _) ⟨wr.heap.size, 0, none⟩ 1 1 [.int .u8 (m : Int)] rfl rfl one_at one_one (by unfold maxLen; omega) (by omega) (by simp; omega) ?_; intro v' w1 hown' hgrow _)
      go_ret2
      have hs := HO.out.step HB.out hy hown' hgrow
      refine ⟨_, rfl, ?_, hs.2⟩
      have e : p ++ [(m : Int)] = Wr.numL n := by have := HE.out; rwa [Wr.numL_low hlt] at this
      rw [← e, show (p ++ [(m : Int)]).length = q + 1 by simp [HO.out.1]]
      exact hs.1
    · have i1 : decide ((128 : Int) ≤ (m : Int)) = true := by simp; omega
      have hm3 : (m : Int) ≤ 9223372036854775807 := by have := HN.out; omega
      have hor := Wr.or8' m
      obtain ⟨y, hy⟩ : ∃ y : Int, ((m % 128 + 128 : Nat) : Int) = y := ⟨_, rfl⟩
      rw [hy] at hor
      have hyb : Fn.Byt y := by unfold Fn.Byt; omega
      have HY := Hk.mk hy
      have hq8 : q < 9 := by
        have h1 := congrArg List.length HE.out
        have h2 := Wr.numL_pos m
        have h3 := HL.out
        have h4 := HO.out.1
        simp at h1; omega
      clear hy
      go_wp2_with (at_builtin; refine wpList_append_own _ rfl _ _ 29 rfl w.heap.size 5 i0 (.int .u8 0) 1 1 Try.underlying29 hi hz0 hz1 hz2 rfl (by decide) _ _ _ rfl (hown.alloc _) ⟨wr.heap.size, 0, none⟩ 1 1 [.int .u8 y] rfl rfl one_at one_one (by unfold maxLen; omega) (by omega) (by simp; omega) ?_; intro v' w1 hown' hgrow _)
      go_roundw
      case rel =>
        have hs := HO.out.step HB.out hyb hown' hgrow
        exact ⟨m / 128, q + 1, p ++ [y], by go_num, by omega, by omega, ⟨hs.1⟩, ⟨by have := HE.out; rw [Wr.numL_high (by omega), HY.out] at this; simpa using this⟩, ⟨hs.2⟩⟩
      case measure => simp [intOf]; omega
theorem num_neg (n : Int) (w : World) (hn : n < 0) : Calls Try.prog 103 #[.int .i64 n] w fun e w' => e = .returned (.tuple #[.slice none 0 0, .int .i64 1]) ∧ w = w' := by
  go_enter Try.func103, Try.ntmps103
  go_wp2
  go_ret2
  exact ⟨rfl, rfl⟩
end Go.Proofs.Ytejilcnldllhpaa
/- Layer 4: numbers read. -/
namespace Go.Proofs.Ytejilcnldllhpaa
open Go.RowKit
set_option linter.unusedVariables false
set_option maxRecDepth 100000 in
theorem getnum_any (a : Option Addr) (n c : Nat) (xs : List Int) (w : World) (h : By w w.heap.size a n xs) (hn : n ≤ 1099511627776) :
    Calls Try.prog 109 #[.slice a n c] w fun e w' => e = .returned (.tuple #[.int .i64 (Wr.getS xs).1, .int .i64 (Wr.getS xs).2.1, .int .i64 (Wr.getS xs).2.2]) ∧ w = w' := by
  have H := Hk.mk h
  clear h
  obtain ⟨R, hR⟩ : ∃ R, Wr.getS xs = R := ⟨_, rfl⟩
  rw [hR]
  have HR := Hk.mk hR
  clear hR
  go_enter Try.func109, Try.ntmps109
  go_wp2
  go_loop [2, 9] (fun v i => ∃ (k : Nat) (acc : Int), k ≤ n ∧ k ≤ 9 ∧ i = .int .i64 k ∧ v = .int .i64 acc ∧ Hk (Wr.GetAt xs k acc)) (fun _ i => n - (intOf i).toNat)
  case atStart => exact ⟨0, 0, Nat.zero_le _, Nat.zero_le _, rfl, rfl, ⟨Wr.getAt_start xs⟩⟩
  case round =>
    obtain ⟨k, acc, hk, hk9, rfl, rfl, HG⟩ := hrel
    by_cases h1 : k < n
    · obtain ⟨b, off, rfl, hbl, hc⟩ := H.out.at_ (by omega)
      have hcx := hc k h1
      have hb := H.out.bd h1
      obtain ⟨x, hx⟩ : ∃ x, xs.getD k 0 = x := ⟨_, rfl⟩
      have HX := Hk.mk hx
      rw [hx] at hcx hb
      obtain ⟨hx0, hx1⟩ := hb
      clear hc hx
      have hl := H.out.len
      have HL := Hk.mk hl
      clear hl
      by_cases h2 : k < 9
      · have k9 : ((k : Int) == 9) = false := by simp; omega
        have k91 : (k : Int) < 9 := by omega
        have hor := Wr.getAt_or HG.out h2
        rw [HX.out] at hor
        obtain ⟨D, hD⟩ : ∃ D, x % 128 = D := ⟨_, rfl⟩
        have hand : bits BinOp.and IntKind.u8 x 127 = D := by
          rw [u8_and x 127 (by omega) (by omega) (by omega) (by omega), show (127 : Int).toNat = 127 by decide, nat_mask7]; omega
        rw [hD] at hor
        obtain ⟨P, hP⟩ : ∃ P, D * 2 ^ (7 * k) = P := ⟨_, rfl⟩
        rw [hP] at hor
        obtain ⟨ho, hP0, hA1, hP1, hA0⟩ := hor
        obtain ⟨A2, hA2⟩ : ∃ A2, acc + P = A2 := ⟨_, rfl⟩
        rw [hA2] at ho hA1 hA0
        have hD0 : 0 ≤ D := by omega
        have hD1 : D ≤ 127 := by omega
        have HA := Hk.mk (show acc + xs.getD k 0 % 128 * 2 ^ (7 * k) = A2 by rw [HX.out, hD, hP, hA2])
        by_cases h3 : 128 ≤ x
        · have g1 : decide (x < 128) = false := by simp; omega
          have g2 : decide (128 ≤ x) = true := by simp; omega
          clear hA2 hD
          go_wp2
          go_round
          case rel => exact ⟨k + 1, A2, by omega, by omega, by go_num, rfl, ⟨by rw [← HA.out]; exact Wr.getAt_next HG.out h2 (by rw [HL.out]; exact h1) (by rw [HX.out]; exact h3)⟩⟩
          case measure => simp [intOf]; omega
        · have g1 : decide (x < 128) = true := by simp; omega
          have g2 : decide (128 ≤ x) = false := by simp; omega
          by_cases h4 : x = 0 ∧ 0 < k
          · have HS := Wr.getAt_form HG.out h2 (by rw [HL.out]; exact h1) (by rw [HX.out]; exact h4.1) h4.2
            rw [HR.out] at HS
            replace HS := Hk.mk HS
            obtain ⟨h41, h42⟩ := h4
            subst h41
            have g4 : decide ((0 : Int) < (k : Int)) = true := by simp; omega
            clear hA2 hD HR
            go_wp2
            all_goals (go_ret3; exact ⟨by rw [HS.out]; rfl, rfl⟩)
          · have HS := Wr.getAt_done HG.out h2 (by rw [HL.out]; exact h1) (by rw [HX.out]; omega) (by rw [HX.out]; exact h4)
            rw [HR.out, HA.out] at HS
            replace HS := Hk.mk HS
            have j1 : (k : Int) + 1 ≤ 9 := by omega
            clear hA2 hD HR
            by_cases h5 : x = 0
            · have g5 : (x == 0) = true := by simpa using h5
              have g6 : decide (0 < k) = false := by simp; omega
              clear h4 h5
              go_wp2
              all_goals (go_ret3; exact ⟨by rw [HS.out]; rfl, rfl⟩)
            · have g5 : (x == 0) = false := by simpa using h5
              clear h4
              go_wp2
              all_goals (go_ret3; exact ⟨by rw [HS.out]; rfl, rfl⟩)
      · obtain rfl : k = 9 := by omega
        have HS := Wr.getAt_end HG.out (.inl rfl)
        rw [if_pos (by rw [HL.out]; omega), HR.out] at HS
        replace HS := Hk.mk HS
        have g3 : decide ((9 : Int) ≤ (n : Int)) = true := by simp; omega
        clear HR
        go_wp2
        all_goals (go_ret3; exact ⟨by rw [HS.out]; rfl, rfl⟩)
    · obtain rfl : k = n := by omega
      have HS := Wr.getAt_end HG.out (.inr H.out.len.symm)
      rw [H.out.len, HR.out] at HS
      replace HS := Hk.mk HS
      clear HR
      by_cases h9 : 9 ≤ k
      · obtain rfl : k = 9 := by omega
        go_wp2
        all_goals (go_ret3; exact ⟨by rw [HS.out]; rfl, rfl⟩)
      · have g3 : decide ((9 : Int) ≤ (k : Int)) = false := by simp; omega
        replace HS := Hk.mk (HS.out.trans (by rw [if_neg h9]))
        go_wp2
        all_goals (go_ret3; exact ⟨by rw [HS.out]; rfl, rfl⟩)
end Go.Proofs.Ytejilcnldllhpaa
/- Layer 4: numbers that may be below 0. -/
namespace Go.Proofs.Ytejilcnldllhpaa
open Go.RowKit
set_option linter.unusedVariables false
theorem num_at (x : Int) (z : Nat) (w : World) (hx : Hk (x = z)) (hz : Hk (z ≤ 9223372036854775807)) :
    Calls Try.prog 103 #[.int .i64 x] w fun e w' => ∃ v, e = .returned (.tuple #[v, .int .i64 0]) ∧ OwnB w' w.heap.size v (Wr.numL z).length (Wr.numL z) ∧ Below w.heap.size w w' := by
  rw [hx.out]; exact num_any z w hz.out
theorem rnum_at (x : Int) (z : Nat) (w : World) (hx : Hk (x = z)) (hz : Hk (z ≤ 9223372036854775807)) :
    Calls Try.prog 70 #[.int .i64 x] w fun e w' => ∃ v, e = .returned v ∧ OwnB w' w.heap.size v (Wr.numL z).length (Wr.numL z) ∧ Below w.heap.size w w' := by
  rw [hx.out]; exact rnum_any z w hz.out
def I62 (n : Int) : Prop := -4611686018427387904 ≤ n ∧ n < 4611686018427387904
theorem zig_bd {n : Int} (h : I62 n) : Wr.zig n ≤ 9223372036854775807 := by unfold I62 at h; unfold Wr.zig; split <;> omega
set_option maxRecDepth 100000 in
theorem int_any (n : Int) (w : World) (hn : I62 n) :
    Calls Try.prog 131 #[.int .i64 n] w fun e w' => ∃ v, e = .returned (.tuple #[v, .int .i64 0]) ∧ OwnB w' w.heap.size v (Wr.numL (Wr.zig n)).length (Wr.numL (Wr.zig n)) ∧ Below w.heap.size w w' := by
  have HZ := Hk.mk (zig_bd hn)
  unfold I62 at hn
  obtain ⟨h1, h2⟩ := hn
  have g1 : decide (n < -4611686018427387904) = false := by simp; omega
  have g2 : decide (4611686018427387904 ≤ n) = false := by simp; omega
  by_cases h0 : n < 0
  · have HE : Hk (-2 * (n + 1) + 1 = (Wr.zig n : Int)) := ⟨by unfold Wr.zig; rw [if_pos h0]; omega⟩
    go_enter Try.func131, Try.ntmps131
    go_wp2_with (go_at_call 103; (with_reducible refine (num_at _ (Wr.zig n) _ HE HZ).mono ?_); rintro e w' ⟨v, rfl, ho, hb⟩)
    go_ret2
    exact ⟨v, rfl, ho, hb⟩
  · have HE : Hk (2 * n = (Wr.zig n : Int)) := ⟨by unfold Wr.zig; rw [if_neg h0]; omega⟩
    go_enter Try.func131, Try.ntmps131
    go_wp2_with (go_at_call 103; (with_reducible refine (num_at _ (Wr.zig n) _ HE HZ).mono ?_); rintro e w' ⟨v, rfl, ho, hb⟩)
    go_ret2
    exact ⟨v, rfl, ho, hb⟩
set_option maxRecDepth 100000 in
theorem rint_any (n : Int) (w : World) (hn : I62 n) :
    Calls Try.prog 71 #[.int .i64 n] w fun e w' => ∃ v, e = .returned v ∧ OwnB w' w.heap.size v (Wr.numL (Wr.zig n)).length (Wr.numL (Wr.zig n)) ∧ Below w.heap.size w w' := by
  have HZ := Hk.mk (zig_bd hn)
  unfold I62 at hn
  obtain ⟨h1, h2⟩ := hn
  by_cases h0 : n < 0
  · have HE : Hk (-2 * n - 1 = (Wr.zig n : Int)) := ⟨by unfold Wr.zig; rw [if_pos h0]; omega⟩
    go_enter Try.func71, Try.ntmps71
    go_wp2_with (go_at_call 70; (with_reducible refine (rnum_at _ (Wr.zig n) _ ?_ HZ).mono ?_); exact ⟨by have := HE.out; unfold wrap64; omega⟩; rintro e w' ⟨v, rfl, ho, hb⟩)
    go_ret
    exact ⟨v, rfl, ho, hb⟩
  · have HE : Hk (2 * n = (Wr.zig n : Int)) := ⟨by unfold Wr.zig; rw [if_neg h0]; omega⟩
    go_enter Try.func71, Try.ntmps71
    go_wp2_with (go_at_call 70; (with_reducible refine (rnum_at _ (Wr.zig n) _ HE HZ).mono ?_); rintro e w' ⟨v, rfl, ho, hb⟩)
    go_ret
    exact ⟨v, rfl, ho, hb⟩
set_option maxRecDepth 100000 in
theorem int_no (n : Int) (w : World) (hn : ¬ I62 n) :
    Calls Try.prog 131 #[.int .i64 n] w fun e w' => e = .returned (.tuple #[.slice none 0 0, .int .i64 2]) ∧ w = w' := by
  unfold I62 at hn
  by_cases h1 : n < -4611686018427387904
  · go_enter Try.func131, Try.ntmps131
    go_wp2
    go_ret2
    exact ⟨rfl, rfl⟩
  · have h2 : 4611686018427387904 ≤ n := by omega
    have g1 : decide (n < -4611686018427387904) = false := by simp; omega
    go_enter Try.func131, Try.ntmps131
    go_wp2
    go_ret2
    exact ⟨rfl, rfl⟩
set_option maxRecDepth 100000 in
theorem getint_any (a : Option Addr) (n c : Nat) (xs : List Int) (w : World) (h : By w w.heap.size a n xs) (hn : n ≤ 1099511627776) :
    Calls Try.prog 133 #[.slice a n c] w fun e w' => e = .returned (.tuple #[.int .i64 (Wr.unzig (Wr.getS xs).1), .int .i64 (Wr.getS xs).2.1, .int .i64 (Wr.getS xs).2.2]) ∧ w = w' := by
  have hb := Wr.getS_bd h.byt
  have HG := Hk.mk (getnum_any a n c xs w h hn)
  obtain ⟨R, hR⟩ : ∃ R, Wr.getS xs = R := ⟨_, rfl⟩
  rw [hR] at hb HG ⊢
  obtain ⟨N, K, E⟩ := R
  unfold Wr.GetOk at hb
  obtain ⟨h1, h2, h3, h4, h5, h6⟩ := hb
  simp only at h1 h2 HG ⊢
  clear h3 h4 h5 h6 h hR
  by_cases hp : N % 2 = 1
  · have HU : Hk (-(N / 2) - 1 = Wr.unzig N) := ⟨by unfold Wr.unzig; rw [if_pos hp]⟩
    have g1 : (N % 2 == 1) = true := by simpa using hp
    clear hp
    go_enter Try.func133, Try.ntmps133
    go_wp2_with (go_at_call 109; refine HG.out.mono ?_; rintro e w' ⟨rfl, rfl⟩)
    go_ret3
    exact ⟨by rw [← HU.out]; rfl, rfl⟩
  · have HU : Hk (N / 2 = Wr.unzig N) := ⟨by unfold Wr.unzig; rw [if_neg hp]⟩
    have g1 : (N % 2 == 1) = false := by simpa using hp
    clear hp
    go_enter Try.func133, Try.ntmps133
    go_wp2_with (go_at_call 109; refine HG.out.mono ?_; rintro e w' ⟨rfl, rfl⟩)
    go_ret3
    exact ⟨by rw [← HU.out]; rfl, rfl⟩
end Go.Proofs.Ytejilcnldllhpaa
/- Bytes appended to bytes of the call's own. -/
namespace Go.Proofs.Ytejilcnldllhpaa
open Go.RowKit
set_option linter.unusedVariables false
/-- 'append(v, x...)': v the call's own, x whatever reads as bytes. -/
theorem wpList_append_by (w : World) {ops : Array Oper} {rest : List Oper} {o : Oper} {a : Act} {Q : Exit → Act → World → Prop} (hgd : o.guard = none) (s x : Operand)
    (ho : o.op = .call { callee := .builtin .append, args := #[s, x], argTypes := #[29, 29] })
    (base : Nat) (v : Value) (n : Nat) (xs : List Int) (hs : a.eval s = v) (hown : OwnB w base v n xs)
    (B : Nat) (A : Option Addr) (m c : Nat) (ys : List Int) (hx : a.eval x = .slice A m c) (hby : By w B A m ys) (hc : A = none → c = 0) (hlen : n + m ≤ 1099511627776) (hbase : base ≤ w.heap.size)
    (h : ∀ v' w', OwnB w' base v' (n + m) (xs ++ ys) → w.grownBy w' v.ownBlock → wpList Try.prog ops Q rest (a.put o.dst v') w') : wpList Try.prog ops Q (o :: rest) a w := by
  obtain ⟨i0, hi, hz0, hz1, hz2⟩ := info_parts info_u8
  have hmem : ∀ b ∈ xs ++ ys, Fn.Byt b := fun b hb => by
    rcases List.mem_append.1 hb with h1 | h1
    · exact hown.2.1 b h1
    · exact hby.byt b h1
  cases A with
  | none =>
    obtain rfl : m = 0 := by
      rcases Nat.eq_zero_or_pos m with h0 | h0
      · exact h0
      · obtain ⟨_, _, e, _⟩ := hby.at_ h0; cases e
    obtain rfl : c = 0 := hc rfl
    obtain rfl : ys = [] := List.eq_nil_of_length_eq_zero hby.len
    exact wpList_append_own_none hgd s x _ ho base 5 i0 1 Try.underlying29 hi v n _ hs hown.2.2 hx (h v w (by simpa using hown) (World.grownBy.refl _ _))
  | some ad =>
    refine wpList_append_own w hgd s x _ ho base 5 i0 (.int .u8 0) 1 1 Try.underlying29 hi hz0 hz1 hz2 rfl (by decide) v n (xs.map (Value.int .u8)) hs hown.2.2 ad m c (ys.map (Value.int .u8)) hx (by simp [hby.len]) ?_ ?_ (by unfold maxLen; omega) (by omega) hbase ?_
    · intro j u hj
      have hl := hby.len
      have hjl : j < ys.length := by
        rcases Nat.lt_or_ge j ys.length with h0 | h0
        · exact h0
        · rw [List.getElem?_eq_none (by simpa using h0)] at hj; cases hj
      obtain ⟨b, off, e, _, hcell⟩ := hby.at_ (by omega)
      obtain rfl : ad = ⟨b, off, none⟩ := by injection e
      have h1 := hcell j (by omega)
      have h2 : (⟨b, off, none⟩ : Addr).add j = ⟨b, off + j, none⟩ := by unfold Addr.add; split <;> simp_all
      rw [h2, h1, ← hj]
      simp [List.getD, List.getElem?_eq_getElem hjl]
    · intro u hu
      obtain ⟨z, _, rfl⟩ := List.mem_map.1 hu
      rfl
    · intro v' w' h2 h3 _
      exact h v' w' ⟨by simp [hown.1, hby.len], hmem, by simpa using h2⟩ h3
theorem OwnB.next {w w0 w1 : World} {q : Nat} {v : Value} {p : List Int} (h : OwnB w w0.heap.size v q p) (hb : Below w0.heap.size w0 w) (hg : w.grownBy w1 v.ownBlock) : Below w0.heap.size w0 w1 :=
  hb.grown hg hb.size (fun g hg => (h.lt g hg).1)
end Go.Proofs.Ytejilcnldllhpaa
