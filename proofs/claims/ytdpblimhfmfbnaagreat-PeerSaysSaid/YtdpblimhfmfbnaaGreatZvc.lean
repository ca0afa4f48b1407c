import Derived.Deep.QuietTactic
import Derived.BigQuiet
import Derived.Deep.RegionWith
import Derived.Deep.RegionHeld3
import Derived.Deep.DeepCutAuto
import Derived.Deep.DeepFit
import Derived.Outline
import Derived.Test.YtdpblimhfmfbnaaGreatZvb
import Derived.RegionTactic
import Derived.ChangeAlike
import Derived.BigRegion
set_option linter.unusedVariables false
set_option linter.unusedSimpArgs false
namespace Go.Proofs.YtdpblimhfmfbnaaGreat
open Go.ChangeShapes Go.WideShapes Go.ChangeAt Go.RowKit Go.Deep
structure Sh (α : Type) where
 c : α → List Value
 z : Nat
 len : ∀ x, (c x).length = z
 one : ∀ x, ∀ u ∈ c x, u.oneCell' = true
section
variable {α : Type} (S : Sh α)
def flt (l : List α) : List Value := l.flatMap S.c
theorem flt_nil : flt S [] = [] := rfl
theorem flt_cons (x : α) (l : List α) : flt S (x :: l) = S.c x ++ flt S l := rfl
theorem flt_app (l m : List α) : flt S (l ++ m) = flt S l ++ flt S m := List.flatMap_append
theorem flt_one1 (x : α) : flt S [x] = S.c x := by rw [flt_cons, flt_nil, List.append_nil]
theorem flt_len (l : List α) : (flt S l).length = l.length * S.z := by
 induction l with
 | nil => show 0 = 0 * S.z; omega
 | cons a l ih => rw [flt_cons, List.length_append, ih, S.len, List.length_cons, Nat.add_mul]; omega
theorem flt_one (l : List α) : ∀ u ∈ flt S l, u.oneCell' = true := fun u hu => by
 obtain ⟨p, _, h⟩ := List.mem_flatMap.1 hu
 exact S.one p u h
theorem flt_at (l : List α) (k j : Nat) (h : k < l.length) (hj : j < S.z) : (flt S l)[k * S.z + j]? = (S.c l[k])[j]? := by
 induction l generalizing k with
 | nil => exact absurd h (by simp)
 | cons a l ih =>
  rw [flt_cons]
  cases k with
  | zero => rw [Nat.zero_mul, Nat.zero_add, List.getElem?_append_left (by rw [S.len]; exact hj)]; rfl
  | succ k =>
   have e : (k + 1) * S.z + j = S.z + (k * S.z + j) := by rw [Nat.add_mul]; omega
   rw [e, List.getElem?_append_right (by rw [S.len]; omega), S.len, Nat.add_sub_cancel_left, ih k (by simpa using h)]
   rfl
theorem flt_take (l : List α) (k : Nat) : flt S (l.take k) = (flt S l).take (k * S.z) := by
 induction l generalizing k with
 | nil => rw [List.take_nil, flt_nil, List.take_nil]
 | cons a l ih =>
  cases k with
  | zero => rw [List.take_zero, Nat.zero_mul, List.take_zero]; rfl
  | succ k =>
   rw [List.take_succ_cons, flt_cons, flt_cons, ih, Nat.add_mul, Nat.one_mul, List.take_append, S.len, Nat.add_sub_cancel, List.take_of_length_le (i := k * S.z + S.z) (by rw [S.len]; omega)]
structure Qv (w : World) (B : Nat) (a : Option Addr) (n : Nat) (l : List α) : Prop where
 len : l.length = n
 rd : 0 < n → ∃ b off, a = some ⟨b, off, none⟩ ∧ b < B ∧ ∀ k (h : k < l.length) j, j < S.z → w.cell? ⟨b, off + k * S.z + j, none⟩ = (S.c l[k])[j]?
end
section
variable {α : Type} {S : Sh α}
theorem Qv.below {w w' : World} {B B' n : Nat} {a : Option Addr} {l : List α} (h : Qv S w B a n l) (hb : Below B' w w') (hB : B ≤ B') : Qv S w' B a n l := ⟨h.len, fun hn => by
 obtain ⟨b, off, e, hlt, hc⟩ := h.rd hn
 exact ⟨b, off, e, hlt, fun k hk j hj => (hb.cell (p := ⟨b, off + k * S.z + j, none⟩) (Nat.lt_of_lt_of_le hlt hB)).trans (hc k hk j hj)⟩⟩
theorem Qv.mono {w : World} {B B' n : Nat} {a : Option Addr} {l : List α} (h : Qv S w B a n l) (hB : B ≤ B') : Qv S w B' a n l := ⟨h.len, fun hn => by
 obtain ⟨b, off, e, hlt, hc⟩ := h.rd hn
 exact ⟨b, off, e, by omega, hc⟩⟩
theorem Qv.drewN {w : World} {B n : Nat} {a : Option Addr} {l : List α} (h : Qv S w B a n l) (m : Nat) : Qv S (w.drewN m) B a n l := ⟨h.len, h.rd⟩
theorem Qv.nil (w : World) (B : Nat) (a : Option Addr) : Qv S w B a 0 [] := ⟨rfl, fun h => absurd h (by omega)⟩
theorem Qv.head {w : World} {B n : Nat} {a : Option Addr} {l : List α} (h : Qv S w B a n l) {k : Nat} (hk : k ≤ n) : Qv S w B a k (l.take k) := by
 have hl := h.len
 refine ⟨by rw [List.length_take]; omega, fun hn => ?_⟩
 obtain ⟨b, off, e, hlt, hc⟩ := h.rd (by omega)
 refine ⟨b, off, e, hlt, fun i hi j hj => ?_⟩
 have hi2 : i < l.length := by rw [List.length_take] at hi; omega
 rw [hc i hi2 j hj]
 congr 2
 exact (List.getElem_take ..).symm
theorem Qv.tail {w : World} {B n : Nat} {b off : Nat} {l : List α} (h : Qv S w B (some ⟨b, off, none⟩) n l) {k : Nat} (hk : k ≤ n) : Qv S w B (some ⟨b, off + k * S.z, none⟩) (n - k) (l.drop k) := by
 have hl := h.len
 refine ⟨by rw [List.length_drop]; omega, fun hn => ?_⟩
 obtain ⟨b', off', e, hlt, hc⟩ := h.rd (by omega)
 injection e with e
 injection e with e1 e2
 subst e1 e2
 refine ⟨_, _, rfl, hlt, fun i hi j hj => ?_⟩
 have hi2 : k + i < l.length := by rw [List.length_drop] at hi; omega
 have := hc (k + i) hi2 j hj
 rw [show off + (k + i) * S.z + j = off + k * S.z + i * S.z + j by rw [Nat.add_mul]; omega] at this
 rw [this]
 congr 2
 exact (List.getElem_drop ..).symm
theorem Qv.news {w : World} {B n : Nat} {ad : Addr} {l : List α} (hz : 0 < S.z) (h : Qv S w B (some ad) n l) : ∀ j u, (flt S l)[j]? = some u → w.cell? (ad.add j) = some u := by
 intro j u hj
 have hjl : j < l.length * S.z := by
  rcases Nat.lt_or_ge j (l.length * S.z) with h0 | h0
  ·exact h0
  ·rw [List.getElem?_eq_none (by rw [flt_len]; exact h0)] at hj; cases hj
 have hk : j / S.z < l.length := Nat.div_lt_of_lt_mul (by rw [Nat.mul_comm]; exact hjl)
 have hm : j % S.z < S.z := Nat.mod_lt _ hz
 have e0 : j / S.z * S.z + j % S.z = j := by rw [Nat.mul_comm]; exact Nat.div_add_mod j S.z
 obtain ⟨b, off, e, _, hc⟩ := h.rd (Nat.lt_of_le_of_lt (Nat.zero_le _) (h.len ▸ hk))
 obtain rfl : ad = ⟨b, off, none⟩ := by injection e
 have h1 := hc (j / S.z) hk (j % S.z) hm
 have h2 := flt_at S l (j / S.z) (j % S.z) hk hm
 rw [e0, hj] at h2
 rw [Nat.add_assoc, e0] at h1
 have h3 : (⟨b, off, none⟩ : Addr).add j = ⟨b, off + j, none⟩ := by unfold Addr.add; split <;> simp_all
 rw [h3, h1, h2]
structure Ow (S : Sh α) (T : TypeId) (w : World) (base : Nat) (v : Value) (n : Nat) (l : List α) : Prop where
 len : l.length = n
 row : w.ownsRow base T S.z v n (flt S l)
variable {T : TypeId}
theorem Ow.lt {w : World} {base n : Nat} {v : Value} {l : List α} (h : Ow S T w base v n l) : ∀ k, v.ownBlock = some k → base ≤ k ∧ k < w.heap.size := h.row.lt
theorem Ow.nil (w : World) (base : Nat) : Ow S T w base (.slice none 0 0) 0 [] := ⟨rfl, World.ownsRow_nil _ _ _ _⟩
theorem Ow.fr {M : Nat → Prop} {w w' : World} {base n : Nat} {v : Value} {l : List α} (h : Ow S T w base v n l) (k : Fr M w w') (hm : ∀ j, v.ownBlock = some j → ¬ M j) : Ow S T w' base v n l := ⟨h.len, k.row h.row hm⟩
theorem Ow.below {w w' : World} {base n : Nat} {v : Value} {l : List α} (h : Ow S T w base v n l) (hb : Below w.heap.size w w') : Ow S T w' base v n l := h.fr (Fr.of_below hb) fun j hj hm => by have := (h.lt j hj).2; omega
theorem Ow.drewN {w : World} {base n : Nat} {v : Value} {l : List α} (h : Ow S T w base v n l) (m : Nat) : Ow S T (w.drewN m) base v n l := ⟨h.len, h.row⟩
theorem Ow.alloc {w : World} {base n : Nat} {v : Value} {l : List α} (h : Ow S T w base v n l) (o : Obj) : Ow S T (w.alloc o) base v n l := h.below ((Below.refl _ _).alloc (Nat.le_refl _) o)
theorem Ow.weak {w : World} {base base' n : Nat} {v : Value} {l : List α} (h : Ow S T w base v n l) (hb : base' ≤ base) : Ow S T w base' v n l := by
 refine ⟨h.len, h.row.1, ?_⟩
 rcases h.row.2 with e | ⟨g, cap, cur, e1, hg, e2⟩
 ·exact .inl e
 ·exact .inr ⟨g, cap, cur, e1, by omega, e2⟩
theorem Ow.form {w : World} {base n : Nat} {v : Value} {l : List α} (h : Ow S T w base v n l) : ∃ a c, v = .slice a n c ∧ (0 < n → ∃ g, a = some ⟨g, 0, none⟩ ∧ base ≤ g ∧ g < w.heap.size) := by
 rcases h.row.2 with ⟨e, e2⟩ | ⟨g, cap, cur, e, hg, hh, _⟩
 ·subst e2; exact ⟨none, 0, e, fun h => absurd h (by omega)⟩
 ·exact ⟨_, _, e, fun _ => ⟨g, rfl, hg, lt_of_block hh⟩⟩
theorem Ow.qv {w : World} {base n c : Nat} {a : Option Addr} {l : List α} (h : Ow S T w base (.slice a n c) n l) : Qv S w w.heap.size a n l := by
 refine ⟨h.len, fun hn => ?_⟩
 obtain ⟨a', c', e, hf⟩ := h.form
 injection e with e1 e2 e3
 subst e1
 obtain ⟨g, rfl, hg, hlt⟩ := hf hn
 refine ⟨g, 0, rfl, hlt, fun k hk j hj => ?_⟩
 have hl := h.len
 have hx : k * S.z + j < n * S.z := by
  have := Nat.mul_le_mul_right S.z (show k + 1 ≤ n by omega)
  rw [Nat.add_mul] at this; omega
 have := h.row.cellAt (k * S.z + j) hx
 rw [Nat.zero_add, this, flt_at S l k j hk hj]
end
end Go.Proofs.YtdpblimhfmfbnaaGreat
namespace Go.Proofs.YtdpblimhfmfbnaaGreat
open Go.RowKit
set_option maxRecDepth 100000 in
set_option maxHeartbeats 3200000 in
theorem rcmd1 (r : Bool) (p s n : Int) (a : Option Addr) (m c : Nat) (u : List Int) (t wd h x y : Int) (w : World) (hN : Nq w w.heap.size a m u) (hm : m ≤ 1099511627776) (E : Hk (refC p s 1 ⟨n, u, t, wd, h, x, y⟩ = r)) :
  Calls Tryz.prog 95 #[.agg (jkC p s 1 n a m c t wd h x y)] w fun e w' => e = .returned (.bool r) ∧ Below w.heap.size w w' := by
 have HNA : Hk (∀ X, Below w.heap.size w X → Nq X X.heap.size a m u) := ⟨fun X hX => (hN.below hX (Nat.le_refl _)).mono hX.size⟩
 clear hN
 have HW0 : Hk (Below w.heap.size w ((w.alloc (.cells (jkC p s 1 n a m c t wd h x y) 95)).alloc (.cells (jkC p s 1 0 none 0 0 0 0 0 0 0) 95))) := ⟨((Below.refl _ _).alloc (Nat.le_refl _) _).alloc (by simp) _⟩
 by_cases g0 : ¬ (1 ≤ p)
 ·have b0 : decide (1 ≤ p) = false := by simp; omega
  have R : Hk (false = r) := ⟨by rw [← E.out]; unfold refC baseB; simp; intros; omega⟩
  clear E
  go_enter Tryz.func95, Tryz.ntmps95
  go_wp2
  obtain ⟨c0, c1, c2, c3, c4, c5, c6, c7, c8, c9, cf⟩ := (CmB.box w p s 1 n a m c t wd h x y).below ((Below.refl _ _).alloc (Nat.le_refl _) (.cells (jkC p s 1 0 none 0 0 0 0 0 0 0) 95)) (by simp)
  obtain ⟨x0, x1, x2, x3, x4, x5, x6, x7, x8, x9, xf⟩ := CmB.box (w.alloc (.cells (jkC p s 1 n a m c t wd h x y) 95)) p s 1 0 none 0 0 0 0 0 0 0
  rw [show (w.alloc (.cells (jkC p s 1 n a m c t wd h x y) 95)).heap.size = w.heap.size + 1 by simp] at *
  have f3 := xf 3
  have f8 := xf 8
  have f9 := xf 9
  have hz : w.heap.size < ((w.alloc (.cells (jkC p s 1 n a m c t wd h x y) 95)).alloc (.cells (jkC p s 1 0 none 0 0 0 0 0 0 0) 95)).heap.size := by simp; omega
  have hz1 : w.heap.size + 1 < ((w.alloc (.cells (jkC p s 1 n a m c t wd h x y) 95)).alloc (.cells (jkC p s 1 0 none 0 0 0 0 0 0 0) 95)).heap.size := by simp
  have CF := Hk.mk cf
  have XF := Hk.mk xf
  clear cf xf
  generalize ((w.alloc (.cells (jkC p s 1 n a m c t wd h x y) 95)).alloc (.cells (jkC p s 1 0 none 0 0 0 0 0 0 0) 95)) = W0 at *
  go_region
  have HC : Hk (Below w.heap.size w (((W0.setCell ⟨w.heap.size + 1, 3, none⟩ (.int .i64 n)).setCell ⟨w.heap.size + 1, 8, none⟩ (.int .i64 x)).setCell ⟨w.heap.size + 1, 9, none⟩ (.int .i64 y)).drew) := ⟨Below.drew ((((HW0.out.setCell (p := ⟨w.heap.size + 1, 3, none⟩) (by simp) _).setCell (p := ⟨w.heap.size + 1, 8, none⟩) (by simp) _).setCell (p := ⟨w.heap.size + 1, 9, none⟩) (by simp) _))⟩
  have HCB : Hk (CmB (((W0.setCell ⟨w.heap.size + 1, 3, none⟩ (.int .i64 n)).setCell ⟨w.heap.size + 1, 8, none⟩ (.int .i64 x)).setCell ⟨w.heap.size + 1, 9, none⟩ (.int .i64 y)).drew w.heap.size p s 1 n a m c t wd h x y) := ⟨⟨by go_simp, by go_simp, by go_simp, by go_simp, by go_simp, by go_simp, by go_simp, by go_simp, by go_simp, by go_simp, fun j => by have := CF.out j; go_simp⟩⟩
  have HXB : Hk (CmB (((W0.setCell ⟨w.heap.size + 1, 3, none⟩ (.int .i64 n)).setCell ⟨w.heap.size + 1, 8, none⟩ (.int .i64 x)).setCell ⟨w.heap.size + 1, 9, none⟩ (.int .i64 y)).drew (w.heap.size + 1) p s 1 n none 0 0 0 0 0 x y) := ⟨⟨by go_simp, by go_simp, by go_simp, by go_simp, by go_simp, by go_simp, by go_simp, by go_simp, by go_simp, by go_simp, fun j => by have := XF.out j; go_simp⟩⟩
  have hy : w.heap.size < (((W0.setCell ⟨w.heap.size + 1, 3, none⟩ (.int .i64 n)).setCell ⟨w.heap.size + 1, 8, none⟩ (.int .i64 x)).setCell ⟨w.heap.size + 1, 9, none⟩ (.int .i64 y)).drew.heap.size := by simpa using hz
  have hy1 : w.heap.size + 1 < (((W0.setCell ⟨w.heap.size + 1, 3, none⟩ (.int .i64 n)).setCell ⟨w.heap.size + 1, 8, none⟩ (.int .i64 x)).setCell ⟨w.heap.size + 1, 9, none⟩ (.int .i64 y)).drew.heap.size := by simpa using hz1
  clear c0 c1 c2 c3 c4 c5 c6 c7 c8 c9 x0 x1 x2 x3 x4 x5 x6 x7 x8 x9 f3 f8 f9 CF XF hz hz1 HW0
  generalize (((W0.setCell ⟨w.heap.size + 1, 3, none⟩ (.int .i64 n)).setCell ⟨w.heap.size + 1, 8, none⟩ (.int .i64 x)).setCell ⟨w.heap.size + 1, 9, none⟩ (.int .i64 y)).drew = W1 at *
  obtain ⟨c0, c1, c2, c3, c4, c5, c6, c7, c8, c9, -⟩ := HCB.out
  obtain ⟨x0, x1, x2, x3, x4, x5, x6, x7, x8, x9, -⟩ := HXB.out
  go_wp2
  go_ret
  exact ⟨rb R.out, HC.out⟩
 have b0 : decide (1 ≤ p) = true := by simp; omega
 by_cases g1 : ¬ (p ≤ 8)
 ·have b1 : decide (p ≤ 8) = false := by simp; omega
  have R : Hk (false = r) := ⟨by rw [← E.out]; unfold refC baseB; simp; intros; omega⟩
  clear E
  go_enter Tryz.func95, Tryz.ntmps95
  go_wp2
  obtain ⟨c0, c1, c2, c3, c4, c5, c6, c7, c8, c9, cf⟩ := (CmB.box w p s 1 n a m c t wd h x y).below ((Below.refl _ _).alloc (Nat.le_refl _) (.cells (jkC p s 1 0 none 0 0 0 0 0 0 0) 95)) (by simp)
  obtain ⟨x0, x1, x2, x3, x4, x5, x6, x7, x8, x9, xf⟩ := CmB.box (w.alloc (.cells (jkC p s 1 n a m c t wd h x y) 95)) p s 1 0 none 0 0 0 0 0 0 0
  rw [show (w.alloc (.cells (jkC p s 1 n a m c t wd h x y) 95)).heap.size = w.heap.size + 1 by simp] at *
  have f3 := xf 3
  have f8 := xf 8
  have f9 := xf 9
  have hz : w.heap.size < ((w.alloc (.cells (jkC p s 1 n a m c t wd h x y) 95)).alloc (.cells (jkC p s 1 0 none 0 0 0 0 0 0 0) 95)).heap.size := by simp; omega
  have hz1 : w.heap.size + 1 < ((w.alloc (.cells (jkC p s 1 n a m c t wd h x y) 95)).alloc (.cells (jkC p s 1 0 none 0 0 0 0 0 0 0) 95)).heap.size := by simp
  have CF := Hk.mk cf
  have XF := Hk.mk xf
  clear cf xf
  generalize ((w.alloc (.cells (jkC p s 1 n a m c t wd h x y) 95)).alloc (.cells (jkC p s 1 0 none 0 0 0 0 0 0 0) 95)) = W0 at *
  go_region
  have HC : Hk (Below w.heap.size w (((W0.setCell ⟨w.heap.size + 1, 3, none⟩ (.int .i64 n)).setCell ⟨w.heap.size + 1, 8, none⟩ (.int .i64 x)).setCell ⟨w.heap.size + 1, 9, none⟩ (.int .i64 y)).drew) := ⟨Below.drew ((((HW0.out.setCell (p := ⟨w.heap.size + 1, 3, none⟩) (by simp) _).setCell (p := ⟨w.heap.size + 1, 8, none⟩) (by simp) _).setCell (p := ⟨w.heap.size + 1, 9, none⟩) (by simp) _))⟩
  have HCB : Hk (CmB (((W0.setCell ⟨w.heap.size + 1, 3, none⟩ (.int .i64 n)).setCell ⟨w.heap.size + 1, 8, none⟩ (.int .i64 x)).setCell ⟨w.heap.size + 1, 9, none⟩ (.int .i64 y)).drew w.heap.size p s 1 n a m c t wd h x y) := ⟨⟨by go_simp, by go_simp, by go_simp, by go_simp, by go_simp, by go_simp, by go_simp, by go_simp, by go_simp, by go_simp, fun j => by have := CF.out j; go_simp⟩⟩
  have HXB : Hk (CmB (((W0.setCell ⟨w.heap.size + 1, 3, none⟩ (.int .i64 n)).setCell ⟨w.heap.size + 1, 8, none⟩ (.int .i64 x)).setCell ⟨w.heap.size + 1, 9, none⟩ (.int .i64 y)).drew (w.heap.size + 1) p s 1 n none 0 0 0 0 0 x y) := ⟨⟨by go_simp, by go_simp, by go_simp, by go_simp, by go_simp, by go_simp, by go_simp, by go_simp, by go_simp, by go_simp, fun j => by have := XF.out j; go_simp⟩⟩
  have hy : w.heap.size < (((W0.setCell ⟨w.heap.size + 1, 3, none⟩ (.int .i64 n)).setCell ⟨w.heap.size + 1, 8, none⟩ (.int .i64 x)).setCell ⟨w.heap.size + 1, 9, none⟩ (.int .i64 y)).drew.heap.size := by simpa using hz
  have hy1 : w.heap.size + 1 < (((W0.setCell ⟨w.heap.size + 1, 3, none⟩ (.int .i64 n)).setCell ⟨w.heap.size + 1, 8, none⟩ (.int .i64 x)).setCell ⟨w.heap.size + 1, 9, none⟩ (.int .i64 y)).drew.heap.size := by simpa using hz1
  clear c0 c1 c2 c3 c4 c5 c6 c7 c8 c9 x0 x1 x2 x3 x4 x5 x6 x7 x8 x9 f3 f8 f9 CF XF hz hz1 HW0
  generalize (((W0.setCell ⟨w.heap.size + 1, 3, none⟩ (.int .i64 n)).setCell ⟨w.heap.size + 1, 8, none⟩ (.int .i64 x)).setCell ⟨w.heap.size + 1, 9, none⟩ (.int .i64 y)).drew = W1 at *
  obtain ⟨c0, c1, c2, c3, c4, c5, c6, c7, c8, c9, -⟩ := HCB.out
  obtain ⟨x0, x1, x2, x3, x4, x5, x6, x7, x8, x9, -⟩ := HXB.out
  go_wp2
  go_ret
  exact ⟨rb R.out, HC.out⟩
 have b1 : decide (p ≤ 8) = true := by simp; omega
 cases e1 : decide (0 ≤ s ∧ s ≤ 1099511627776)
 case false =>
  have E1 := Hk.mk e1
  have R : Hk (false = r) := ⟨by rw [← E.out]; simp at e1; unfold refC baseB; simp; intros; omega⟩
  clear E e1
  go_enter Tryz.func95, Tryz.ntmps95
  go_wp2_with (go_at_call 29; (with_reducible refine (rnum22_as false s 1099511627776 _ E1).mono ?_); rintro e w' ⟨rfl, rfl⟩)
  obtain ⟨c0, c1, c2, c3, c4, c5, c6, c7, c8, c9, cf⟩ := (CmB.box w p s 1 n a m c t wd h x y).below ((Below.refl _ _).alloc (Nat.le_refl _) (.cells (jkC p s 1 0 none 0 0 0 0 0 0 0) 95)) (by simp)
  obtain ⟨x0, x1, x2, x3, x4, x5, x6, x7, x8, x9, xf⟩ := CmB.box (w.alloc (.cells (jkC p s 1 n a m c t wd h x y) 95)) p s 1 0 none 0 0 0 0 0 0 0
  rw [show (w.alloc (.cells (jkC p s 1 n a m c t wd h x y) 95)).heap.size = w.heap.size + 1 by simp] at *
  have f3 := xf 3
  have f8 := xf 8
  have f9 := xf 9
  have hz : w.heap.size < ((w.alloc (.cells (jkC p s 1 n a m c t wd h x y) 95)).alloc (.cells (jkC p s 1 0 none 0 0 0 0 0 0 0) 95)).heap.size := by simp; omega
  have hz1 : w.heap.size + 1 < ((w.alloc (.cells (jkC p s 1 n a m c t wd h x y) 95)).alloc (.cells (jkC p s 1 0 none 0 0 0 0 0 0 0) 95)).heap.size := by simp
  have CF := Hk.mk cf
  have XF := Hk.mk xf
  clear cf xf
  generalize ((w.alloc (.cells (jkC p s 1 n a m c t wd h x y) 95)).alloc (.cells (jkC p s 1 0 none 0 0 0 0 0 0 0) 95)) = W0 at *
  go_region
  have HC : Hk (Below w.heap.size w (((W0.setCell ⟨w.heap.size + 1, 3, none⟩ (.int .i64 n)).setCell ⟨w.heap.size + 1, 8, none⟩ (.int .i64 x)).setCell ⟨w.heap.size + 1, 9, none⟩ (.int .i64 y)).drew) := ⟨Below.drew ((((HW0.out.setCell (p := ⟨w.heap.size + 1, 3, none⟩) (by simp) _).setCell (p := ⟨w.heap.size + 1, 8, none⟩) (by simp) _).setCell (p := ⟨w.heap.size + 1, 9, none⟩) (by simp) _))⟩
  have HCB : Hk (CmB (((W0.setCell ⟨w.heap.size + 1, 3, none⟩ (.int .i64 n)).setCell ⟨w.heap.size + 1, 8, none⟩ (.int .i64 x)).setCell ⟨w.heap.size + 1, 9, none⟩ (.int .i64 y)).drew w.heap.size p s 1 n a m c t wd h x y) := ⟨⟨by go_simp, by go_simp, by go_simp, by go_simp, by go_simp, by go_simp, by go_simp, by go_simp, by go_simp, by go_simp, fun j => by have := CF.out j; go_simp⟩⟩
  have HXB : Hk (CmB (((W0.setCell ⟨w.heap.size + 1, 3, none⟩ (.int .i64 n)).setCell ⟨w.heap.size + 1, 8, none⟩ (.int .i64 x)).setCell ⟨w.heap.size + 1, 9, none⟩ (.int .i64 y)).drew (w.heap.size + 1) p s 1 n none 0 0 0 0 0 x y) := ⟨⟨by go_simp, by go_simp, by go_simp, by go_simp, by go_simp, by go_simp, by go_simp, by go_simp, by go_simp, by go_simp, fun j => by have := XF.out j; go_simp⟩⟩
  have hy : w.heap.size < (((W0.setCell ⟨w.heap.size + 1, 3, none⟩ (.int .i64 n)).setCell ⟨w.heap.size + 1, 8, none⟩ (.int .i64 x)).setCell ⟨w.heap.size + 1, 9, none⟩ (.int .i64 y)).drew.heap.size := by simpa using hz
  have hy1 : w.heap.size + 1 < (((W0.setCell ⟨w.heap.size + 1, 3, none⟩ (.int .i64 n)).setCell ⟨w.heap.size + 1, 8, none⟩ (.int .i64 x)).setCell ⟨w.heap.size + 1, 9, none⟩ (.int .i64 y)).drew.heap.size := by simpa using hz1
  clear c0 c1 c2 c3 c4 c5 c6 c7 c8 c9 x0 x1 x2 x3 x4 x5 x6 x7 x8 x9 f3 f8 f9 CF XF hz hz1 HW0
  generalize (((W0.setCell ⟨w.heap.size + 1, 3, none⟩ (.int .i64 n)).setCell ⟨w.heap.size + 1, 8, none⟩ (.int .i64 x)).setCell ⟨w.heap.size + 1, 9, none⟩ (.int .i64 y)).drew = W1 at *
  obtain ⟨c0, c1, c2, c3, c4, c5, c6, c7, c8, c9, -⟩ := HCB.out
  obtain ⟨x0, x1, x2, x3, x4, x5, x6, x7, x8, x9, -⟩ := HXB.out
  go_wp2
  go_ret
  exact ⟨rb R.out, HC.out⟩
 have E1 := Hk.mk e1
 have BB : Hk (baseB p s = true) := ⟨by simp at e1; unfold baseB; simp; omega⟩
 clear e1 g0 g1
 cases h0 : decide (0 ≤ n ∧ n ≤ 3)
 case false =>
  have R : Hk (false = r) := ⟨by rw [← E.out]; unfold refC; rw [BB.out]; simp at h0; simp [vB]; intros; omega⟩
  have F0 := Hk.mk h0
  clear E h0
  go_enter Tryz.func95, Tryz.ntmps95
  go_wp2_with (go_at_call 29; (with_reducible refine (rnum22_as true s 1099511627776 _ E1).mono ?_); rintro e w' ⟨rfl, rfl⟩)
  obtain ⟨c0, c1, c2, c3, c4, c5, c6, c7, c8, c9, cf⟩ := (CmB.box w p s 1 n a m c t wd h x y).below ((Below.refl _ _).alloc (Nat.le_refl _) (.cells (jkC p s 1 0 none 0 0 0 0 0 0 0) 95)) (by simp)
  obtain ⟨x0, x1, x2, x3, x4, x5, x6, x7, x8, x9, xf⟩ := CmB.box (w.alloc (.cells (jkC p s 1 n a m c t wd h x y) 95)) p s 1 0 none 0 0 0 0 0 0 0
  rw [show (w.alloc (.cells (jkC p s 1 n a m c t wd h x y) 95)).heap.size = w.heap.size + 1 by simp] at *
  have f3 := xf 3
  have f8 := xf 8
  have f9 := xf 9
  have hz : w.heap.size < ((w.alloc (.cells (jkC p s 1 n a m c t wd h x y) 95)).alloc (.cells (jkC p s 1 0 none 0 0 0 0 0 0 0) 95)).heap.size := by simp; omega
  have hz1 : w.heap.size + 1 < ((w.alloc (.cells (jkC p s 1 n a m c t wd h x y) 95)).alloc (.cells (jkC p s 1 0 none 0 0 0 0 0 0 0) 95)).heap.size := by simp
  have CF := Hk.mk cf
  have XF := Hk.mk xf
  clear cf xf
  generalize ((w.alloc (.cells (jkC p s 1 n a m c t wd h x y) 95)).alloc (.cells (jkC p s 1 0 none 0 0 0 0 0 0 0) 95)) = W0 at *
  go_region
  have HC : Hk (Below w.heap.size w (((W0.setCell ⟨w.heap.size + 1, 3, none⟩ (.int .i64 n)).setCell ⟨w.heap.size + 1, 8, none⟩ (.int .i64 x)).setCell ⟨w.heap.size + 1, 9, none⟩ (.int .i64 y)).drew) := ⟨Below.drew ((((HW0.out.setCell (p := ⟨w.heap.size + 1, 3, none⟩) (by simp) _).setCell (p := ⟨w.heap.size + 1, 8, none⟩) (by simp) _).setCell (p := ⟨w.heap.size + 1, 9, none⟩) (by simp) _))⟩
  have HCB : Hk (CmB (((W0.setCell ⟨w.heap.size + 1, 3, none⟩ (.int .i64 n)).setCell ⟨w.heap.size + 1, 8, none⟩ (.int .i64 x)).setCell ⟨w.heap.size + 1, 9, none⟩ (.int .i64 y)).drew w.heap.size p s 1 n a m c t wd h x y) := ⟨⟨by go_simp, by go_simp, by go_simp, by go_simp, by go_simp, by go_simp, by go_simp, by go_simp, by go_simp, by go_simp, fun j => by have := CF.out j; go_simp⟩⟩
  have HXB : Hk (CmB (((W0.setCell ⟨w.heap.size + 1, 3, none⟩ (.int .i64 n)).setCell ⟨w.heap.size + 1, 8, none⟩ (.int .i64 x)).setCell ⟨w.heap.size + 1, 9, none⟩ (.int .i64 y)).drew (w.heap.size + 1) p s 1 n none 0 0 0 0 0 x y) := ⟨⟨by go_simp, by go_simp, by go_simp, by go_simp, by go_simp, by go_simp, by go_simp, by go_simp, by go_simp, by go_simp, fun j => by have := XF.out j; go_simp⟩⟩
  have hy : w.heap.size < (((W0.setCell ⟨w.heap.size + 1, 3, none⟩ (.int .i64 n)).setCell ⟨w.heap.size + 1, 8, none⟩ (.int .i64 x)).setCell ⟨w.heap.size + 1, 9, none⟩ (.int .i64 y)).drew.heap.size := by simpa using hz
  have hy1 : w.heap.size + 1 < (((W0.setCell ⟨w.heap.size + 1, 3, none⟩ (.int .i64 n)).setCell ⟨w.heap.size + 1, 8, none⟩ (.int .i64 x)).setCell ⟨w.heap.size + 1, 9, none⟩ (.int .i64 y)).drew.heap.size := by simpa using hz1
  clear c0 c1 c2 c3 c4 c5 c6 c7 c8 c9 x0 x1 x2 x3 x4 x5 x6 x7 x8 x9 f3 f8 f9 CF XF hz hz1 HW0
  generalize (((W0.setCell ⟨w.heap.size + 1, 3, none⟩ (.int .i64 n)).setCell ⟨w.heap.size + 1, 8, none⟩ (.int .i64 x)).setCell ⟨w.heap.size + 1, 9, none⟩ (.int .i64 y)).drew = W1 at *
  obtain ⟨c0, c1, c2, c3, c4, c5, c6, c7, c8, c9, -⟩ := HCB.out
  obtain ⟨x0, x1, x2, x3, x4, x5, x6, x7, x8, x9, -⟩ := HXB.out
  go_wp2_with (first | (go_at_call 29; (with_reducible refine (rnum22_as false n 3 _ F0).mono ?_); rintro e w' ⟨rfl, rfl⟩))
  go_ret
  exact ⟨rb R.out, HC.out⟩
 have F0 := Hk.mk h0
 cases h1 : decide (-1099511627776 ≤ x ∧ x ≤ 1099511627776 ∧ -1099511627776 ≤ y ∧ y ≤ 1099511627776)
 case false =>
  have R : Hk (false = r) := ⟨by rw [← E.out]; unfold refC; rw [BB.out]; simp at h1; simp [vB]; intros; omega⟩
  have F1 := Hk.mk h1
  clear E h1
  go_enter Tryz.func95, Tryz.ntmps95
  go_wp2_with (go_at_call 29; (with_reducible refine (rnum22_as true s 1099511627776 _ E1).mono ?_); rintro e w' ⟨rfl, rfl⟩)
  obtain ⟨c0, c1, c2, c3, c4, c5, c6, c7, c8, c9, cf⟩ := (CmB.box w p s 1 n a m c t wd h x y).below ((Below.refl _ _).alloc (Nat.le_refl _) (.cells (jkC p s 1 0 none 0 0 0 0 0 0 0) 95)) (by simp)
  obtain ⟨x0, x1, x2, x3, x4, x5, x6, x7, x8, x9, xf⟩ := CmB.box (w.alloc (.cells (jkC p s 1 n a m c t wd h x y) 95)) p s 1 0 none 0 0 0 0 0 0 0
  rw [show (w.alloc (.cells (jkC p s 1 n a m c t wd h x y) 95)).heap.size = w.heap.size + 1 by simp] at *
  have f3 := xf 3
  have f8 := xf 8
  have f9 := xf 9
  have hz : w.heap.size < ((w.alloc (.cells (jkC p s 1 n a m c t wd h x y) 95)).alloc (.cells (jkC p s 1 0 none 0 0 0 0 0 0 0) 95)).heap.size := by simp; omega
  have hz1 : w.heap.size + 1 < ((w.alloc (.cells (jkC p s 1 n a m c t wd h x y) 95)).alloc (.cells (jkC p s 1 0 none 0 0 0 0 0 0 0) 95)).heap.size := by simp
  have CF := Hk.mk cf
  have XF := Hk.mk xf
  clear cf xf
  generalize ((w.alloc (.cells (jkC p s 1 n a m c t wd h x y) 95)).alloc (.cells (jkC p s 1 0 none 0 0 0 0 0 0 0) 95)) = W0 at *
  go_region
  have HC : Hk (Below w.heap.size w (((W0.setCell ⟨w.heap.size + 1, 3, none⟩ (.int .i64 n)).setCell ⟨w.heap.size + 1, 8, none⟩ (.int .i64 x)).setCell ⟨w.heap.size + 1, 9, none⟩ (.int .i64 y)).drew) := ⟨Below.drew ((((HW0.out.setCell (p := ⟨w.heap.size + 1, 3, none⟩) (by simp) _).setCell (p := ⟨w.heap.size + 1, 8, none⟩) (by simp) _).setCell (p := ⟨w.heap.size + 1, 9, none⟩) (by simp) _))⟩
  have HCB : Hk (CmB (((W0.setCell ⟨w.heap.size + 1, 3, none⟩ (.int .i64 n)).setCell ⟨w.heap.size + 1, 8, none⟩ (.int .i64 x)).setCell ⟨w.heap.size + 1, 9, none⟩ (.int .i64 y)).drew w.heap.size p s 1 n a m c t wd h x y) := ⟨⟨by go_simp, by go_simp, by go_simp, by go_simp, by go_simp, by go_simp, by go_simp, by go_simp, by go_simp, by go_simp, fun j => by have := CF.out j; go_simp⟩⟩
  have HXB : Hk (CmB (((W0.setCell ⟨w.heap.size + 1, 3, none⟩ (.int .i64 n)).setCell ⟨w.heap.size + 1, 8, none⟩ (.int .i64 x)).setCell ⟨w.heap.size + 1, 9, none⟩ (.int .i64 y)).drew (w.heap.size + 1) p s 1 n none 0 0 0 0 0 x y) := ⟨⟨by go_simp, by go_simp, by go_simp, by go_simp, by go_simp, by go_simp, by go_simp, by go_simp, by go_simp, by go_simp, fun j => by have := XF.out j; go_simp⟩⟩
  have hy : w.heap.size < (((W0.setCell ⟨w.heap.size + 1, 3, none⟩ (.int .i64 n)).setCell ⟨w.heap.size + 1, 8, none⟩ (.int .i64 x)).setCell ⟨w.heap.size + 1, 9, none⟩ (.int .i64 y)).drew.heap.size := by simpa using hz
  have hy1 : w.heap.size + 1 < (((W0.setCell ⟨w.heap.size + 1, 3, none⟩ (.int .i64 n)).setCell ⟨w.heap.size + 1, 8, none⟩ (.int .i64 x)).setCell ⟨w.heap.size + 1, 9, none⟩ (.int .i64 y)).drew.heap.size := by simpa using hz1
  clear c0 c1 c2 c3 c4 c5 c6 c7 c8 c9 x0 x1 x2 x3 x4 x5 x6 x7 x8 x9 f3 f8 f9 CF XF hz hz1 HW0
  generalize (((W0.setCell ⟨w.heap.size + 1, 3, none⟩ (.int .i64 n)).setCell ⟨w.heap.size + 1, 8, none⟩ (.int .i64 x)).setCell ⟨w.heap.size + 1, 9, none⟩ (.int .i64 y)).drew = W1 at *
  obtain ⟨c0, c1, c2, c3, c4, c5, c6, c7, c8, c9, -⟩ := HCB.out
  obtain ⟨x0, x1, x2, x3, x4, x5, x6, x7, x8, x9, -⟩ := HXB.out
  go_wp2_with (first | (go_at_call 29; (with_reducible refine (rnum22_as true n 3 _ F0).mono ?_); rintro e w' ⟨rfl, rfl⟩) | (go_at_call 105; (with_reducible refine (rmay22_as false x y _ F1).mono ?_); rintro e w3 ⟨rfl, hb3⟩; have HC := Hk.mk (HC.out.trans (hb3.mono HC.out.size)); obtain ⟨c0, c1, c2, c3, c4, c5, c6, c7, c8, c9, -⟩ := HCB.out.below hb3 hy; obtain ⟨x0, x1, x2, x3, x4, x5, x6, x7, x8, x9, -⟩ := HXB.out.below hb3 hy1; clear hb3))
  go_ret
  exact ⟨rb R.out, HC.out⟩
 have F1 := Hk.mk h1
 have EE : Hk (eqcB p s 1 n [] 0 0 0 x y p s 1 n u t wd h x y = r) := ⟨by
  rw [← E.out]; unfold refC eqcB; rw [BB.out, Bool.eq_iff_iff]
  simp at h0 h1
  simp [vB]
  first | done | grind | omega⟩
 clear E h0 h1
 go_enter Tryz.func95, Tryz.ntmps95
 go_wp2_with (go_at_call 29; (with_reducible refine (rnum22_as true s 1099511627776 _ E1).mono ?_); rintro e w' ⟨rfl, rfl⟩)
 obtain ⟨c0, c1, c2, c3, c4, c5, c6, c7, c8, c9, cf⟩ := (CmB.box w p s 1 n a m c t wd h x y).below ((Below.refl _ _).alloc (Nat.le_refl _) (.cells (jkC p s 1 0 none 0 0 0 0 0 0 0) 95)) (by simp)
 obtain ⟨x0, x1, x2, x3, x4, x5, x6, x7, x8, x9, xf⟩ := CmB.box (w.alloc (.cells (jkC p s 1 n a m c t wd h x y) 95)) p s 1 0 none 0 0 0 0 0 0 0
 rw [show (w.alloc (.cells (jkC p s 1 n a m c t wd h x y) 95)).heap.size = w.heap.size + 1 by simp] at *
 have f3 := xf 3
 have f8 := xf 8
 have f9 := xf 9
 have hz : w.heap.size < ((w.alloc (.cells (jkC p s 1 n a m c t wd h x y) 95)).alloc (.cells (jkC p s 1 0 none 0 0 0 0 0 0 0) 95)).heap.size := by simp; omega
 have hz1 : w.heap.size + 1 < ((w.alloc (.cells (jkC p s 1 n a m c t wd h x y) 95)).alloc (.cells (jkC p s 1 0 none 0 0 0 0 0 0 0) 95)).heap.size := by simp
 have CF := Hk.mk cf
 have XF := Hk.mk xf
 clear cf xf
 generalize ((w.alloc (.cells (jkC p s 1 n a m c t wd h x y) 95)).alloc (.cells (jkC p s 1 0 none 0 0 0 0 0 0 0) 95)) = W0 at *
 go_region
 have HC : Hk (Below w.heap.size w (((W0.setCell ⟨w.heap.size + 1, 3, none⟩ (.int .i64 n)).setCell ⟨w.heap.size + 1, 8, none⟩ (.int .i64 x)).setCell ⟨w.heap.size + 1, 9, none⟩ (.int .i64 y)).drew) := ⟨Below.drew ((((HW0.out.setCell (p := ⟨w.heap.size + 1, 3, none⟩) (by simp) _).setCell (p := ⟨w.heap.size + 1, 8, none⟩) (by simp) _).setCell (p := ⟨w.heap.size + 1, 9, none⟩) (by simp) _))⟩
 have HCB : Hk (CmB (((W0.setCell ⟨w.heap.size + 1, 3, none⟩ (.int .i64 n)).setCell ⟨w.heap.size + 1, 8, none⟩ (.int .i64 x)).setCell ⟨w.heap.size + 1, 9, none⟩ (.int .i64 y)).drew w.heap.size p s 1 n a m c t wd h x y) := ⟨⟨by go_simp, by go_simp, by go_simp, by go_simp, by go_simp, by go_simp, by go_simp, by go_simp, by go_simp, by go_simp, fun j => by have := CF.out j; go_simp⟩⟩
 have HXB : Hk (CmB (((W0.setCell ⟨w.heap.size + 1, 3, none⟩ (.int .i64 n)).setCell ⟨w.heap.size + 1, 8, none⟩ (.int .i64 x)).setCell ⟨w.heap.size + 1, 9, none⟩ (.int .i64 y)).drew (w.heap.size + 1) p s 1 n none 0 0 0 0 0 x y) := ⟨⟨by go_simp, by go_simp, by go_simp, by go_simp, by go_simp, by go_simp, by go_simp, by go_simp, by go_simp, by go_simp, fun j => by have := XF.out j; go_simp⟩⟩
 have hy : w.heap.size < (((W0.setCell ⟨w.heap.size + 1, 3, none⟩ (.int .i64 n)).setCell ⟨w.heap.size + 1, 8, none⟩ (.int .i64 x)).setCell ⟨w.heap.size + 1, 9, none⟩ (.int .i64 y)).drew.heap.size := by simpa using hz
 have hy1 : w.heap.size + 1 < (((W0.setCell ⟨w.heap.size + 1, 3, none⟩ (.int .i64 n)).setCell ⟨w.heap.size + 1, 8, none⟩ (.int .i64 x)).setCell ⟨w.heap.size + 1, 9, none⟩ (.int .i64 y)).drew.heap.size := by simpa using hz1
 clear c0 c1 c2 c3 c4 c5 c6 c7 c8 c9 x0 x1 x2 x3 x4 x5 x6 x7 x8 x9 f3 f8 f9 CF XF hz hz1 HW0
 generalize (((W0.setCell ⟨w.heap.size + 1, 3, none⟩ (.int .i64 n)).setCell ⟨w.heap.size + 1, 8, none⟩ (.int .i64 x)).setCell ⟨w.heap.size + 1, 9, none⟩ (.int .i64 y)).drew = W1 at *
 obtain ⟨c0, c1, c2, c3, c4, c5, c6, c7, c8, c9, -⟩ := HCB.out
 obtain ⟨x0, x1, x2, x3, x4, x5, x6, x7, x8, x9, -⟩ := HXB.out
 go_wp2_with (first | (go_at_call 29; (with_reducible refine (rnum22_as true n 3 _ F0).mono ?_); rintro e w' ⟨rfl, rfl⟩) | (go_at_call 105; (with_reducible refine (rmay22_as true x y _ F1).mono ?_); rintro e w3 ⟨rfl, hb3⟩; have HC := Hk.mk (HC.out.trans (hb3.mono HC.out.size)); obtain ⟨c0, c1, c2, c3, c4, c5, c6, c7, c8, c9, -⟩ := HCB.out.below hb3 hy; obtain ⟨x0, x1, x2, x3, x4, x5, x6, x7, x8, x9, -⟩ := HXB.out.below hb3 hy1; clear hb3) | (go_at_call 78; (with_reducible refine (eqc_as r p s 1 n none 0 0 [] 0 0 0 x y p s 1 n a m c u t wd h x y _ (Nq.nil _ _ _) (by omega) (HNA.out _ HC.out) hm EE).mono ?_); rintro e w9 ⟨rfl, hb9⟩; have HC := Hk.mk (HC.out.trans (hb9.mono HC.out.size)); clear hb9))
 go_ret
 exact ⟨rfl, HC.out⟩
set_option maxRecDepth 100000 in
set_option maxHeartbeats 3200000 in
theorem rcmd2 (r : Bool) (p s n : Int) (a : Option Addr) (m c : Nat) (u : List Int) (t wd h x y : Int) (w : World) (hN : Nq w w.heap.size a m u) (hm : m ≤ 1099511627776) (E : Hk (refC p s 2 ⟨n, u, t, wd, h, x, y⟩ = r)) :
  Calls Tryz.prog 95 #[.agg (jkC p s 2 n a m c t wd h x y)] w fun e w' => e = .returned (.bool r) ∧ Below w.heap.size w w' := by
 have HNA : Hk (∀ X, Below w.heap.size w X → Nq X X.heap.size a m u) := ⟨fun X hX => (hN.below hX (Nat.le_refl _)).mono hX.size⟩
 clear hN
 have HW0 : Hk (Below w.heap.size w ((w.alloc (.cells (jkC p s 2 n a m c t wd h x y) 95)).alloc (.cells (jkC p s 2 0 none 0 0 0 0 0 0 0) 95))) := ⟨((Below.refl _ _).alloc (Nat.le_refl _) _).alloc (by simp) _⟩
 by_cases g0 : ¬ (1 ≤ p)
 ·have b0 : decide (1 ≤ p) = false := by simp; omega
  have R : Hk (false = r) := ⟨by rw [← E.out]; unfold refC baseB; simp; intros; omega⟩
  clear E
  go_enter Tryz.func95, Tryz.ntmps95
  go_wp2
  obtain ⟨c0, c1, c2, c3, c4, c5, c6, c7, c8, c9, cf⟩ := (CmB.box w p s 2 n a m c t wd h x y).below ((Below.refl _ _).alloc (Nat.le_refl _) (.cells (jkC p s 2 0 none 0 0 0 0 0 0 0) 95)) (by simp)
  obtain ⟨x0, x1, x2, x3, x4, x5, x6, x7, x8, x9, xf⟩ := CmB.box (w.alloc (.cells (jkC p s 2 n a m c t wd h x y) 95)) p s 2 0 none 0 0 0 0 0 0 0
  rw [show (w.alloc (.cells (jkC p s 2 n a m c t wd h x y) 95)).heap.size = w.heap.size + 1 by simp] at *
  have f4 := xf 4
  have f5 := xf 5
  have hz : w.heap.size < ((w.alloc (.cells (jkC p s 2 n a m c t wd h x y) 95)).alloc (.cells (jkC p s 2 0 none 0 0 0 0 0 0 0) 95)).heap.size := by simp; omega
  have hz1 : w.heap.size + 1 < ((w.alloc (.cells (jkC p s 2 n a m c t wd h x y) 95)).alloc (.cells (jkC p s 2 0 none 0 0 0 0 0 0 0) 95)).heap.size := by simp
  have CF := Hk.mk cf
  have XF := Hk.mk xf
  clear cf xf
  generalize ((w.alloc (.cells (jkC p s 2 n a m c t wd h x y) 95)).alloc (.cells (jkC p s 2 0 none 0 0 0 0 0 0 0) 95)) = W0 at *
  go_region
  have HC : Hk (Below w.heap.size w ((W0.setCell ⟨w.heap.size + 1, 4, none⟩ (.slice a m c)).setCell ⟨w.heap.size + 1, 5, none⟩ (.int .i64 t)).drew) := ⟨Below.drew (((HW0.out.setCell (p := ⟨w.heap.size + 1, 4, none⟩) (by simp) _).setCell (p := ⟨w.heap.size + 1, 5, none⟩) (by simp) _))⟩
  have HCB : Hk (CmB ((W0.setCell ⟨w.heap.size + 1, 4, none⟩ (.slice a m c)).setCell ⟨w.heap.size + 1, 5, none⟩ (.int .i64 t)).drew w.heap.size p s 2 n a m c t wd h x y) := ⟨⟨by go_simp, by go_simp, by go_simp, by go_simp, by go_simp, by go_simp, by go_simp, by go_simp, by go_simp, by go_simp, fun j => by have := CF.out j; go_simp⟩⟩
  have HXB : Hk (CmB ((W0.setCell ⟨w.heap.size + 1, 4, none⟩ (.slice a m c)).setCell ⟨w.heap.size + 1, 5, none⟩ (.int .i64 t)).drew (w.heap.size + 1) p s 2 0 a m c t 0 0 0 0) := ⟨⟨by go_simp, by go_simp, by go_simp, by go_simp, by go_simp, by go_simp, by go_simp, by go_simp, by go_simp, by go_simp, fun j => by have := XF.out j; go_simp⟩⟩
  have hy : w.heap.size < ((W0.setCell ⟨w.heap.size + 1, 4, none⟩ (.slice a m c)).setCell ⟨w.heap.size + 1, 5, none⟩ (.int .i64 t)).drew.heap.size := by simpa using hz
  have hy1 : w.heap.size + 1 < ((W0.setCell ⟨w.heap.size + 1, 4, none⟩ (.slice a m c)).setCell ⟨w.heap.size + 1, 5, none⟩ (.int .i64 t)).drew.heap.size := by simpa using hz1
  clear c0 c1 c2 c3 c4 c5 c6 c7 c8 c9 x0 x1 x2 x3 x4 x5 x6 x7 x8 x9 f4 f5 CF XF hz hz1 HW0
  generalize ((W0.setCell ⟨w.heap.size + 1, 4, none⟩ (.slice a m c)).setCell ⟨w.heap.size + 1, 5, none⟩ (.int .i64 t)).drew = W1 at *
  obtain ⟨c0, c1, c2, c3, c4, c5, c6, c7, c8, c9, -⟩ := HCB.out
  obtain ⟨x0, x1, x2, x3, x4, x5, x6, x7, x8, x9, -⟩ := HXB.out
  go_wp2
  go_ret
  exact ⟨rb R.out, HC.out⟩
 have b0 : decide (1 ≤ p) = true := by simp; omega
 by_cases g1 : ¬ (p ≤ 8)
 ·have b1 : decide (p ≤ 8) = false := by simp; omega
  have R : Hk (false = r) := ⟨by rw [← E.out]; unfold refC baseB; simp; intros; omega⟩
  clear E
  go_enter Tryz.func95, Tryz.ntmps95
  go_wp2
  obtain ⟨c0, c1, c2, c3, c4, c5, c6, c7, c8, c9, cf⟩ := (CmB.box w p s 2 n a m c t wd h x y).below ((Below.refl _ _).alloc (Nat.le_refl _) (.cells (jkC p s 2 0 none 0 0 0 0 0 0 0) 95)) (by simp)
  obtain ⟨x0, x1, x2, x3, x4, x5, x6, x7, x8, x9, xf⟩ := CmB.box (w.alloc (.cells (jkC p s 2 n a m c t wd h x y) 95)) p s 2 0 none 0 0 0 0 0 0 0
  rw [show (w.alloc (.cells (jkC p s 2 n a m c t wd h x y) 95)).heap.size = w.heap.size + 1 by simp] at *
  have f4 := xf 4
  have f5 := xf 5
  have hz : w.heap.size < ((w.alloc (.cells (jkC p s 2 n a m c t wd h x y) 95)).alloc (.cells (jkC p s 2 0 none 0 0 0 0 0 0 0) 95)).heap.size := by simp; omega
  have hz1 : w.heap.size + 1 < ((w.alloc (.cells (jkC p s 2 n a m c t wd h x y) 95)).alloc (.cells (jkC p s 2 0 none 0 0 0 0 0 0 0) 95)).heap.size := by simp
  have CF := Hk.mk cf
  have XF := Hk.mk xf
  clear cf xf
  generalize ((w.alloc (.cells (jkC p s 2 n a m c t wd h x y) 95)).alloc (.cells (jkC p s 2 0 none 0 0 0 0 0 0 0) 95)) = W0 at *
  go_region
  have HC : Hk (Below w.heap.size w ((W0.setCell ⟨w.heap.size + 1, 4, none⟩ (.slice a m c)).setCell ⟨w.heap.size + 1, 5, none⟩ (.int .i64 t)).drew) := ⟨Below.drew (((HW0.out.setCell (p := ⟨w.heap.size + 1, 4, none⟩) (by simp) _).setCell (p := ⟨w.heap.size + 1, 5, none⟩) (by simp) _))⟩
  have HCB : Hk (CmB ((W0.setCell ⟨w.heap.size + 1, 4, none⟩ (.slice a m c)).setCell ⟨w.heap.size + 1, 5, none⟩ (.int .i64 t)).drew w.heap.size p s 2 n a m c t wd h x y) := ⟨⟨by go_simp, by go_simp, by go_simp, by go_simp, by go_simp, by go_simp, by go_simp, by go_simp, by go_simp, by go_simp, fun j => by have := CF.out j; go_simp⟩⟩
  have HXB : Hk (CmB ((W0.setCell ⟨w.heap.size + 1, 4, none⟩ (.slice a m c)).setCell ⟨w.heap.size + 1, 5, none⟩ (.int .i64 t)).drew (w.heap.size + 1) p s 2 0 a m c t 0 0 0 0) := ⟨⟨by go_simp, by go_simp, by go_simp, by go_simp, by go_simp, by go_simp, by go_simp, by go_simp, by go_simp, by go_simp, fun j => by have := XF.out j; go_simp⟩⟩
  have hy : w.heap.size < ((W0.setCell ⟨w.heap.size + 1, 4, none⟩ (.slice a m c)).setCell ⟨w.heap.size + 1, 5, none⟩ (.int .i64 t)).drew.heap.size := by simpa using hz
  have hy1 : w.heap.size + 1 < ((W0.setCell ⟨w.heap.size + 1, 4, none⟩ (.slice a m c)).setCell ⟨w.heap.size + 1, 5, none⟩ (.int .i64 t)).drew.heap.size := by simpa using hz1
  clear c0 c1 c2 c3 c4 c5 c6 c7 c8 c9 x0 x1 x2 x3 x4 x5 x6 x7 x8 x9 f4 f5 CF XF hz hz1 HW0
  generalize ((W0.setCell ⟨w.heap.size + 1, 4, none⟩ (.slice a m c)).setCell ⟨w.heap.size + 1, 5, none⟩ (.int .i64 t)).drew = W1 at *
  obtain ⟨c0, c1, c2, c3, c4, c5, c6, c7, c8, c9, -⟩ := HCB.out
  obtain ⟨x0, x1, x2, x3, x4, x5, x6, x7, x8, x9, -⟩ := HXB.out
  go_wp2
  go_ret
  exact ⟨rb R.out, HC.out⟩
 have b1 : decide (p ≤ 8) = true := by simp; omega
 cases e1 : decide (0 ≤ s ∧ s ≤ 1099511627776)
 case false =>
  have E1 := Hk.mk e1
  have R : Hk (false = r) := ⟨by rw [← E.out]; simp at e1; unfold refC baseB; simp; intros; omega⟩
  clear E e1
  go_enter Tryz.func95, Tryz.ntmps95
  go_wp2_with (go_at_call 29; (with_reducible refine (rnum22_as false s 1099511627776 _ E1).mono ?_); rintro e w' ⟨rfl, rfl⟩)
  obtain ⟨c0, c1, c2, c3, c4, c5, c6, c7, c8, c9, cf⟩ := (CmB.box w p s 2 n a m c t wd h x y).below ((Below.refl _ _).alloc (Nat.le_refl _) (.cells (jkC p s 2 0 none 0 0 0 0 0 0 0) 95)) (by simp)
  obtain ⟨x0, x1, x2, x3, x4, x5, x6, x7, x8, x9, xf⟩ := CmB.box (w.alloc (.cells (jkC p s 2 n a m c t wd h x y) 95)) p s 2 0 none 0 0 0 0 0 0 0
  rw [show (w.alloc (.cells (jkC p s 2 n a m c t wd h x y) 95)).heap.size = w.heap.size + 1 by simp] at *
  have f4 := xf 4
  have f5 := xf 5
  have hz : w.heap.size < ((w.alloc (.cells (jkC p s 2 n a m c t wd h x y) 95)).alloc (.cells (jkC p s 2 0 none 0 0 0 0 0 0 0) 95)).heap.size := by simp; omega
  have hz1 : w.heap.size + 1 < ((w.alloc (.cells (jkC p s 2 n a m c t wd h x y) 95)).alloc (.cells (jkC p s 2 0 none 0 0 0 0 0 0 0) 95)).heap.size := by simp
  have CF := Hk.mk cf
  have XF := Hk.mk xf
  clear cf xf
  generalize ((w.alloc (.cells (jkC p s 2 n a m c t wd h x y) 95)).alloc (.cells (jkC p s 2 0 none 0 0 0 0 0 0 0) 95)) = W0 at *
  go_region
  have HC : Hk (Below w.heap.size w ((W0.setCell ⟨w.heap.size + 1, 4, none⟩ (.slice a m c)).setCell ⟨w.heap.size + 1, 5, none⟩ (.int .i64 t)).drew) := ⟨Below.drew (((HW0.out.setCell (p := ⟨w.heap.size + 1, 4, none⟩) (by simp) _).setCell (p := ⟨w.heap.size + 1, 5, none⟩) (by simp) _))⟩
  have HCB : Hk (CmB ((W0.setCell ⟨w.heap.size + 1, 4, none⟩ (.slice a m c)).setCell ⟨w.heap.size + 1, 5, none⟩ (.int .i64 t)).drew w.heap.size p s 2 n a m c t wd h x y) := ⟨⟨by go_simp, by go_simp, by go_simp, by go_simp, by go_simp, by go_simp, by go_simp, by go_simp, by go_simp, by go_simp, fun j => by have := CF.out j; go_simp⟩⟩
  have HXB : Hk (CmB ((W0.setCell ⟨w.heap.size + 1, 4, none⟩ (.slice a m c)).setCell ⟨w.heap.size + 1, 5, none⟩ (.int .i64 t)).drew (w.heap.size + 1) p s 2 0 a m c t 0 0 0 0) := ⟨⟨by go_simp, by go_simp, by go_simp, by go_simp, by go_simp, by go_simp, by go_simp, by go_simp, by go_simp, by go_simp, fun j => by have := XF.out j; go_simp⟩⟩
  have hy : w.heap.size < ((W0.setCell ⟨w.heap.size + 1, 4, none⟩ (.slice a m c)).setCell ⟨w.heap.size + 1, 5, none⟩ (.int .i64 t)).drew.heap.size := by simpa using hz
  have hy1 : w.heap.size + 1 < ((W0.setCell ⟨w.heap.size + 1, 4, none⟩ (.slice a m c)).setCell ⟨w.heap.size + 1, 5, none⟩ (.int .i64 t)).drew.heap.size := by simpa using hz1
  clear c0 c1 c2 c3 c4 c5 c6 c7 c8 c9 x0 x1 x2 x3 x4 x5 x6 x7 x8 x9 f4 f5 CF XF hz hz1 HW0
  generalize ((W0.setCell ⟨w.heap.size + 1, 4, none⟩ (.slice a m c)).setCell ⟨w.heap.size + 1, 5, none⟩ (.int .i64 t)).drew = W1 at *
  obtain ⟨c0, c1, c2, c3, c4, c5, c6, c7, c8, c9, -⟩ := HCB.out
  obtain ⟨x0, x1, x2, x3, x4, x5, x6, x7, x8, x9, -⟩ := HXB.out
  go_wp2
  go_ret
  exact ⟨rb R.out, HC.out⟩
 have E1 := Hk.mk e1
 have BB : Hk (baseB p s = true) := ⟨by simp at e1; unfold baseB; simp; omega⟩
 clear e1 g0 g1
 cases h0 : idsB u
 case false =>
  have R : Hk (false = r) := ⟨by rw [← E.out]; unfold refC; rw [BB.out]; simp [vB, h0]⟩
  have F0 := Hk.mk h0
  clear E h0
  go_enter Tryz.func95, Tryz.ntmps95
  go_wp2_with (go_at_call 29; (with_reducible refine (rnum22_as true s 1099511627776 _ E1).mono ?_); rintro e w' ⟨rfl, rfl⟩)
  obtain ⟨c0, c1, c2, c3, c4, c5, c6, c7, c8, c9, cf⟩ := (CmB.box w p s 2 n a m c t wd h x y).below ((Below.refl _ _).alloc (Nat.le_refl _) (.cells (jkC p s 2 0 none 0 0 0 0 0 0 0) 95)) (by simp)
  obtain ⟨x0, x1, x2, x3, x4, x5, x6, x7, x8, x9, xf⟩ := CmB.box (w.alloc (.cells (jkC p s 2 n a m c t wd h x y) 95)) p s 2 0 none 0 0 0 0 0 0 0
  rw [show (w.alloc (.cells (jkC p s 2 n a m c t wd h x y) 95)).heap.size = w.heap.size + 1 by simp] at *
  have f4 := xf 4
  have f5 := xf 5
  have hz : w.heap.size < ((w.alloc (.cells (jkC p s 2 n a m c t wd h x y) 95)).alloc (.cells (jkC p s 2 0 none 0 0 0 0 0 0 0) 95)).heap.size := by simp; omega
  have hz1 : w.heap.size + 1 < ((w.alloc (.cells (jkC p s 2 n a m c t wd h x y) 95)).alloc (.cells (jkC p s 2 0 none 0 0 0 0 0 0 0) 95)).heap.size := by simp
  have CF := Hk.mk cf
  have XF := Hk.mk xf
  clear cf xf
  generalize ((w.alloc (.cells (jkC p s 2 n a m c t wd h x y) 95)).alloc (.cells (jkC p s 2 0 none 0 0 0 0 0 0 0) 95)) = W0 at *
  go_region
  have HC : Hk (Below w.heap.size w ((W0.setCell ⟨w.heap.size + 1, 4, none⟩ (.slice a m c)).setCell ⟨w.heap.size + 1, 5, none⟩ (.int .i64 t)).drew) := ⟨Below.drew (((HW0.out.setCell (p := ⟨w.heap.size + 1, 4, none⟩) (by simp) _).setCell (p := ⟨w.heap.size + 1, 5, none⟩) (by simp) _))⟩
  have HCB : Hk (CmB ((W0.setCell ⟨w.heap.size + 1, 4, none⟩ (.slice a m c)).setCell ⟨w.heap.size + 1, 5, none⟩ (.int .i64 t)).drew w.heap.size p s 2 n a m c t wd h x y) := ⟨⟨by go_simp, by go_simp, by go_simp, by go_simp, by go_simp, by go_simp, by go_simp, by go_simp, by go_simp, by go_simp, fun j => by have := CF.out j; go_simp⟩⟩
  have HXB : Hk (CmB ((W0.setCell ⟨w.heap.size + 1, 4, none⟩ (.slice a m c)).setCell ⟨w.heap.size + 1, 5, none⟩ (.int .i64 t)).drew (w.heap.size + 1) p s 2 0 a m c t 0 0 0 0) := ⟨⟨by go_simp, by go_simp, by go_simp, by go_simp, by go_simp, by go_simp, by go_simp, by go_simp, by go_simp, by go_simp, fun j => by have := XF.out j; go_simp⟩⟩
  have hy : w.heap.size < ((W0.setCell ⟨w.heap.size + 1, 4, none⟩ (.slice a m c)).setCell ⟨w.heap.size + 1, 5, none⟩ (.int .i64 t)).drew.heap.size := by simpa using hz
  have hy1 : w.heap.size + 1 < ((W0.setCell ⟨w.heap.size + 1, 4, none⟩ (.slice a m c)).setCell ⟨w.heap.size + 1, 5, none⟩ (.int .i64 t)).drew.heap.size := by simpa using hz1
  clear c0 c1 c2 c3 c4 c5 c6 c7 c8 c9 x0 x1 x2 x3 x4 x5 x6 x7 x8 x9 f4 f5 CF XF hz hz1 HW0
  generalize ((W0.setCell ⟨w.heap.size + 1, 4, none⟩ (.slice a m c)).setCell ⟨w.heap.size + 1, 5, none⟩ (.int .i64 t)).drew = W1 at *
  obtain ⟨c0, c1, c2, c3, c4, c5, c6, c7, c8, c9, -⟩ := HCB.out
  obtain ⟨x0, x1, x2, x3, x4, x5, x6, x7, x8, x9, -⟩ := HXB.out
  go_wp2_with (first | (go_at_call 106; (with_reducible refine (rids_as false a m c u _ (HNA.out _ HC.out) hm F0).mono ?_); rintro e w' ⟨rfl, mm, rfl⟩; have HC := Hk.mk (below_drewN HC.out mm)))
  go_ret
  exact ⟨rb R.out, HC.out⟩
 have F0 := Hk.mk h0
 cases h1 : decide (0 ≤ t ∧ t ≤ 16383)
 case false =>
  have R : Hk (false = r) := ⟨by rw [← E.out]; unfold refC; rw [BB.out]; simp at h1; simp [vB]; intros; omega⟩
  have F1 := Hk.mk h1
  clear E h1
  go_enter Tryz.func95, Tryz.ntmps95
  go_wp2_with (go_at_call 29; (with_reducible refine (rnum22_as true s 1099511627776 _ E1).mono ?_); rintro e w' ⟨rfl, rfl⟩)
  obtain ⟨c0, c1, c2, c3, c4, c5, c6, c7, c8, c9, cf⟩ := (CmB.box w p s 2 n a m c t wd h x y).below ((Below.refl _ _).alloc (Nat.le_refl _) (.cells (jkC p s 2 0 none 0 0 0 0 0 0 0) 95)) (by simp)
  obtain ⟨x0, x1, x2, x3, x4, x5, x6, x7, x8, x9, xf⟩ := CmB.box (w.alloc (.cells (jkC p s 2 n a m c t wd h x y) 95)) p s 2 0 none 0 0 0 0 0 0 0
  rw [show (w.alloc (.cells (jkC p s 2 n a m c t wd h x y) 95)).heap.size = w.heap.size + 1 by simp] at *
  have f4 := xf 4
  have f5 := xf 5
  have hz : w.heap.size < ((w.alloc (.cells (jkC p s 2 n a m c t wd h x y) 95)).alloc (.cells (jkC p s 2 0 none 0 0 0 0 0 0 0) 95)).heap.size := by simp; omega
  have hz1 : w.heap.size + 1 < ((w.alloc (.cells (jkC p s 2 n a m c t wd h x y) 95)).alloc (.cells (jkC p s 2 0 none 0 0 0 0 0 0 0) 95)).heap.size := by simp
  have CF := Hk.mk cf
  have XF := Hk.mk xf
  clear cf xf
  generalize ((w.alloc (.cells (jkC p s 2 n a m c t wd h x y) 95)).alloc (.cells (jkC p s 2 0 none 0 0 0 0 0 0 0) 95)) = W0 at *
  go_region
  have HC : Hk (Below w.heap.size w ((W0.setCell ⟨w.heap.size + 1, 4, none⟩ (.slice a m c)).setCell ⟨w.heap.size + 1, 5, none⟩ (.int .i64 t)).drew) := ⟨Below.drew (((HW0.out.setCell (p := ⟨w.heap.size + 1, 4, none⟩) (by simp) _).setCell (p := ⟨w.heap.size + 1, 5, none⟩) (by simp) _))⟩
  have HCB : Hk (CmB ((W0.setCell ⟨w.heap.size + 1, 4, none⟩ (.slice a m c)).setCell ⟨w.heap.size + 1, 5, none⟩ (.int .i64 t)).drew w.heap.size p s 2 n a m c t wd h x y) := ⟨⟨by go_simp, by go_simp, by go_simp, by go_simp, by go_simp, by go_simp, by go_simp, by go_simp, by go_simp, by go_simp, fun j => by have := CF.out j; go_simp⟩⟩
  have HXB : Hk (CmB ((W0.setCell ⟨w.heap.size + 1, 4, none⟩ (.slice a m c)).setCell ⟨w.heap.size + 1, 5, none⟩ (.int .i64 t)).drew (w.heap.size + 1) p s 2 0 a m c t 0 0 0 0) := ⟨⟨by go_simp, by go_simp, by go_simp, by go_simp, by go_simp, by go_simp, by go_simp, by go_simp, by go_simp, by go_simp, fun j => by have := XF.out j; go_simp⟩⟩
  have hy : w.heap.size < ((W0.setCell ⟨w.heap.size + 1, 4, none⟩ (.slice a m c)).setCell ⟨w.heap.size + 1, 5, none⟩ (.int .i64 t)).drew.heap.size := by simpa using hz
  have hy1 : w.heap.size + 1 < ((W0.setCell ⟨w.heap.size + 1, 4, none⟩ (.slice a m c)).setCell ⟨w.heap.size + 1, 5, none⟩ (.int .i64 t)).drew.heap.size := by simpa using hz1
  clear c0 c1 c2 c3 c4 c5 c6 c7 c8 c9 x0 x1 x2 x3 x4 x5 x6 x7 x8 x9 f4 f5 CF XF hz hz1 HW0
  generalize ((W0.setCell ⟨w.heap.size + 1, 4, none⟩ (.slice a m c)).setCell ⟨w.heap.size + 1, 5, none⟩ (.int .i64 t)).drew = W1 at *
  obtain ⟨c0, c1, c2, c3, c4, c5, c6, c7, c8, c9, -⟩ := HCB.out
  obtain ⟨x0, x1, x2, x3, x4, x5, x6, x7, x8, x9, -⟩ := HXB.out
  go_wp2_with (first | (go_at_call 106; (with_reducible refine (rids_as true a m c u _ (HNA.out _ HC.out) hm F0).mono ?_); rintro e w' ⟨rfl, mm, rfl⟩; have HC := Hk.mk (below_drewN HC.out mm)) | (go_at_call 107; (with_reducible refine (rtile22_as false t _ F1).mono ?_); rintro e w' ⟨rfl, rfl⟩))
  go_ret
  exact ⟨rb R.out, HC.out⟩
 have F1 := Hk.mk h1
 have EE : Hk (eqcB p s 2 0 u t 0 0 0 0 p s 2 n u t wd h x y = r) := ⟨by
  rw [← E.out]; unfold refC eqcB; rw [BB.out, Bool.eq_iff_iff]
  simp at h1
  simp [vB, h0]
  first | done | grind | omega⟩
 clear E h0 h1
 go_enter Tryz.func95, Tryz.ntmps95
 go_wp2_with (go_at_call 29; (with_reducible refine (rnum22_as true s 1099511627776 _ E1).mono ?_); rintro e w' ⟨rfl, rfl⟩)
 obtain ⟨c0, c1, c2, c3, c4, c5, c6, c7, c8, c9, cf⟩ := (CmB.box w p s 2 n a m c t wd h x y).below ((Below.refl _ _).alloc (Nat.le_refl _) (.cells (jkC p s 2 0 none 0 0 0 0 0 0 0) 95)) (by simp)
 obtain ⟨x0, x1, x2, x3, x4, x5, x6, x7, x8, x9, xf⟩ := CmB.box (w.alloc (.cells (jkC p s 2 n a m c t wd h x y) 95)) p s 2 0 none 0 0 0 0 0 0 0
 rw [show (w.alloc (.cells (jkC p s 2 n a m c t wd h x y) 95)).heap.size = w.heap.size + 1 by simp] at *
 have f4 := xf 4
 have f5 := xf 5
 have hz : w.heap.size < ((w.alloc (.cells (jkC p s 2 n a m c t wd h x y) 95)).alloc (.cells (jkC p s 2 0 none 0 0 0 0 0 0 0) 95)).heap.size := by simp; omega
 have hz1 : w.heap.size + 1 < ((w.alloc (.cells (jkC p s 2 n a m c t wd h x y) 95)).alloc (.cells (jkC p s 2 0 none 0 0 0 0 0 0 0) 95)).heap.size := by simp
 have CF := Hk.mk cf
 have XF := Hk.mk xf
 clear cf xf
 generalize ((w.alloc (.cells (jkC p s 2 n a m c t wd h x y) 95)).alloc (.cells (jkC p s 2 0 none 0 0 0 0 0 0 0) 95)) = W0 at *
 go_region
 have HC : Hk (Below w.heap.size w ((W0.setCell ⟨w.heap.size + 1, 4, none⟩ (.slice a m c)).setCell ⟨w.heap.size + 1, 5, none⟩ (.int .i64 t)).drew) := ⟨Below.drew (((HW0.out.setCell (p := ⟨w.heap.size + 1, 4, none⟩) (by simp) _).setCell (p := ⟨w.heap.size + 1, 5, none⟩) (by simp) _))⟩
 have HCB : Hk (CmB ((W0.setCell ⟨w.heap.size + 1, 4, none⟩ (.slice a m c)).setCell ⟨w.heap.size + 1, 5, none⟩ (.int .i64 t)).drew w.heap.size p s 2 n a m c t wd h x y) := ⟨⟨by go_simp, by go_simp, by go_simp, by go_simp, by go_simp, by go_simp, by go_simp, by go_simp, by go_simp, by go_simp, fun j => by have := CF.out j; go_simp⟩⟩
 have HXB : Hk (CmB ((W0.setCell ⟨w.heap.size + 1, 4, none⟩ (.slice a m c)).setCell ⟨w.heap.size + 1, 5, none⟩ (.int .i64 t)).drew (w.heap.size + 1) p s 2 0 a m c t 0 0 0 0) := ⟨⟨by go_simp, by go_simp, by go_simp, by go_simp, by go_simp, by go_simp, by go_simp, by go_simp, by go_simp, by go_simp, fun j => by have := XF.out j; go_simp⟩⟩
 have hy : w.heap.size < ((W0.setCell ⟨w.heap.size + 1, 4, none⟩ (.slice a m c)).setCell ⟨w.heap.size + 1, 5, none⟩ (.int .i64 t)).drew.heap.size := by simpa using hz
 have hy1 : w.heap.size + 1 < ((W0.setCell ⟨w.heap.size + 1, 4, none⟩ (.slice a m c)).setCell ⟨w.heap.size + 1, 5, none⟩ (.int .i64 t)).drew.heap.size := by simpa using hz1
 clear c0 c1 c2 c3 c4 c5 c6 c7 c8 c9 x0 x1 x2 x3 x4 x5 x6 x7 x8 x9 f4 f5 CF XF hz hz1 HW0
 generalize ((W0.setCell ⟨w.heap.size + 1, 4, none⟩ (.slice a m c)).setCell ⟨w.heap.size + 1, 5, none⟩ (.int .i64 t)).drew = W1 at *
 obtain ⟨c0, c1, c2, c3, c4, c5, c6, c7, c8, c9, -⟩ := HCB.out
 obtain ⟨x0, x1, x2, x3, x4, x5, x6, x7, x8, x9, -⟩ := HXB.out
 go_wp2_with (first | (go_at_call 106; (with_reducible refine (rids_as true a m c u _ (HNA.out _ HC.out) hm F0).mono ?_); rintro e w' ⟨rfl, mm, rfl⟩; have HC := Hk.mk (below_drewN HC.out mm)) | (go_at_call 107; (with_reducible refine (rtile22_as true t _ F1).mono ?_); rintro e w' ⟨rfl, rfl⟩) | (go_at_call 78; (with_reducible refine (eqc_as r p s 2 0 a m c u t 0 0 0 0 p s 2 n a m c u t wd h x y _ (HNA.out _ HC.out) hm (HNA.out _ HC.out) hm EE).mono ?_); rintro e w9 ⟨rfl, hb9⟩; have HC := Hk.mk (HC.out.trans (hb9.mono HC.out.size)); clear hb9))
 go_ret
 exact ⟨rfl, HC.out⟩
end Go.Proofs.YtdpblimhfmfbnaaGreat
