/- Layer 8: whether the ground under a building is firm. -/
import Derived.Test.YtjjodfdmbiebnaaDoorBud
import Derived.Shelf.Abstract
import Derived.Deep.QuietTactic
import Derived.BigQuiet
import Derived.Deep.RegionWith
import Derived.Deep.RegionHeld3
import Derived.Deep.DeepCutAuto
import Derived.Deep.DeepFit
import Derived.Outline
namespace Go.Proofs.YtjjodfdmbiebnaaDoor
open Go.RowKit
set_option linter.unusedVariables false
theorem firm1_as (r : Bool) (t : Int) (P : Nat) (a : Option Addr) (n c B : Nat) (xs : List Int) (w : World) (h : By w B a n xs) (hn : n ≤ 20000) (d2 : w.cell? ⟨P, 2, none⟩ = some (.slice a n c)) (t0 : 0 ≤ t) (t1 : t < n) (E : Hk (decide (1 < xs.getD t.toNat 0) = r)) :
    Calls Tryd.prog 83 #[.int .i64 t, .pointer (some ⟨P, 0, none⟩)] w fun e w' => e = .returned (.bool r) ∧ w = w' := by
  obtain ⟨k, rfl⟩ : ∃ k : Nat, t = k := ⟨t.toNat, by omega⟩
  have hk : k < n := by omega
  obtain ⟨b, off, rfl, hbl, hc⟩ := h.at_ (by omega)
  have hcx := hc k hk
  have hx := h.bd hk
  have hE := E.out
  simp only [Int.toNat_natCast] at hE
  obtain ⟨x, e⟩ : ∃ x, xs.getD k 0 = x := ⟨_, rfl⟩
  rw [e] at hcx hx
  simp only [e] at hE
  have HE := Hk.mk hE
  clear hc h e hE
  go_enter Tryd.func83, Tryd.ntmps83
  go_wp2
  go_ret
  exact ⟨rbo HE.out, rfl⟩
theorem firm1_any (t : Int) (P : Nat) (a : Option Addr) (n c B : Nat) (xs : List Int) (w : World) (h : By w B a n xs) (hn : n ≤ 20000) (d2 : w.cell? ⟨P, 2, none⟩ = some (.slice a n c)) (t0 : 0 ≤ t) (t1 : t < n) :
    Calls Tryd.prog 83 #[.int .i64 t, .pointer (some ⟨P, 0, none⟩)] w fun e w' => e = .returned (.bool (decide (1 < xs.getD t.toNat 0))) ∧ w = w' := firm1_as _ t P a n c B xs w h hn d2 t0 t1 ⟨rfl⟩
theorem frB_any (W : Int) (xs : List Int) (b : Bd) : (undL W b).any (fun t => decide (1 < xs.getD t.toNat 0)) = !(frB W xs b) := by
  unfold frB
  rw [List.not_all_eq_any_not]
  congr 1
  funext t
  rw [← decide_not]
  congr 1
  exact propext ⟨by omega, by omega⟩
theorem n16_of {b : Bd} (f : FmOk b) : b.w.toNat * b.h.toNat ≤ 16 := by
  have := Nat.mul_le_mul (show b.w.toNat ≤ 4 by have := f.w2; omega) (show b.h.toNat ≤ 4 by have := f.h2; omega)
  omega
set_option maxRecDepth 100000 in
theorem firm_any (W H : Int) (a : Option Addr) (n c B : Nat) (xs : List Int) (b : Bd) (w : World) (h : By w B a n xs) (hB : B ≤ w.heap.size) (g : GOk W H n xs) (f : FmOk b) (i : InOk W H b) :
    Calls Tryd.prog 76 #[.agg #[.int .i64 W, .int .i64 H, .slice a n c], .agg #[.int .i64 b.i, .int .i64 b.o, .int .i64 b.x, .int .i64 b.y, .int .i64 b.w, .int .i64 b.h]] w fun e w' => e = .returned (.bool (frB W xs b)) ∧ Below w.heap.size w w' := by
  have eg : ∀ args w, (callFunc 83 args).run Tryd.prog w = .ok (.enter 83 args) w := enters_of Tryd.func83 (by kernel_rfl) rfl
  obtain ⟨m1, m2⟩ := mul_bd g.w1 g.w2 g.h1 g.h2
  have hn : n ≤ 16384 := by have := g.nn; omega
  have w1 := g.w1; have w2 := g.w2; have h1 := g.h1; have h2 := g.h2
  have hnn := Hk.mk g.nn
  have FF := Hk.mk f
  have II := Hk.mk i
  have EG := Hk.mk eg
  have n16 := n16_of f
  have HWB : Hk (Below w.heap.size w ((w.alloc (.cells #[.int .i64 W, .int .i64 H, .slice a n c] 24)).alloc (.cells #[.int .i64 b.i, .int .i64 b.o, .int .i64 b.x, .int .i64 b.y, .int .i64 b.w, .int .i64 b.h] 96))) := ⟨((Below.refl _ _).alloc (Nat.le_refl _) _).alloc (by simp) _⟩
  have hNW : w.heap.size + 2 ≤ ((w.alloc (.cells #[.int .i64 W, .int .i64 H, .slice a n c] 24)).alloc (.cells #[.int .i64 b.i, .int .i64 b.o, .int .i64 b.x, .int .i64 b.y, .int .i64 b.w, .int .i64 b.h] 96)).heap.size := by simp
  have HB : Hk (Below (w.heap.size + 2) ((w.alloc (.cells #[.int .i64 W, .int .i64 H, .slice a n c] 24)).alloc (.cells #[.int .i64 b.i, .int .i64 b.o, .int .i64 b.x, .int .i64 b.y, .int .i64 b.w, .int .i64 b.h] 96)) ((w.alloc (.cells #[.int .i64 W, .int .i64 H, .slice a n c] 24)).alloc (.cells #[.int .i64 b.i, .int .i64 b.o, .int .i64 b.x, .int .i64 b.y, .int .i64 b.w, .int .i64 b.h] 96))) := ⟨Below.refl _ _⟩
  have HBY := Hk.mk (fun (X : World) (hX : Below (w.heap.size + 2) ((w.alloc (.cells #[.int .i64 W, .int .i64 H, .slice a n c] 24)).alloc (.cells #[.int .i64 b.i, .int .i64 b.o, .int .i64 b.x, .int .i64 b.y, .int .i64 b.w, .int .i64 b.h] 96)) X) => h.below (HWB.out.trans (hX.mono (by omega))) hB)
  have HD : Hk (∀ X, Below (w.heap.size + 2) ((w.alloc (.cells #[.int .i64 W, .int .i64 H, .slice a n c] 24)).alloc (.cells #[.int .i64 b.i, .int .i64 b.o, .int .i64 b.x, .int .i64 b.y, .int .i64 b.w, .int .i64 b.h] 96)) X → X.cell? ⟨w.heap.size, 2, none⟩ = some (.slice a n c)) := ⟨fun X hX => (hX.cell (p := ⟨w.heap.size, 2, none⟩) (by show w.heap.size < _; omega)).trans (by go_simp)⟩
  clear h g f i eg
  obtain ⟨r, hr⟩ : ∃ r, frB W xs b = r := ⟨_, rfl⟩
  have ER : Hk ((undL W b).any (fun t => decide (1 < xs.getD t.toNat 0)) = !r) := ⟨by rw [frB_any, hr]⟩
  rw [hr]
  clear hr
  go_enter Tryd.func76, Tryd.ntmps76
  go_wp2_with (first | (go_at_call 77; (with_reducible refine (under_any W H a n c b _ w1 w2 h1 h2 FF.out II.out).mono ?_); rintro e z1 ⟨gg, rfl, hg1, hnq, hg2, hb⟩; replace HB := Hk.mk (kw_step HB.out hNW hb); have HNQ := Hk.mk hnq; have HG2 := Hk.mk hg2; obtain ⟨hc, hf, hl, hn', hm⟩ := kw_rules HB.out hNW; clear hb hnq) | (go_at_call 82; (with_reducible refine (contf_as (!r) 83 #[.pointer (some ⟨w.heap.size, 0, none⟩)] EG.out (fun t => decide (1 < xs.getD t.toNat 0)) (some ⟨gg, 0, none⟩) (b.w.toNat * b.h.toNat) (b.w.toNat * b.h.toNat) (gg + 1) (undL W b) _ HNQ.out (Nat.succ_le_of_lt HG2.out) (by omega) ?_ ER).mono ?_); (intro X hX k hk; have hX' := HB.out.trans (hX.mono (kw_size HB.out hNW)); have hu := und_md FF.out II.out hk; rw [undL_getD W b k hk]; exact (firm1_any (undAt W b k) w.heap.size a n c B xs X (HBY.out X hX') (by omega) (HD.out X hX') hu.2.2.1 (by have := hnn.out; omega)).mono (fun e w' h => ⟨h.1, h.2 ▸ Below.refl _ _⟩)); rintro e z2 ⟨rfl, hb⟩; replace HB := Hk.mk (kw_step HB.out hNW hb); clear hb))
  go_ret
  exact ⟨rbo (by simp), HWB.out.trans (HB.out.mono (by omega))⟩
end Go.Proofs.YtjjodfdmbiebnaaDoor
