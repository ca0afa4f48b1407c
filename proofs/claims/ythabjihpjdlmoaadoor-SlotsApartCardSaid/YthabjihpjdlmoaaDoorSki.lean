import Derived.Deep.QuietTactic
import Derived.BigQuiet
import Derived.Deep.RegionWith
import Derived.Deep.RegionHeld3
import Derived.Deep.DeepCutAuto
import Derived.Deep.DeepFit
import Derived.Outline
import Derived.Test.YthabjihpjdlmoaaDoorSkh
import Derived.Test.YthabjihpjdlmoaaDoorSkf
import Derived.Test.YthabjihpjdlmoaaDoorSkb
import Derived.Test.YthabjihpjdlmoaaDoorSkd
/- Layer 13: the steps from a tile. -/
namespace Go.Proofs.YthabjihpjdlmoaaDoor
open Go.ChangeShapes Go.WideShapes Go.ChangeAt Go.RowKit Go.Deep
set_option linter.unusedVariables false
set_option linter.unusedSimpArgs false
/-- What the step costs; 0: there is none. -/
def tD (W H : Int) (gd : Nat → Bool) (kc : Nat → Int) (t i : Nat) : Int := if stOk W H gd t i then tC W H kc t i else 0
/-- A map's sides. -/
structure Dm (W H : Int) (n : Nat) : Prop where
  w1 : 1 ≤ W
  w2 : W ≤ 128
  h1 : 1 ≤ H
  h2 : H ≤ 128
  nn : (n : Int) = W * H
  n16 : n ≤ 16384
theorem z16_at : ∀ k, k < 16 → (#[.int .i64 0, .int .i64 0, .int .i64 0, .int .i64 0, .int .i64 0, .int .i64 0, .int .i64 0, .int .i64 0, .int .i64 0, .int .i64 0, .int .i64 0, .int .i64 0, .int .i64 0, .int .i64 0, .int .i64 0, .int .i64 0] : Array Value)[k]? = some (.int .i64 0) := fun k hk => by
  match k, hk with
  | 0, _ | 1, _ | 2, _ | 3, _ | 4, _ | 5, _ | 6, _ | 7, _ | 8, _ | 9, _ | 10, _ | 11, _ | 12, _ | 13, _ | 14, _ | 15, _ => rfl
  | k + 16, hk => exact absurd hk (by omega)
/-- The cells of the steps, k of them reckoned. -/
def sF (T C : Nat → Int) (k j : Nat) : Value := .int .i64 (if j / 2 < k then (if j % 2 = 0 then T (j / 2) else C (j / 2)) else 0)
theorem sF_zero (T C : Nat → Int) (j : Nat) : sF T C 0 j = .int .i64 0 := by unfold sF; rw [if_neg (by omega)]
theorem sF_next {T C : Nat → Int} {k : Nat} {x y : Int} (hx : T k = x) (hy : C k = y) (j : Nat) : sF T C (k + 1) j = (if j = k * 2 + 1 then .int .i64 y else if j = k * 2 then .int .i64 x else sF T C k j) := by
  by_cases e1 : j = k * 2 + 1
  · rw [if_pos e1]
    unfold sF
    rw [show j / 2 = k by omega, if_pos (by omega), if_neg (by omega), hy]
  · rw [if_neg e1]
    by_cases e2 : j = k * 2
    · rw [if_pos e2]
      unfold sF
      rw [show j / 2 = k by omega, if_pos (by omega), if_pos (by omega), hx]
    · rw [if_neg e2]
      unfold sF
      by_cases e3 : j / 2 < k
      · rw [if_pos e3, if_pos (by omega)]
      · rw [if_neg e3, if_neg (by omega)]
theorem sF_none {T C : Nat → Int} {k : Nat} (hx : T k = -1) (hy : C k = 0) (j : Nat) : sF T C (k + 1) j = (if j = k * 2 then .int .i64 (-1) else sF T C k j) := by
  rw [sF_next hx hy]
  by_cases e1 : j = k * 2 + 1
  · rw [if_pos e1, if_neg (by omega)]
    unfold sF
    rw [if_neg (by omega)]
  · rw [if_neg e1]
theorem nb_side {W H : Int} {t k : Nat} (hW : 1 ≤ W) (ht : (t : Int) < W * H) (h4 : 4 ≤ k) (h8 : k < 8) (h : 0 ≤ nb W H t k) : (0 ≤ nb W H t (k - 4) ∧ nb W H t (k - 4) < W * H) ∧ 0 ≤ nb W H t ((k - 3) % 4) ∧ nb W H t ((k - 3) % 4) < W * H := by
  obtain ⟨⟨a, b, c, d⟩, _, _, _⟩ := nbS_inv hW (show nbS W H t (dxL.getD k 0) (dyL.getD k 0) = nb W H t k from rfl) h
  have m0 := Int.emod_nonneg (t : Int) (show W ≠ 0 by omega)
  have m1 := Int.emod_lt_of_pos (t : Int) (show 0 < W by omega)
  have d0 : 0 ≤ (t : Int) / W := Int.ediv_nonneg (by omega) (by omega)
  have d1 : (t : Int) / W < H := Int.ediv_lt_of_lt_mul (by omega) (by rw [Int.mul_comm]; omega)
  have e1 : 0 ≤ nbS W H t (dxL.getD k 0) 0 ∧ nbS W H t (dxL.getD k 0) 0 < W * H := by
    have q : 0 ≤ nbS W H t (dxL.getD k 0) 0 := by
      rw [nbS_yes (by omega) (by omega) (by omega) (by omega)]
      have : 0 ≤ W * ((t : Int) / W + 0) := Int.mul_nonneg (by omega) (by omega)
      omega
    exact ⟨q, (nbS_inv hW rfl q).2.2.2⟩
  have e2 : 0 ≤ nbS W H t 0 (dyL.getD k 0) ∧ nbS W H t 0 (dyL.getD k 0) < W * H := by
    have q : 0 ≤ nbS W H t 0 (dyL.getD k 0) := by
      rw [nbS_yes (by omega) (by omega) (by omega) (by omega)]
      have : 0 ≤ W * ((t : Int) / W + dyL.getD k 0) := Int.mul_nonneg (by omega) (by omega)
      omega
    exact ⟨q, (nbS_inv hW rfl q).2.2.2⟩
  rcases sides_of (W := W) (H := H) (t := (t : Int)) h4 h8 with ⟨q1, q2⟩ | ⟨q1, q2⟩ <;> rw [q1, q2]
  · exact ⟨e1, e2⟩
  · exact ⟨e2, e1⟩
theorem sd_at {j : Nat} (hj : j < 4) : ∃ p q : Nat, sdL.getD (j * 2) 0 = (p : Int) ∧ sdL.getD (j * 2 + 1) 0 = (q : Int) ∧ p < 4 ∧ q < 4 ∧ ((p = j ∧ q = (j + 1) % 4) ∨ (q = j ∧ p = (j + 1) % 4)) := by
  match j, hj with
  | 0, _ => exact ⟨0, 1, rfl, rfl, by omega, by omega, by omega⟩
  | 1, _ => exact ⟨2, 1, rfl, rfl, by omega, by omega, by omega⟩
  | 2, _ => exact ⟨2, 3, rfl, rfl, by omega, by omega, by omega⟩
  | 3, _ => exact ⟨0, 3, rfl, rfl, by omega, by omega, by omega⟩
theorem n8_at (N : Nat → Int) : ∀ k, k < 8 → (#[.int .i64 (N 0), .int .i64 (N 1), .int .i64 (N 2), .int .i64 (N 3), .int .i64 (N 4), .int .i64 (N 5), .int .i64 (N 6), .int .i64 (N 7)] : Array Value)[k]? = some (.int .i64 (N k)) := fun k hk => by
  match k, hk with
  | 0, _ | 1, _ | 2, _ | 3, _ | 4, _ | 5, _ | 6, _ | 7, _ => rfl
  | k + 8, hk => exact absurd hk (by omega)
set_option maxRecDepth 100000 in
theorem idx8_any (N : Nat → Int) (k : Nat) (hk : k < 8) : ∀ w, (Instr.index 88 (.agg #[.int .i64 (N 0), .int .i64 (N 1), .int .i64 (N 2), .int .i64 (N 3), .int .i64 (N 4), .int .i64 (N 5), .int .i64 (N 6), .int .i64 (N 7)]) (.int .i64 k)).run Tryd.prog w = .ok (.int .i64 (N k)) w := by
  match k, hk with
  | 0, _ => exact fun w => by kernel_rfl
  | 1, _ => exact fun w => by kernel_rfl
  | 2, _ => exact fun w => by kernel_rfl
  | 3, _ => exact fun w => by kernel_rfl
  | 4, _ => exact fun w => by kernel_rfl
  | 5, _ => exact fun w => by kernel_rfl
  | 6, _ => exact fun w => by kernel_rfl
  | 7, _ => exact fun w => by kernel_rfl
set_option maxRecDepth 100000 in
set_option maxHeartbeats 1600000 in
theorem from_any (W H : Int) (n I K : Nat) (gd : Nat → Bool) (kc : Nat → Int) (t : Nat) (w : World) (hL : LF w) (hA : Arr w I n 4 (fun k => .bool (gd k))) (hK : Arr w K n 3 (fun k => .int .i64 (kc k))) (D : Dm W H n) (ht : t < n) (hk : Hk (∀ k, 0 ≤ kc k ∧ kc k ≤ 6)) :
    Calls Tryd.prog 82 #[.agg #[.int .i64 W, .int .i64 H, .slice (some ⟨I, 0, none⟩) n n, .slice (some ⟨K, 0, none⟩) n n], .int .i64 t] w fun e w' => e = .returned (.agg #[.int .i64 (tT W H gd t 0), .int .i64 (tD W H gd kc t 0), .int .i64 (tT W H gd t 1), .int .i64 (tD W H gd kc t 1), .int .i64 (tT W H gd t 2), .int .i64 (tD W H gd kc t 2), .int .i64 (tT W H gd t 3), .int .i64 (tD W H gd kc t 3), .int .i64 (tT W H gd t 4), .int .i64 (tD W H gd kc t 4), .int .i64 (tT W H gd t 5), .int .i64 (tD W H gd kc t 5), .int .i64 (tT W H gd t 6), .int .i64 (tD W H gd kc t 6), .int .i64 (tT W H gd t 7), .int .i64 (tD W H gd kc t 7)]) ∧ Below w.heap.size w w' := by
  have HWB : Hk (Below w.heap.size w (w.alloc (.cells #[.int .i64 W, .int .i64 H, .slice (some ⟨I, 0, none⟩) n n, .slice (some ⟨K, 0, none⟩) n n] 82))) := ⟨(Below.refl _ _).alloc (Nat.le_refl _) _⟩
  have hNW : w.heap.size + 1 ≤ (w.alloc (.cells #[.int .i64 W, .int .i64 H, .slice (some ⟨I, 0, none⟩) n n, .slice (some ⟨K, 0, none⟩) n n] 82)).heap.size := by simp
  have HB : Hk (Below (w.heap.size + 1) (w.alloc (.cells #[.int .i64 W, .int .i64 H, .slice (some ⟨I, 0, none⟩) n n, .slice (some ⟨K, 0, none⟩) n n] 82)) (((w.alloc (.cells #[.int .i64 W, .int .i64 H, .slice (some ⟨I, 0, none⟩) n n, .slice (some ⟨K, 0, none⟩) n n] 82)).alloc (.cells #[.int .i64 0, .int .i64 0, .int .i64 0, .int .i64 0, .int .i64 0, .int .i64 0, .int .i64 0, .int .i64 0, .int .i64 0, .int .i64 0, .int .i64 0, .int .i64 0, .int .i64 0, .int .i64 0, .int .i64 0, .int .i64 0] 113)).alloc (.cells #[.int .i64 0, .int .i64 0, .int .i64 0, .int .i64 0, .int .i64 0, .int .i64 0, .int .i64 0, .int .i64 0, .int .i64 0, .int .i64 0, .int .i64 0, .int .i64 0, .int .i64 0, .int .i64 0, .int .i64 0, .int .i64 0] 113))) := ⟨((Below.refl _ _).alloc (by simp) _).alloc (by simp) _⟩
  have HTR : Hk (∀ X, Below (w.heap.size + 1) (w.alloc (.cells #[.int .i64 W, .int .i64 H, .slice (some ⟨I, 0, none⟩) n n, .slice (some ⟨K, 0, none⟩) n n] 82)) X → Below w.heap.size w X) := ⟨fun X hX => HWB.out.trans (hX.mono (by omega))⟩
  have HLL := Hk.mk (fun (X : World) (hX : Below (w.heap.size + 1) (w.alloc (.cells #[.int .i64 W, .int .i64 H, .slice (some ⟨I, 0, none⟩) n n, .slice (some ⟨K, 0, none⟩) n n] 82)) X) => hL.below (HTR.out X hX) (Nat.le_refl _))
  have HAI := Hk.mk (fun (X : World) (hX : Below (w.heap.size + 1) (w.alloc (.cells #[.int .i64 W, .int .i64 H, .slice (some ⟨I, 0, none⟩) n n, .slice (some ⟨K, 0, none⟩) n n] 82)) X) => hA.later (HTR.out X hX))
  have HAK := Hk.mk (fun (X : World) (hX : Below (w.heap.size + 1) (w.alloc (.cells #[.int .i64 W, .int .i64 H, .slice (some ⟨I, 0, none⟩) n n, .slice (some ⟨K, 0, none⟩) n n] 82)) X) => hK.later (HTR.out X hX))
  have hI := hA.lt
  have hKl := hK.lt
  have HRB : Hk (Arr (((w.alloc (.cells #[.int .i64 W, .int .i64 H, .slice (some ⟨I, 0, none⟩) n n, .slice (some ⟨K, 0, none⟩) n n] 82)).alloc (.cells #[.int .i64 0, .int .i64 0, .int .i64 0, .int .i64 0, .int .i64 0, .int .i64 0, .int .i64 0, .int .i64 0, .int .i64 0, .int .i64 0, .int .i64 0, .int .i64 0, .int .i64 0, .int .i64 0, .int .i64 0, .int .i64 0] 113)).alloc (.cells #[.int .i64 0, .int .i64 0, .int .i64 0, .int .i64 0, .int .i64 0, .int .i64 0, .int .i64 0, .int .i64 0, .int .i64 0, .int .i64 0, .int .i64 0, .int .i64 0, .int .i64 0, .int .i64 0, .int .i64 0, .int .i64 0] 113)) (w.alloc (.cells #[.int .i64 W, .int .i64 H, .slice (some ⟨I, 0, none⟩) n n, .slice (some ⟨K, 0, none⟩) n n] 82)).heap.size 16 113 (fun j => .int .i64 0)) := ⟨(Arr.new _ _ _ _ 16 rfl z16_at).alloc _⟩
  have HS : Hk (Arr (((w.alloc (.cells #[.int .i64 W, .int .i64 H, .slice (some ⟨I, 0, none⟩) n n, .slice (some ⟨K, 0, none⟩) n n] 82)).alloc (.cells #[.int .i64 0, .int .i64 0, .int .i64 0, .int .i64 0, .int .i64 0, .int .i64 0, .int .i64 0, .int .i64 0, .int .i64 0, .int .i64 0, .int .i64 0, .int .i64 0, .int .i64 0, .int .i64 0, .int .i64 0, .int .i64 0] 113)).alloc (.cells #[.int .i64 0, .int .i64 0, .int .i64 0, .int .i64 0, .int .i64 0, .int .i64 0, .int .i64 0, .int .i64 0, .int .i64 0, .int .i64 0, .int .i64 0, .int .i64 0, .int .i64 0, .int .i64 0, .int .i64 0, .int .i64 0] 113)) ((w.alloc (.cells #[.int .i64 W, .int .i64 H, .slice (some ⟨I, 0, none⟩) n n, .slice (some ⟨K, 0, none⟩) n n] 82)).alloc (.cells #[.int .i64 0, .int .i64 0, .int .i64 0, .int .i64 0, .int .i64 0, .int .i64 0, .int .i64 0, .int .i64 0, .int .i64 0, .int .i64 0, .int .i64 0, .int .i64 0, .int .i64 0, .int .i64 0, .int .i64 0, .int .i64 0] 113)).heap.size 16 113 (fun j => .int .i64 0)) := ⟨Arr.new _ _ _ _ 16 rfl z16_at⟩
  obtain ⟨w1, w2, h1, h2, nn, n16⟩ := D
  have HA := Hk.mk hA
  have HK := Hk.mk hK
  have HLW := Hk.mk hL.ls
  have hsz := hL.ls.size
  clear hL hA hK
  have HSZ : Hk ((((w.alloc (.cells #[.int .i64 W, .int .i64 H, .slice (some ⟨I, 0, none⟩) n n, .slice (some ⟨K, 0, none⟩) n n] 82)).alloc (.cells #[.int .i64 0, .int .i64 0, .int .i64 0, .int .i64 0, .int .i64 0, .int .i64 0, .int .i64 0, .int .i64 0, .int .i64 0, .int .i64 0, .int .i64 0, .int .i64 0, .int .i64 0, .int .i64 0, .int .i64 0, .int .i64 0] 113)).alloc (.cells #[.int .i64 0, .int .i64 0, .int .i64 0, .int .i64 0, .int .i64 0, .int .i64 0, .int .i64 0, .int .i64 0, .int .i64 0, .int .i64 0, .int .i64 0, .int .i64 0, .int .i64 0, .int .i64 0, .int .i64 0, .int .i64 0] 113)).heap.size = w.heap.size + 3) := ⟨by simp⟩
  obtain ⟨hc, hf, hl, hn', hm⟩ := kw_rules HB.out hNW
  go_enter Tryd.func82, Tryd.ntmps82
  go_wp2_with (go_at_call 110; (with_reducible refine (tnear_any W H t _ ?_ w1 w2 h1 h2 (by omega) (by omega)).mono ?_); (exact (HLL.out _ HB.out).lt); rintro e z ⟨rfl, hb⟩; replace HS := Hk.mk (HS.out.later hb); replace HRB := Hk.mk (HRB.out.later hb); replace HSZ : Hk (w.heap.size + 3 ≤ z.heap.size) := ⟨by have := HSZ.out; have := hb.size; omega⟩; replace HB := Hk.mk (kw_step HB.out hNW hb); clear hb; clear hc hf hl hn' hm; obtain ⟨hc, hf, hl, hn', hm⟩ := kw_rules HB.out hNW)
  have HN : Hk (Arr _ _ 8 88 (fun j => .int .i64 (nb W H t j))) := ⟨Arr.new z _ 88 _ 8 rfl (n8_at (nb W H t))⟩
  replace HS := Hk.mk (HS.out.alloc (.cells #[.int .i64 (nb W H t 0), .int .i64 (nb W H t 1), .int .i64 (nb W H t 2), .int .i64 (nb W H t 3), .int .i64 (nb W H t 4), .int .i64 (nb W H t 5), .int .i64 (nb W H t 6), .int .i64 (nb W H t 7)] 88))
  replace HRB := Hk.mk (HRB.out.alloc (.cells #[.int .i64 (nb W H t 0), .int .i64 (nb W H t 1), .int .i64 (nb W H t 2), .int .i64 (nb W H t 3), .int .i64 (nb W H t 4), .int .i64 (nb W H t 5), .int .i64 (nb W H t 6), .int .i64 (nb W H t 7)] 88))
  have HZS : Hk (w.heap.size + 3 ≤ z.heap.size) := ⟨by have := HSZ.out; omega⟩
  replace HB := Hk.mk (kw_al HB.out hNW (.cells #[.int .i64 (nb W H t 0), .int .i64 (nb W H t 1), .int .i64 (nb W H t 2), .int .i64 (nb W H t 3), .int .i64 (nb W H t 4), .int .i64 (nb W H t 5), .int .i64 (nb W H t 6), .int .i64 (nb W H t 7)] 88))
  clear hc hf hl hn' hm
  have hWLs : (w.alloc (.cells #[.int .i64 W, .int .i64 H, .slice (some ⟨I, 0, none⟩) n n, .slice (some ⟨K, 0, none⟩) n n] 82)).heap.size = w.heap.size + 1 := by simp
  have hWRs : ((w.alloc (.cells #[.int .i64 W, .int .i64 H, .slice (some ⟨I, 0, none⟩) n n, .slice (some ⟨K, 0, none⟩) n n] 82)).alloc (.cells #[.int .i64 0, .int .i64 0, .int .i64 0, .int .i64 0, .int .i64 0, .int .i64 0, .int .i64 0, .int .i64 0, .int .i64 0, .int .i64 0, .int .i64 0, .int .i64 0, .int .i64 0, .int .i64 0, .int .i64 0, .int .i64 0] 113)).heap.size = w.heap.size + 2 := by simp
  rw [hWLs] at HRB
  rw [hWRs] at HS
  clear hWLs hWRs HSZ
  have n1 : w.heap.size + 1 + 1 = w.heap.size + 2 := rfl
  rw [n1]
  clear n1
  generalize z.heap.size = NE at *
  generalize z.alloc _ = W1 at *
  have HNB : Hk (∀ j, j < 8 → 0 ≤ nb W H t j → nb W H t j < (n : Int)) := ⟨fun j _ h => by rw [nn]; exact nb_lt w1 rfl h⟩
  have HSB : Hk (∀ k, 4 ≤ k → k < 8 → 0 ≤ nb W H t k → (0 ≤ nb W H t (k - 4) ∧ nb W H t (k - 4) < (n : Int)) ∧ 0 ≤ nb W H t ((k - 3) % 4) ∧ nb W H t ((k - 3) % 4) < (n : Int)) := ⟨fun k h4 h8 h => by rw [nn]; exact nb_side w1 (by omega) h4 h8 h⟩
  have HST : Hk (∀ k, stOk W H gd t k ↔ (0 ≤ nb W H t k ∧ gd t = true ∧ gd (nb W H t k).toNat = true ∧ (4 ≤ k → gd (nb W H t (k - 4)).toNat = true ∧ gd (nb W H t ((k - 3) % 4)).toNat = true))) := ⟨fun k => Iff.rfl⟩
  have HTT : Hk (∀ k, (stOk W H gd t k → tT W H gd t k = nb W H t k ∧ tD W H gd kc t k = (if k < 4 then 5 else 7) * (kc t + kc (nb W H t k).toNat)) ∧ (¬ stOk W H gd t k → tT W H gd t k = -1 ∧ tD W H gd kc t k = 0)) := ⟨fun k => ⟨fun h => ⟨tT_yes h, if_pos h⟩, fun h => ⟨tT_no h, if_neg h⟩⟩⟩
  generalize nb W H t = N at *
  generalize stOk W H gd t = OK at *
  generalize hT : tT W H gd t = T at *
  generalize hD : tD W H gd kc t = D at *
  have HTD := Hk.mk (And.intro hT hD)
  clear hT hD nn w1 w2 h1 h2
  go_loopw [18] (fun i wr => ∃ k : Nat, i = .int .i64 k ∧ k ≤ 8 ∧ Hk (Below (w.heap.size + 1) (w.alloc (.cells #[.int .i64 W, .int .i64 H, .slice (some ⟨I, 0, none⟩) n n, .slice (some ⟨K, 0, none⟩) n n] 82)) wr) ∧ Hk (Arr wr (w.heap.size + 2) 16 113 (sF T D k)) ∧ Hk (Arr wr (w.heap.size + 1) 16 113 (fun _ => .int .i64 0)) ∧ Hk (Arr wr NE 8 88 (fun j => .int .i64 (N j)))) (fun i _ => 8 - (intOf i).toNat)
  case atStart => exact ⟨0, rfl, by omega, HB, ⟨HS.out.congr fun j _ => sF_zero _ _ _⟩, HRB, HN⟩
  case round =>
    clear HB HS HRB HN
    obtain ⟨k, rfl, hk8, HB, HS, HRB, HN⟩ := hrel
    obtain ⟨hc, hf, hl, hn', hm⟩ := kw_rules HB.out hNW
    by_cases hlt : k < 8
    · have ix := idx8_any N k hlt
      have k0 : (0 : Int) ≤ (k : Int) := by omega
      have k1 : (k : Int) < 8 := by omega
      have c0 := HS.out.cell (k := k * 2) (by omega)
      have f0 := HS.out.frozen (k * 2)
      go_upto_region 7 with fail
      have HB2 : Hk (Below (w.heap.size + 1) (w.alloc (.cells #[.int .i64 W, .int .i64 H, .slice (some ⟨I, 0, none⟩) n n, .slice (some ⟨K, 0, none⟩) n n] 82)) (wr.setCell ⟨w.heap.size + 2, k * 2, none⟩ (.int .i64 (-1)))) := ⟨HB.out.setCell (show w.heap.size + 1 ≤ w.heap.size + 2 by omega) _⟩
      have HS2 := Hk.mk (HS.out.set (k := k * 2) (by omega) (.int .i64 (-1)))
      have HRB2 := Hk.mk (HRB.out.far ⟨w.heap.size + 2, k * 2, none⟩ (.int .i64 (-1)) (show w.heap.size + 1 ≠ w.heap.size + 2 by omega))
      have HN2 := Hk.mk (HN.out.far ⟨w.heap.size + 2, k * 2, none⟩ (.int .i64 (-1)) (show NE ≠ w.heap.size + 2 by have := HZS.out; omega))
      clear HB HS HRB HN c0 f0
      clear hc hf hl hn' hm
      generalize wr.setCell ⟨w.heap.size + 2, k * 2, none⟩ (.int .i64 (-1)) = W2 at *
      have HB := HB2; have HS := HS2; have HRB := HRB2; have HN := HN2
      clear HB2 HS2 HRB2 HN2
      obtain ⟨hc, hf, hl, hn', hm⟩ := kw_rules HB.out hNW
      have at0 : w.cell? ⟨I, t, none⟩ = some (.bool (gd t)) := HA.out.cell ht
      have tt0 : (0 : Int) ≤ (t : Int) := by omega
      have tt1 : (t : Int) < (n : Int) := by omega
      by_cases a1 : N k < 0
      · have d1 : decide (N k < 0) = true := by simpa using a1
        have hno : ¬ OK k := fun h => by have := ((HST.out k).1 h).1; omega
        go_wp2_with fail
        exact ⟨⟨k + 1, by go_num, by omega, HB, ⟨HS.out.congr (fun j _ => sF_none ((HTT.out k).2 hno).1 ((HTT.out k).2 hno).2 j)⟩, HRB, HN⟩, by simp [intOf]; omega⟩
      obtain ⟨u, hu⟩ : ∃ u : Nat, N k = u := ⟨(N k).toNat, by omega⟩
      have hun : u < n := by have := HNB.out k hlt (by omega); omega
      have ut : (N k).toNat = u := by omega
      have HU := Hk.mk hu
      have HUT := Hk.mk ut
      have at1 : w.cell? ⟨I, u, none⟩ = some (.bool (gd u)) := HA.out.cell hun
      have u0 : (0 : Int) ≤ (u : Int) := by omega
      have u1 : (u : Int) < (n : Int) := by omega
      have d1 : decide ((u : Int) < 0) = false := by simp
      have hSk := HST.out k
      rw [ut, hu] at hSk
      have hTk := HTT.out k
      rw [ut, hu] at hTk
      have HSK := Hk.mk hSk
      have HTK := Hk.mk hTk
      rw [hu]
      clear hSk hTk hu ut a1
      by_cases g1' : gd t = false
      · have hno : ¬ OK k := fun h => by have := ((HSK.out).1 h).2.1; rw [g1'] at this; cases this
        rw [g1'] at at0
        go_wp2_with fail
        exact ⟨⟨k + 1, by go_num, by omega, HB, ⟨HS.out.congr (fun j _ => sF_none ((HTT.out k).2 hno).1 ((HTT.out k).2 hno).2 j)⟩, HRB, HN⟩, by simp [intOf]; omega⟩
      have g1 : gd t = true := by simpa using g1'
      clear g1'
      by_cases g2' : gd u = false
      · have hno : ¬ OK k := fun h => by have := ((HSK.out).1 h).2.2.1; rw [g2'] at this; cases this
        rw [g1] at at0
        rw [g2'] at at1
        go_wp2_with fail
        exact ⟨⟨k + 1, by go_num, by omega, HB, ⟨HS.out.congr (fun j _ => sF_none ((HTT.out k).2 hno).1 ((HTT.out k).2 hno).2 j)⟩, HRB, HN⟩, by simp [intOf]; omega⟩
      have g2 : gd u = true := by simpa using g2'
      clear g2'
      rw [g1] at at0
      rw [g2] at at1
      have HG := Hk.mk (And.intro g1 g2)
      clear g1 g2
      have at2 : w.cell? ⟨K, t, none⟩ = some (.int .i64 (kc t)) := HK.out.cell ht
      have at3 : w.cell? ⟨K, u, none⟩ = some (.int .i64 (kc u)) := HK.out.cell hun
      have ka := hk.out t
      have kb := hk.out u
      generalize hx : kc t = x at *
      generalize hy : kc u = y at *
      have HXY := Hk.mk (And.intro hx hy)
      clear hx hy
      have s0 := HS.out.cell (k := k * 2) (by omega)
      have s1 := HS.out.cell (k := k * 2 + 1) (by omega)
      have f0 := HS.out.frozen (k * 2)
      have f1 := HS.out.frozen (k * 2 + 1)
      by_cases k4 : k < 4
      · have d4 : decide ((4 : Int) ≤ (k : Int)) = false := by simp; omega
        have hyes : OK k := HSK.out.2 ⟨by omega, HG.out.1, HG.out.2, fun q => absurd q (by omega)⟩
        have hv := HTK.out.1 hyes
        rw [if_pos k4] at hv
        have HV := Hk.mk hv
        clear hv hyes HSK HTK
        as_aux_lemma =>
          go_wp2_with fail
          go_region
          go_wp2_with fail
          exact ⟨⟨k + 1, by go_num, by omega, ⟨((HB.out.setCell (p := ⟨w.heap.size + 2, k * 2, none⟩) (show w.heap.size + 1 ≤ w.heap.size + 2 by omega) _).setCell (p := ⟨w.heap.size + 2, k * 2 + 1, none⟩) (show w.heap.size + 1 ≤ w.heap.size + 2 by omega) _).drew⟩, ⟨((HS.out.set (k := k * 2) (by omega) _).set (k := k * 2 + 1) (by omega) _).drew.congr (fun j _ => by
            rw [sF_next (HV.out.1) (HV.out.2)]
            by_cases e1 : j = k * 2 + 1
            · rw [if_pos e1, if_pos e1]
            · rw [if_neg e1, if_neg e1]
              by_cases e2 : j = k * 2
              · rw [if_pos e2, if_pos e2]
              · rw [if_neg e2, if_neg e2, if_neg e2])⟩, ⟨((HRB.out.far ⟨w.heap.size + 2, k * 2, none⟩ _ (show w.heap.size + 1 ≠ w.heap.size + 2 by omega)).far ⟨w.heap.size + 2, k * 2 + 1, none⟩ _ (show w.heap.size + 1 ≠ w.heap.size + 2 by omega)).drew⟩, ⟨((HN.out.far ⟨w.heap.size + 2, k * 2, none⟩ _ (show NE ≠ w.heap.size + 2 by have := HZS.out; omega)).far ⟨w.heap.size + 2, k * 2 + 1, none⟩ _ (show NE ≠ w.heap.size + 2 by have := HZS.out; omega)).drew⟩⟩, by simp [intOf]; omega⟩
      · obtain ⟨j, hj⟩ : ∃ j : Nat, k = j + 4 := ⟨k - 4, by omega⟩
        have hj4 : j < 4 := by omega
        have hji : (k : Int) - 4 = (j : Int) := by omega
        have j0 : (0 : Int) ≤ (j : Int) := by omega
        have j1 : (j : Int) < 4 := by omega
        have d4 : decide ((4 : Int) ≤ (k : Int)) = true := by simp; omega
        obtain ⟨p, q, hp, hq, hp4, hq4, hpq⟩ := sd_at hj4
        have t0 := HLW.out.sides j 0 hj4 (by omega)
        have t1 := HLW.out.sides j 1 hj4 (by omega)
        rw [hq] at t1
        rw [Nat.add_zero] at t0
        rw [hp] at t0
        clear hp hq
        have p0 : (0 : Int) ≤ (p : Int) := by omega
        have p1 : (p : Int) < 8 := by omega
        have q0 : (0 : Int) ≤ (q : Int) := by omega
        have q1 : (q : Int) < 8 := by omega
        have hsb := HSB.out k (by omega) hlt (by have := HU.out; omega)
        have hb1 : (0 ≤ N p ∧ N p < (n : Int)) ∧ 0 ≤ N q ∧ N q < (n : Int) := by
          rw [show k - 4 = j by omega, show (k - 3) % 4 = (j + 1) % 4 by omega] at hsb
          rcases hpq with ⟨e1, e2⟩ | ⟨e1, e2⟩
          · rw [e1, e2]; exact hsb
          · rw [e1, e2]; exact ⟨hsb.2, hsb.1⟩
        have HOK2 : Hk (OK k ↔ gd (N p).toNat = true ∧ gd (N q).toNat = true) := ⟨by
          rw [HSK.out, show k - 4 = j by omega, show (k - 3) % 4 = (j + 1) % 4 by omega]
          rcases hpq with ⟨e1, e2⟩ | ⟨e1, e2⟩
          · rw [e1, e2]; exact ⟨fun h => h.2.2.2 (by omega), fun h => ⟨by omega, HG.out.1, HG.out.2, fun _ => h⟩⟩
          · rw [e1, e2]; exact ⟨fun h => (h.2.2.2 (by omega)).symm, fun h => ⟨by omega, HG.out.1, HG.out.2, fun _ => h.symm⟩⟩⟩
        clear hsb hpq HSK
        obtain ⟨⟨b0, b1⟩, b2, b3⟩ := hb1
        obtain ⟨x1, hx1⟩ : ∃ x1 : Nat, N p = x1 := ⟨(N p).toNat, by omega⟩
        obtain ⟨x2, hx2⟩ : ∃ x2 : Nat, N q = x2 := ⟨(N q).toNat, by omega⟩
        have HX2 : Hk (OK k ↔ gd x1 = true ∧ gd x2 = true) := ⟨by rw [HOK2.out, hx1, hx2]; simp⟩
        clear HOK2
        have HA2 := Hk.mk (HN.out.alloc (.cells #[.int .i64 (p : Int), .int .i64 (q : Int)] 153))
        have e0 := HA2.out.cell (k := p) (by omega)
        have e1 := HA2.out.cell (k := q) (by omega)
        rw [hx1] at e0 b0 b1
        rw [hx2] at e1 b2 b3
        clear hx1 hx2
        have at4 : (W2.alloc (.cells #[.int .i64 (p : Int), .int .i64 (q : Int)] 153)).cell? ⟨I, x1, none⟩ = some (.bool (gd x1)) := (HAI.out _ (kw_al HB.out hNW _)).cell (by omega)
        have at5 : (W2.alloc (.cells #[.int .i64 (p : Int), .int .i64 (q : Int)] 153)).cell? ⟨I, x2, none⟩ = some (.bool (gd x2)) := (HAI.out _ (kw_al HB.out hNW _)).cell (by omega)
        have hk4 : ¬ k < 4 := k4
        have HB3 := Hk.mk (kw_al HB.out hNW (.cells #[.int .i64 (p : Int), .int .i64 (q : Int)] 153)).drew
        have HS3 := Hk.mk (HS.out.alloc (.cells #[.int .i64 (p : Int), .int .i64 (q : Int)] 153)).drew
        have HRB3 := Hk.mk (HRB.out.alloc (.cells #[.int .i64 (p : Int), .int .i64 (q : Int)] 153)).drew
        have HN3 := Hk.mk (HN.out.alloc (.cells #[.int .i64 (p : Int), .int .i64 (q : Int)] 153)).drew
        clear hj hj4 s0 s1 f0 f1
        by_cases y1 : gd x1 = false
        · have hno : ¬ OK k := fun h => by have := (HX2.out.1 h).1; rw [y1] at this; cases this
          rw [y1] at at4
          as_aux_lemma =>
            go_upto_region 11 with fail
            go_region
            go_wp2_with fail
            exact ⟨⟨k + 1, by go_num, by omega, HB3, ⟨HS3.out.congr (fun j _ => sF_none (HTK.out.2 hno).1 (HTK.out.2 hno).2 j)⟩, HRB3, HN3⟩, by simp [intOf]; omega⟩
        have y1' : gd x1 = true := by simpa using y1
        rw [y1'] at at4
        by_cases y2 : gd x2 = false
        · have hno : ¬ OK k := fun h => by have := (HX2.out.1 h).2; rw [y2] at this; cases this
          rw [y2] at at5
          as_aux_lemma =>
            go_upto_region 11 with fail
            go_region
            go_wp2_with fail
            exact ⟨⟨k + 1, by go_num, by omega, HB3, ⟨HS3.out.congr (fun j _ => sF_none (HTK.out.2 hno).1 (HTK.out.2 hno).2 j)⟩, HRB3, HN3⟩, by simp [intOf]; omega⟩
        have y2' : gd x2 = true := by simpa using y2
        rw [y2'] at at5
        have hv := HTK.out.1 (HX2.out.2 ⟨y1', y2'⟩)
        rw [if_neg hk4] at hv
        have HV := Hk.mk hv
        clear hv HTK y1 y1' y2 y2'
        as_aux_lemma =>
          go_upto_region 11 with fail
          apply reg_merge
          · intro HG2
            go_region
            go_upto_region 13 with fail
            obtain ⟨W3, hW3⟩ : ∃ W3, (W2.alloc (.cells #[.int .i64 (p : Int), .int .i64 (q : Int)] 153)).drew = W3 := ⟨_, rfl⟩
            rw [hW3] at HB3 HS3 HRB3 HN3 ⊢
            clear hW3
            revert HN3
            revert HRB3
            revert HS3
            revert HB3
            revert W3
            exact HG2.out
          clear HB HS HRB HN HA2 e0 e1 at4 at5 t0 t1 HB3 HS3 HRB3 HN3
          clear hc hf hl hn' hm
          intro W3 HB HS HRB HN
          obtain ⟨hc, hf, hl, hn', hm⟩ := kw_rules HB.out hNW
          have s0 := HS.out.cell (k := k * 2) (by omega)
          have s1 := HS.out.cell (k := k * 2 + 1) (by omega)
          have f0 := HS.out.frozen (k * 2)
          have f1 := HS.out.frozen (k * 2 + 1)
          go_region
          go_wp2_with fail
          exact ⟨⟨k + 1, by go_num, by omega, ⟨((HB.out.setCell (p := ⟨w.heap.size + 2, k * 2, none⟩) (show w.heap.size + 1 ≤ w.heap.size + 2 by omega) _).setCell (p := ⟨w.heap.size + 2, k * 2 + 1, none⟩) (show w.heap.size + 1 ≤ w.heap.size + 2 by omega) _).drew⟩, ⟨((HS.out.set (k := k * 2) (by omega) _).set (k := k * 2 + 1) (by omega) _).drew.congr (fun j _ => by
            rw [sF_next (HV.out.1) (HV.out.2)]
            by_cases e1 : j = k * 2 + 1
            · rw [if_pos e1, if_pos e1]
            · rw [if_neg e1, if_neg e1]
              by_cases e2 : j = k * 2
              · rw [if_pos e2, if_pos e2]
              · rw [if_neg e2, if_neg e2, if_neg e2])⟩, ⟨((HRB.out.far ⟨w.heap.size + 2, k * 2, none⟩ _ (show w.heap.size + 1 ≠ w.heap.size + 2 by omega)).far ⟨w.heap.size + 2, k * 2 + 1, none⟩ _ (show w.heap.size + 1 ≠ w.heap.size + 2 by omega)).drew⟩, ⟨((HN.out.far ⟨w.heap.size + 2, k * 2, none⟩ _ (show NE ≠ w.heap.size + 2 by have := HZS.out; omega)).far ⟨w.heap.size + 2, k * 2 + 1, none⟩ _ (show NE ≠ w.heap.size + 2 by have := HZS.out; omega)).drew⟩⟩, by simp [intOf]; omega⟩
    · obtain rfl : k = 8 := by omega
      have c0 : wr.cell? ⟨w.heap.size + 2, 0, none⟩ = some (.int .i64 (T 0)) := (HS.out.cell (k := 0) (by omega)).trans rfl
      have d0 := HRB.out.cell (k := 0) (by omega)
      have g0 := HRB.out.frozen 0
      have c1 : wr.cell? ⟨w.heap.size + 2, 1, none⟩ = some (.int .i64 (D 0)) := (HS.out.cell (k := 1) (by omega)).trans rfl
      have d1 := HRB.out.cell (k := 1) (by omega)
      have g1 := HRB.out.frozen 1
      have c2 : wr.cell? ⟨w.heap.size + 2, 2, none⟩ = some (.int .i64 (T 1)) := (HS.out.cell (k := 2) (by omega)).trans rfl
      have d2 := HRB.out.cell (k := 2) (by omega)
      have g2 := HRB.out.frozen 2
      have c3 : wr.cell? ⟨w.heap.size + 2, 3, none⟩ = some (.int .i64 (D 1)) := (HS.out.cell (k := 3) (by omega)).trans rfl
      have d3 := HRB.out.cell (k := 3) (by omega)
      have g3 := HRB.out.frozen 3
      have c4 : wr.cell? ⟨w.heap.size + 2, 4, none⟩ = some (.int .i64 (T 2)) := (HS.out.cell (k := 4) (by omega)).trans rfl
      have d4 := HRB.out.cell (k := 4) (by omega)
      have g4 := HRB.out.frozen 4
      have c5 : wr.cell? ⟨w.heap.size + 2, 5, none⟩ = some (.int .i64 (D 2)) := (HS.out.cell (k := 5) (by omega)).trans rfl
      have d5 := HRB.out.cell (k := 5) (by omega)
      have g5 := HRB.out.frozen 5
      have c6 : wr.cell? ⟨w.heap.size + 2, 6, none⟩ = some (.int .i64 (T 3)) := (HS.out.cell (k := 6) (by omega)).trans rfl
      have d6 := HRB.out.cell (k := 6) (by omega)
      have g6 := HRB.out.frozen 6
      have c7 : wr.cell? ⟨w.heap.size + 2, 7, none⟩ = some (.int .i64 (D 3)) := (HS.out.cell (k := 7) (by omega)).trans rfl
      have d7 := HRB.out.cell (k := 7) (by omega)
      have g7 := HRB.out.frozen 7
      have c8 : wr.cell? ⟨w.heap.size + 2, 8, none⟩ = some (.int .i64 (T 4)) := (HS.out.cell (k := 8) (by omega)).trans rfl
      have d8 := HRB.out.cell (k := 8) (by omega)
      have g8 := HRB.out.frozen 8
      have c9 : wr.cell? ⟨w.heap.size + 2, 9, none⟩ = some (.int .i64 (D 4)) := (HS.out.cell (k := 9) (by omega)).trans rfl
      have d9 := HRB.out.cell (k := 9) (by omega)
      have g9 := HRB.out.frozen 9
      have c10 : wr.cell? ⟨w.heap.size + 2, 10, none⟩ = some (.int .i64 (T 5)) := (HS.out.cell (k := 10) (by omega)).trans rfl
      have d10 := HRB.out.cell (k := 10) (by omega)
      have g10 := HRB.out.frozen 10
      have c11 : wr.cell? ⟨w.heap.size + 2, 11, none⟩ = some (.int .i64 (D 5)) := (HS.out.cell (k := 11) (by omega)).trans rfl
      have d11 := HRB.out.cell (k := 11) (by omega)
      have g11 := HRB.out.frozen 11
      have c12 : wr.cell? ⟨w.heap.size + 2, 12, none⟩ = some (.int .i64 (T 6)) := (HS.out.cell (k := 12) (by omega)).trans rfl
      have d12 := HRB.out.cell (k := 12) (by omega)
      have g12 := HRB.out.frozen 12
      have c13 : wr.cell? ⟨w.heap.size + 2, 13, none⟩ = some (.int .i64 (D 6)) := (HS.out.cell (k := 13) (by omega)).trans rfl
      have d13 := HRB.out.cell (k := 13) (by omega)
      have g13 := HRB.out.frozen 13
      have c14 : wr.cell? ⟨w.heap.size + 2, 14, none⟩ = some (.int .i64 (T 7)) := (HS.out.cell (k := 14) (by omega)).trans rfl
      have d14 := HRB.out.cell (k := 14) (by omega)
      have g14 := HRB.out.frozen 14
      have c15 : wr.cell? ⟨w.heap.size + 2, 15, none⟩ = some (.int .i64 (D 7)) := (HS.out.cell (k := 15) (by omega)).trans rfl
      have d15 := HRB.out.cell (k := 15) (by omega)
      have g15 := HRB.out.frozen 15
      clear HS HRB HN
      go_wp2_with fail
      refine bodyPost_ret (v := .agg #[.int .i64 (T 0), .int .i64 (D 0), .int .i64 (T 1), .int .i64 (D 1), .int .i64 (T 2), .int .i64 (D 2), .int .i64 (T 3), .int .i64 (D 3), .int .i64 (T 4), .int .i64 (D 4), .int .i64 (T 5), .int .i64 (D 5), .int .i64 (T 6), .int .i64 (D 6), .int .i64 (T 7), .int .i64 (D 7)]) (by simp [results, Tryd.results82, go_sem, d0, d1, d2, d3, d4, d5, d6, d7, d8, d9, d10, d11, d12, d13, d14, d15]) rfl ⟨by rw [HTD.out.1, HTD.out.2], ?_⟩
      exact HTR.out _ ((((((((((((((((((((((((((((((((HB.out).setCell (p := ⟨w.heap.size + 1, 0, none⟩) (Nat.le_refl _) _)).setCell (p := ⟨w.heap.size + 1, 1, none⟩) (Nat.le_refl _) _)).setCell (p := ⟨w.heap.size + 1, 2, none⟩) (Nat.le_refl _) _)).setCell (p := ⟨w.heap.size + 1, 3, none⟩) (Nat.le_refl _) _)).setCell (p := ⟨w.heap.size + 1, 4, none⟩) (Nat.le_refl _) _)).setCell (p := ⟨w.heap.size + 1, 5, none⟩) (Nat.le_refl _) _)).setCell (p := ⟨w.heap.size + 1, 6, none⟩) (Nat.le_refl _) _)).setCell (p := ⟨w.heap.size + 1, 7, none⟩) (Nat.le_refl _) _)).setCell (p := ⟨w.heap.size + 1, 8, none⟩) (Nat.le_refl _) _)).setCell (p := ⟨w.heap.size + 1, 9, none⟩) (Nat.le_refl _) _)).setCell (p := ⟨w.heap.size + 1, 10, none⟩) (Nat.le_refl _) _)).setCell (p := ⟨w.heap.size + 1, 11, none⟩) (Nat.le_refl _) _)).setCell (p := ⟨w.heap.size + 1, 12, none⟩) (Nat.le_refl _) _)).setCell (p := ⟨w.heap.size + 1, 13, none⟩) (Nat.le_refl _) _)).setCell (p := ⟨w.heap.size + 1, 14, none⟩) (Nat.le_refl _) _)).setCell (p := ⟨w.heap.size + 1, 15, none⟩) (Nat.le_refl _) _)
end Go.Proofs.YthabjihpjdlmoaaDoor
