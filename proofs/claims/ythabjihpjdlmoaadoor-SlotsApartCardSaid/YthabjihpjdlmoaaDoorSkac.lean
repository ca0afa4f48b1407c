import Derived.Deep.QuietTactic
import Derived.BigQuiet
import Derived.Deep.RegionWith
import Derived.Deep.RegionHeld3
import Derived.Deep.DeepCutAuto
import Derived.Deep.DeepFit
import Derived.Outline
import Derived.Test.YthabjihpjdlmoaaDoorSkaa
import Derived.Test.YthabjihpjdlmoaaDoorSkab
/- Layer 13: whether the statements' argument may be. -/
namespace Go.Proofs.YthabjihpjdlmoaaDoor
open Go.ChangeShapes Go.WideShapes Go.ChangeAt Go.RowKit Go.Deep
set_option linter.unusedVariables false
set_option linter.unusedSimpArgs false
set_option maxRecDepth 100000 in
theorem form13_no (W H : Int) (a : Option Addr) (n c : Nat) (xs : List Int) (la : Option Addr) (ln lc : Nat) (bs : List Bd) (x sz : Int) (ta : Option Addr) (tn tc : Nat) (w : World) (h : By w w.heap.size a n xs) (hb0 : Bq w w.heap.size la ln bs) (hn : n ≤ 140737488355328) (hln : ln ≤ 1099511627776) (MM : Hk (¬ (MOk W H n xs bs ∧ (0 ≤ x ∧ x ≤ 2) ∧ 0 ≤ sz ∧ sz ≤ 3))) :
    Calls Tryd.prog 18 #[.agg #[.int .i64 W, .int .i64 H, .slice a n c, .slice la ln lc, .int .i64 x, .int .i64 sz, .slice ta tn tc]] w fun e w' => e = .returned (.int .i64 1) ∧ Below w.heap.size w w' := by
  have HWB : Hk (Below w.heap.size w (w.alloc (.cells #[.int .i64 W, .int .i64 H, .slice a n c, .slice la ln lc, .int .i64 x, .int .i64 sz, .slice ta tn tc] 28))) := ⟨(Below.refl _ _).alloc (Nat.le_refl _) _⟩
  have hNW : w.heap.size + 1 ≤ (w.alloc (.cells #[.int .i64 W, .int .i64 H, .slice a n c, .slice la ln lc, .int .i64 x, .int .i64 sz, .slice ta tn tc] 28)).heap.size := by simp
  have HB : Hk (Below (w.heap.size + 1) (w.alloc (.cells #[.int .i64 W, .int .i64 H, .slice a n c, .slice la ln lc, .int .i64 x, .int .i64 sz, .slice ta tn tc] 28)) (w.alloc (.cells #[.int .i64 W, .int .i64 H, .slice a n c, .slice la ln lc, .int .i64 x, .int .i64 sz, .slice ta tn tc] 28))) := ⟨Below.refl _ _⟩
  have HTR : Hk (∀ X, Below (w.heap.size + 1) (w.alloc (.cells #[.int .i64 W, .int .i64 H, .slice a n c, .slice la ln lc, .int .i64 x, .int .i64 sz, .slice ta tn tc] 28)) X → Below w.heap.size w X) := ⟨fun X hX => HWB.out.trans (hX.mono (by omega))⟩
  have HBY := Hk.mk (fun (X : World) (hX : Below (w.heap.size + 1) (w.alloc (.cells #[.int .i64 W, .int .i64 H, .slice a n c, .slice la ln lc, .int .i64 x, .int .i64 sz, .slice ta tn tc] 28)) X) => h.below (HTR.out X hX) (Nat.le_refl _))
  have HBQ := Hk.mk (fun (X : World) (hX : Below (w.heap.size + 1) (w.alloc (.cells #[.int .i64 W, .int .i64 H, .slice a n c, .slice la ln lc, .int .i64 x, .int .i64 sz, .slice ta tn tc] 28)) X) => hb0.below (HTR.out X hX) (Nat.le_refl _))
  have E : Hk (false = true ↔ (MOk W H n xs bs ∧ (0 ≤ x ∧ x ≤ 2) ∧ 0 ≤ sz ∧ sz ≤ 3)) := ⟨⟨fun q => (by cases q), fun q => absurd q MM.out⟩⟩
  clear h hb0
  obtain ⟨hc, hf, hl, hn', hm⟩ := kw_rules HB.out hNW
  go_enter Tryd.func18, Tryd.ntmps18
  go_wp2_with (go_at_call 37; (with_reducible refine (rmay13_as false W H a n c xs la ln lc bs x sz _ ?_ ?_ hn hln E).mono ?_); (exact (HBY.out _ HB.out).mono (hsz1 HB.out)); (exact (HBQ.out _ HB.out).mono (hsz1 HB.out)); rintro e z ⟨rfl, hb⟩; replace HB := Hk.mk (kw_step HB.out hNW hb); clear hb; clear hc hf hl hn' hm; obtain ⟨hc, hf, hl, hn', hm⟩ := kw_rules HB.out hNW)
  go_ret
  exact ⟨rfl, HTR.out _ HB.out⟩
set_option maxRecDepth 100000 in
theorem form13_yes (W H : Int) (a : Option Addr) (n c : Nat) (xs : List Int) (la : Option Addr) (ln lc : Nat) (bs : List Bd) (cl s : Nat) (ta : Option Addr) (tn tc : Nat) (w : World) (h : By w w.heap.size a n xs) (hb0 : Bq w w.heap.size la ln bs) (hn : n ≤ 140737488355328) (hln : ln ≤ 1099511627776) (hc3 : cl < 3) (hs : s ≤ 3) (MM : Hk (MOk W H n xs bs)) :
    Calls Tryd.prog 18 #[.agg #[.int .i64 W, .int .i64 H, .slice a n c, .slice la ln lc, .int .i64 cl, .int .i64 s, .slice ta tn tc]] w fun e w' => e = .returned (.int .i64 0) ∧ Below w.heap.size w w' := by
  have HWB : Hk (Below w.heap.size w (w.alloc (.cells #[.int .i64 W, .int .i64 H, .slice a n c, .slice la ln lc, .int .i64 cl, .int .i64 s, .slice ta tn tc] 28))) := ⟨(Below.refl _ _).alloc (Nat.le_refl _) _⟩
  have hNW : w.heap.size + 1 ≤ (w.alloc (.cells #[.int .i64 W, .int .i64 H, .slice a n c, .slice la ln lc, .int .i64 cl, .int .i64 s, .slice ta tn tc] 28)).heap.size := by simp
  have HB : Hk (Below (w.heap.size + 1) (w.alloc (.cells #[.int .i64 W, .int .i64 H, .slice a n c, .slice la ln lc, .int .i64 cl, .int .i64 s, .slice ta tn tc] 28)) (w.alloc (.cells #[.int .i64 W, .int .i64 H, .slice a n c, .slice la ln lc, .int .i64 cl, .int .i64 s, .slice ta tn tc] 28))) := ⟨Below.refl _ _⟩
  have HTR : Hk (∀ X, Below (w.heap.size + 1) (w.alloc (.cells #[.int .i64 W, .int .i64 H, .slice a n c, .slice la ln lc, .int .i64 cl, .int .i64 s, .slice ta tn tc] 28)) X → Below w.heap.size w X) := ⟨fun X hX => HWB.out.trans (hX.mono (by omega))⟩
  have HBY := Hk.mk (fun (X : World) (hX : Below (w.heap.size + 1) (w.alloc (.cells #[.int .i64 W, .int .i64 H, .slice a n c, .slice la ln lc, .int .i64 cl, .int .i64 s, .slice ta tn tc] 28)) X) => h.below (HTR.out X hX) (Nat.le_refl _))
  have HBQ := Hk.mk (fun (X : World) (hX : Below (w.heap.size + 1) (w.alloc (.cells #[.int .i64 W, .int .i64 H, .slice a n c, .slice la ln lc, .int .i64 cl, .int .i64 s, .slice ta tn tc] 28)) X) => hb0.below (HTR.out X hX) (Nat.le_refl _))
  have E : Hk (true = true ↔ (MOk W H n xs bs ∧ (0 ≤ (cl : Int) ∧ (cl : Int) ≤ 2) ∧ 0 ≤ (s : Int) ∧ (s : Int) ≤ 3)) := ⟨⟨fun _ => ⟨MM.out, by omega, by omega⟩, fun _ => rfl⟩⟩
  clear h hb0
  obtain ⟨hc, hf, hl, hn', hm⟩ := kw_rules HB.out hNW
  go_enter Tryd.func18, Tryd.ntmps18
  go_wp2_with (go_at_call 37; (with_reducible refine (rmay13_as true W H a n c xs la ln lc bs cl s _ ?_ ?_ hn hln E).mono ?_); (exact (HBY.out _ HB.out).mono (hsz1 HB.out)); (exact (HBQ.out _ HB.out).mono (hsz1 HB.out)); rintro e z ⟨rfl, hb⟩; replace HB := Hk.mk (kw_step HB.out hNW hb); clear hb; clear hc hf hl hn' hm; obtain ⟨hc, hf, hl, hn', hm⟩ := kw_rules HB.out hNW)
  go_ret
  exact ⟨rfl, HTR.out _ HB.out⟩
end Go.Proofs.YthabjihpjdlmoaaDoor
/- Plain words of layer 13: a plain ground: as far as the steps say, aslant as long as may be, then straight. -/
namespace Go.Proofs.YthabjihpjdlmoaaDoor
open Go.RowKit
set_option linter.unusedVariables false
set_option linter.unusedSimpArgs false
def octV (x y : Int) : Int := max (20 * max x (-x) + 8 * max y (-y)) (8 * max x (-x) + 20 * max y (-y))
def octD (W : Int) (g t : Nat) : Int := octV ((t : Int) % W - (g : Int) % W) ((t : Int) / W - (g : Int) / W)
theorem octV_nn (x y : Int) : 0 ≤ octV x y := by unfold octV; omega
theorem octV_eq (x y ax ay : Int) (h1 : ax = max x (-x)) (h2 : ay = max y (-y)) : 28 * min ax ay + 20 * (max ax ay - min ax ay) = octV x y := by unfold octV; omega
theorem octV_flat (x y a b : Int) (h : a = 0 ∨ b = 0) (a1 : -1 ≤ a) (a2 : a ≤ 1) (b1 : -1 ≤ b) (b2 : b ≤ 1) : octV (x + a) (y + b) ≤ octV x y + 20 := by unfold octV; omega
theorem octV_slant (x y a b : Int) (a1 : -1 ≤ a) (a2 : a ≤ 1) (b1 : -1 ≤ b) (b2 : b ≤ 1) : octV (x + a) (y + b) ≤ octV x y + 28 := by unfold octV; omega
def sg (x a : Int) : Prop := (x < 0 ∧ a = -1) ∨ (x = 0 ∧ a = 0) ∨ (0 < x ∧ a = 1)
theorem ab_sg {x a : Int} (h : sg x a) : max x (-x) = a * a + max (x - a) (-(x - a)) ∧ ((a = 0 ∧ x = 0 ∧ max x (-x) = 0) ∨ (a * a = 1 ∧ 1 ≤ max x (-x))) := by
  rcases h with ⟨h1, rfl⟩ | ⟨h1, rfl⟩ | ⟨h1, rfl⟩ <;> omega
theorem sg_of (x : Int) : ∃ a : Int, (a = -1 ∨ a = 0 ∨ a = 1) ∧ sg x a := by
  unfold sg
  rcases Int.lt_trichotomy x 0 with c | c | c
  · exact ⟨-1, by omega, by omega⟩
  · exact ⟨0, by omega, by omega⟩
  · exact ⟨1, by omega, by omega⟩
theorem octV_ab (x y : Int) : octV x y = max (20 * max x (-x) + 8 * max y (-y)) (8 * max x (-x) + 20 * max y (-y)) := rfl
theorem oct_flat {x y a b : Int} (hx : sg x a) (hy : sg y b) (h : a = 0 ∨ b = 0) (h' : ¬ (a = 0 ∧ b = 0)) : octV x y - 20 = octV (x - a) (y - b) := by
  obtain ⟨e1, c1⟩ := ab_sg hx
  obtain ⟨e2, c2⟩ := ab_sg hy
  rw [octV_ab, octV_ab]
  generalize max x (-x) = p at *
  generalize max y (-y) = q at *
  generalize max (x - a) (-(x - a)) = r at *
  generalize max (y - b) (-(y - b)) = s at *
  rcases c1 with ⟨rfl, _, _⟩ | ⟨c1, _⟩
  · rcases c2 with ⟨rfl, _, _⟩ | ⟨c2, _⟩
    · omega
    · rw [c2] at e2; omega
  · rcases c2 with ⟨rfl, _, _⟩ | ⟨c2, _⟩
    · rw [c1] at e1; omega
    · rcases h with rfl | rfl
      · omega
      · omega
theorem oct_slant {x y a b : Int} (hx : sg x a) (hy : sg y b) (h : a ≠ 0 ∧ b ≠ 0) : octV x y - 28 = octV (x - a) (y - b) := by
  obtain ⟨e1, c1⟩ := ab_sg hx
  obtain ⟨e2, c2⟩ := ab_sg hy
  rw [octV_ab, octV_ab]
  generalize max x (-x) = p at *
  generalize max y (-y) = q at *
  generalize max (x - a) (-(x - a)) = r at *
  generalize max (y - b) (-(y - b)) = s at *
  rcases c1 with ⟨rfl, _, _⟩ | ⟨c1, _⟩
  · omega
  · rcases c2 with ⟨rfl, _, _⟩ | ⟨c2, _⟩
    · omega
    · rw [c1] at e1
      rw [c2] at e2
      omega
theorem oct_low {x y a b : Int} {m : Nat} (hx : sg x a) (hy : sg y b) (h : max (max x (-x)) (max y (-y)) = ((m + 1 : Nat) : Int)) : max (max (x - a) (-(x - a))) (max (y - b) (-(y - b))) = (m : Int) := by
  obtain ⟨e1, c1⟩ := ab_sg hx
  obtain ⟨e2, c2⟩ := ab_sg hy
  generalize max x (-x) = p at *
  generalize max y (-y) = q at *
  generalize max (x - a) (-(x - a)) = r at *
  generalize max (y - b) (-(y - b)) = s at *
  rcases c1 with ⟨rfl, _, _⟩ | ⟨c1, _⟩
  · rcases c2 with ⟨rfl, _, _⟩ | ⟨c2, _⟩
    · omega
    · rw [c2] at e2; omega
  · rw [c1] at e1
    rcases c2 with ⟨rfl, _, _⟩ | ⟨c2, _⟩
    · omega
    · rw [c2] at e2; omega
theorem way_bd {i : Nat} (h : i < 8) : -1 ≤ dxL.getD i 0 ∧ dxL.getD i 0 ≤ 1 ∧ -1 ≤ dyL.getD i 0 ∧ dyL.getD i 0 ≤ 1 := by
  have := (by decide : ∀ k : Fin 8, -1 ≤ dxL.getD k 0 ∧ dxL.getD k 0 ≤ 1 ∧ -1 ≤ dyL.getD k 0 ∧ dyL.getD k 0 ≤ 1) ⟨i, h⟩
  exact this
theorem sgn_way (a b : Int) (ha : a = -1 ∨ a = 0 ∨ a = 1) (hb : b = -1 ∨ b = 0 ∨ b = 1) (h : ¬ (a = 0 ∧ b = 0)) : ∃ i, i < 8 ∧ dxL.getD i 0 = a ∧ dyL.getD i 0 = b := by
  have g : ∀ p q : Fin 3, ¬ ((p : Nat) = 1 ∧ (q : Nat) = 1) → ∃ i : Fin 8, dxL.getD i 0 = ((p : Nat) : Int) - 1 ∧ dyL.getD i 0 = ((q : Nat) : Int) - 1 := by decide
  obtain ⟨p, hp⟩ : ∃ p : Fin 3, a = ((p : Nat) : Int) - 1 := by
    rcases ha with e | e | e
    · exact ⟨0, by rw [e]; rfl⟩
    · exact ⟨1, by rw [e]; rfl⟩
    · exact ⟨2, by rw [e]; rfl⟩
  obtain ⟨q, hq⟩ : ∃ q : Fin 3, b = ((q : Nat) : Int) - 1 := by
    rcases hb with e | e | e
    · exact ⟨0, by rw [e]; rfl⟩
    · exact ⟨1, by rw [e]; rfl⟩
    · exact ⟨2, by rw [e]; rfl⟩
  obtain ⟨i, h1, h2⟩ := g p q (fun e => h ⟨by omega, by omega⟩)
  exact ⟨i, i.2, by rw [h1, hp], by rw [h2, hq]⟩
theorem nb_small {W H : Int} {n t i : Nat} (hW : 1 ≤ W) (hn : (n : Int) = W * H) (h0 : 0 < n) : (nb W H t i).toNat < n := by
  by_cases c : 0 ≤ nb W H t i
  · have := nb_lt (W := W) (H := H) (t := (t : Int)) (k := i) hW rfl c
    omega
  · omega
theorem ok_plain {W H : Int} {n t i : Nat} {gd : Nat → Bool} (hW : 1 ≤ W) (hn : (n : Int) = W * H) (hg : ∀ k, k < n → gd k = true) (ht : t < n) (h0 : 0 ≤ nb W H t i) : stOk W H gd t i :=
  ⟨h0, hg t ht, hg _ (nb_small hW hn (by omega)), fun _ => ⟨hg _ (nb_small hW hn (by omega)), hg _ (nb_small hW hn (by omega))⟩⟩
theorem tC_plain {W H : Int} {n t i : Nat} {kc : Nat → Int} (hW : 1 ≤ W) (hn : (n : Int) = W * H) (hk : ∀ k, k < n → kc k = 2) (ht : t < n) : tC W H kc t i = if i < 4 then 20 else 28 := by
  unfold tC
  rw [hk t ht, hk _ (nb_small hW hn (by omega))]
  split <;> rfl
theorem wk_plain {W H : Int} {n g : Nat} {gd : Nat → Bool} {kc : Nat → Int} (hW : 1 ≤ W) (hn : (n : Int) = W * H) (hg : ∀ k, k < n → gd k = true) (hk : ∀ k, k < n → kc k = 2) (hgn : g < n) :
    ∀ (m t : Nat), t < n → (∀ x y : Int, x = (t : Int) % W - (g : Int) % W → y = (t : Int) / W - (g : Int) / W → max (max x (-x)) (max y (-y)) = (m : Int)) → Wk n (tT W H gd) (tC W H kc) g m t (octD W g t)
  | 0, t, ht, hm => by
    have h := hm _ _ rfl rfl
    have e1 := Int.emod_add_mul_ediv (t : Int) W
    have e2 := Int.emod_add_mul_ediv (g : Int) W
    have hx : (t : Int) % W = (g : Int) % W := by omega
    have hy : (t : Int) / W = (g : Int) / W := by omega
    rw [hx, hy] at e1
    refine ⟨by omega, ?_⟩
    unfold octD octV
    rw [hx, hy]
    omega
  | m + 1, t, ht, hm => by
    have h := hm _ _ rfl rfl
    obtain ⟨x, hx⟩ : ∃ x, (t : Int) % W - (g : Int) % W = x := ⟨_, rfl⟩
    obtain ⟨y, hy⟩ : ∃ y, (t : Int) / W - (g : Int) / W = y := ⟨_, rfl⟩
    rw [hx, hy] at h
    have e1 := Int.emod_add_mul_ediv (t : Int) W
    have t0 := Int.emod_nonneg (t : Int) (show W ≠ 0 by omega)
    have t1 := Int.emod_lt_of_pos (t : Int) (show 0 < W by omega)
    have g0 := Int.emod_nonneg (g : Int) (show W ≠ 0 by omega)
    have g1 := Int.emod_lt_of_pos (g : Int) (show 0 < W by omega)
    have d0 : 0 ≤ (t : Int) / W := Int.ediv_nonneg (by omega) (by omega)
    have d1 : (t : Int) / W < H := Int.ediv_lt_of_lt_mul (by omega) (by rw [Int.mul_comm]; omega)
    have f0 : 0 ≤ (g : Int) / W := Int.ediv_nonneg (by omega) (by omega)
    have f1 : (g : Int) / W < H := Int.ediv_lt_of_lt_mul (by omega) (by rw [Int.mul_comm]; omega)
    obtain ⟨a, ha, hax⟩ := sg_of x
    obtain ⟨b, hb, hby⟩ := sg_of y
    have hab0 : ¬ (a = 0 ∧ b = 0) := by
      rintro ⟨rfl, rfl⟩
      unfold sg at hax hby
      omega
    obtain ⟨i, hi, ix, iy⟩ := sgn_way a b ha hb hab0
    have hsx : 0 ≤ (t : Int) % W - a ∧ (t : Int) % W - a < W := by
      unfold sg at hax
      omega
    have hsy : 0 ≤ (t : Int) / W - b ∧ (t : Int) / W - b < H := by
      unfold sg at hby
      omega
    obtain ⟨s, hs⟩ : ∃ s : Nat, (s : Int) = ((t : Int) % W - a) + W * ((t : Int) / W - b) := by
      have q : 0 ≤ W * ((t : Int) / W - b) := Int.mul_nonneg (by omega) hsy.1
      exact ⟨(((t : Int) % W - a) + W * ((t : Int) / W - b)).toNat, by omega⟩
    obtain ⟨sx, sy⟩ := xy_at' hs hsx.1 hsx.2
    have hsn : s < n := by
      have q : (W * ((t : Int) / W - b + 1)) ≤ W * H := Int.mul_le_mul_of_nonneg_left (by omega) (by omega)
      rw [Int.mul_add] at q
      omega
    have hnb : nb W H s i = (t : Int) := by
      unfold nb
      rw [ix, iy, nbS_yes (by rw [sx]; omega) (by rw [sx]; omega) (by rw [sy]; omega) (by rw [sy]; omega), sx, sy]
      rw [show (t : Int) % W - a + a = (t : Int) % W by omega, show (t : Int) / W - b + b = (t : Int) / W by omega]
      exact e1
    refine ⟨s, i, hsn, hi, by rw [tT_yes (ok_plain hW hn hg hsn (by omega))]; exact hnb, ?_⟩
    have hlow := oct_low (m := m) hax hby h
    have ih := wk_plain (gd := gd) (kc := kc) hW hn hg hk hgn m s hsn (fun x' y' e e' => by
      rw [e, e', sx, sy, show (t : Int) % W - a - (g : Int) % W = x - a by omega, show (t : Int) / W - b - (g : Int) / W = y - b by omega]
      exact hlow)
    have hc : octD W g t - tC W H kc s i = octD W g s := by
      rw [tC_plain hW hn hk hsn]
      unfold octD
      rw [sx, sy, hx, hy, show (t : Int) % W - a - (g : Int) % W = x - a by omega, show (t : Int) / W - b - (g : Int) / W = y - b by omega]
      have hw := way_lt (k := i)
      rw [ix, iy] at hw
      by_cases c : i < 4
      · rw [if_pos c]
        exact oct_flat hax hby (hw.1 c).1 hab0
      · rw [if_neg c]
        exact oct_slant hax hby ⟨fun e => c (hw.2 ⟨Or.inl e, hi⟩), fun e => c (hw.2 ⟨Or.inr e, hi⟩)⟩
    rw [hc]
    exact ih
theorem tab_plain {W H : Int} {n g : Nat} {gd : Nat → Bool} {kc : Nat → Int} (hW : 1 ≤ W) (hn : (n : Int) = W * H) (hg : ∀ k, k < n → gd k = true) (hk : ∀ k, k < n → kc k = 2) (hgn : g < n) : Tab n (tT W H gd) (tC W H kc) g (octD W g) := by
  refine ⟨by unfold octD octV; omega, fun t ht => by have := octV_nn ((t : Int) % W - (g : Int) % W) ((t : Int) / W - (g : Int) / W); unfold octD; omega, fun t ht _ => ?_, fun t i ht hi h0 hT => ?_⟩
  · obtain ⟨m, hm⟩ : ∃ m : Nat, max (max ((t : Int) % W - (g : Int) % W) (-((t : Int) % W - (g : Int) % W))) (max ((t : Int) / W - (g : Int) / W) (-((t : Int) / W - (g : Int) / W))) = (m : Int) :=
      ⟨(max (max ((t : Int) % W - (g : Int) % W) (-((t : Int) % W - (g : Int) % W))) (max ((t : Int) / W - (g : Int) / W) (-((t : Int) / W - (g : Int) / W)))).toNat, by omega⟩
    exact ⟨m, wk_plain hW hn hg hk hgn m t ht (fun x y e e' => by rw [e, e']; exact hm)⟩
  · obtain ⟨_, e⟩ := tT_ok hT
    rw [e] at hT ⊢
    rw [tC_plain hW hn hk ht]
    obtain ⟨u, hu⟩ : ∃ u : Nat, nb W H t i = (u : Int) := ⟨(nb W H t i).toNat, by omega⟩
    obtain ⟨_, ux, uy, _⟩ := nbS_inv hW (show nbS W H t (dxL.getD i 0) (dyL.getD i 0) = (u : Int) from hu) (by omega)
    obtain ⟨a1, a2, b1, b2⟩ := way_bd hi
    rw [hu]
    simp only [Int.toNat_natCast]
    unfold octD
    rw [ux, uy]
    refine ⟨octV_nn _ _, ?_⟩
    have r1 : (t : Int) % W + dxL.getD i 0 - (g : Int) % W = ((t : Int) % W - (g : Int) % W) + dxL.getD i 0 := by omega
    have r2 : (t : Int) / W + dyL.getD i 0 - (g : Int) / W = ((t : Int) / W - (g : Int) / W) + dyL.getD i 0 := by omega
    rw [r1, r2]
    by_cases c : i < 4
    · rw [if_pos c]
      exact octV_flat _ _ _ _ (way_lt.1 c).1 a1 a2 b1 b2
    · rw [if_neg c]
      exact octV_slant _ _ _ _ a1 a2 b1 b2
theorem zero_at (n k : Nat) : (List.replicate n (0 : Int)).getD k 0 = 0 := by
  simp [List.getD, List.getElem?_replicate]
  split <;> rfl
theorem gd_plain {W H : Int} {n k : Nat} (hW : 1 ≤ W) (hW2 : W ≤ 128) (hn : (n : Int) = W * H) (hk : k < n) : gdF W H (List.replicate n 0) [] 0 0 k = true := by
  unfold gdF
  rw [decide_eq_true_iff]
  unfold sC
  refine Nat.lt_of_succ_le ((sV_iff hW2 _ _ _).2 ?_)
  refine (sq_iff _ 0 _ _).2 fun i j i1 i2 j1 j2 => ?_
  have t0 := Int.emod_nonneg (k : Int) (show W ≠ 0 by omega)
  have t1 := Int.emod_lt_of_pos (k : Int) (show 0 < W by omega)
  have d0 : 0 ≤ (k : Int) / W := Int.ediv_nonneg (by omega) (by omega)
  have d1 : (k : Int) / W < H := Int.ediv_lt_of_lt_mul (by omega) (by rw [Int.mul_comm]; omega)
  unfold opXY
  rw [Bool.and_eq_true]
  refine ⟨decide_eq_true ⟨by omega, by omega, by omega, by omega⟩, ?_⟩
  unfold opn
  rw [zero_at]
  rfl
theorem kc_plain (n k : Nat) : kcF 0 (List.replicate n 0) k = 2 := by
  unfold kcF
  rw [zero_at]
  rfl
theorem mok_plain {W H : Int} {n : Nat} (w1 : 1 ≤ W) (w2 : W ≤ 128) (h1 : 1 ≤ H) (h2 : H ≤ 128) (hn : (n : Int) = W * H) : MOk W H n (List.replicate n 0) [] :=
  ⟨⟨w1, w2, h1, h2, hn, fun x hx => by have := (List.mem_replicate.1 hx).2; omega⟩, by simp, fun k hk => by simp at hk, by simp, by simp, by simp, fun i j h1 h2 => by simp at h2⟩
end Go.Proofs.YthabjihpjdlmoaaDoor
/- Layer 20: the statements' argument; plain grounds; nine tiles. -/
namespace Go.Proofs.YthabjihpjdlmoaaDoor
open Go.ChangeShapes Go.WideShapes Go.ChangeAt Go.RowKit Go.Deep
set_option linter.unusedVariables false
set_option linter.unusedSimpArgs false
def Asks20 (w : World) (v : Value) : Prop := ∃ (W H : Int) (a : Option Addr) (n c : Nat) (xs : List Int) (la : Option Addr) (ln lc : Nat) (bs : List Bd) (x sz : Int) (ta : Option Addr) (tn tc : Nat) (ts : List Int) (na : Option Addr) (nn nc : Nat) (ns : List Int),
  v = .agg #[.int .i64 W, .int .i64 H, .slice a n c, .slice la ln lc, .int .i64 x, .int .i64 sz, .slice ta tn tc, .slice na nn nc] ∧ n ≤ 9223372036854775807 ∧ ln ≤ 9223372036854775807 ∧ tn ≤ 9223372036854775807 ∧ nn ≤ 9223372036854775807 ∧ ln ≤ lc ∧ I64' W ∧ I64' H ∧ I64' x ∧ I64' sz ∧
  By w w.heap.size a n xs ∧ Bq w w.heap.size la ln bs ∧ Nq w w.heap.size ta tn ts ∧ Nq w w.heap.size na nn ns
set_option maxRecDepth 100000 in
theorem asks20_of {H : Type} {enc : TypeId × Value → H} {w : World} {base : Nat} {spare : Nat → Bool} {held : Bool} {fuel : Nat} {x : DataW H × List MemPlace} {cs : Array Value} (hcs : cs.size = Tryd.prog.cellsOf 66)
    (hf : DataW.trod enc Tryd.prog w base spare held fuel 66 cs.toList = some x) : Asks20 w (.agg cs) := by
  have hC : Tryd.prog.cellsOf 66 = 8 := by kernel_rfl
  have h1 : Tryd.prog.cellsOf 28 = 7 := by kernel_rfl
  have h2 : Tryd.prog.cellsOf 26 = 1 := by kernel_rfl
  rw [hC] at hcs
  obtain ⟨l⟩ := cs
  match l, hcs with
  | [c0, c1, c2, c3, c4, c5, c6, c7], _ =>
    obtain ⟨ys, n', _, _, _, hyl, hg⟩ := DataW.trod_struct Tryd.underlying66 hf
    match ys, hyl with
    | [y0, y1], _ =>
      have g0 := hg 0 _ rfl
      have g1 := hg 1 _ rfl
      simp [h1, h2] at g0 g1
      obtain ⟨W, H, a, n, c, xs, la, ln, lc, bs, x, sz, ta, tn, tc, ts, he, hn, hln, htn, hlc, hW, hH, hx, hsz, hby, hbq, hnq⟩ := asks13_of (cs := #[c0, c1, c2, c3, c4, c5, c6]) h1.symm g0
      obtain ⟨na, nn, nc, ns, rfl, hnn, hnq2⟩ := nq_of g1
      simp at he
      obtain ⟨rfl, rfl, rfl, rfl, rfl, rfl, rfl⟩ := he
      exact ⟨W, H, a, n, c, xs, la, ln, lc, bs, x, sz, ta, tn, tc, ts, na, nn, nc, ns, rfl, hn, hln, htn, hnn, hlc, hW, hH, hx, hsz, hby, hbq, hnq, hnq2⟩
theorem num20_any (n : Int) (w : World) : Calls Tryd.prog 47 #[.int .i64 n] w fun e w' => e = .returned (.int .i64 n) ∧ w = w' := by
  go_enter Tryd.func47, Tryd.ntmps47
  go_wp2
  go_ret
  exact ⟨rfl, rfl⟩
/-- Good on a plain ground: s steps from the edge. -/
def inP (W H : Int) (s k : Nat) : Bool := decide ((s : Int) ≤ (k : Int) % W ∧ (k : Int) % W + s < W ∧ (s : Int) ≤ (k : Int) / W ∧ (k : Int) / W + s < H)
theorem gd_plain2 {W H : Int} {n k : Nat} (s : Nat) (hW : 1 ≤ W) (hW2 : W ≤ 128) (hn : (n : Int) = W * H) (hk : k < n) : gdF W H (List.replicate n 0) [] 0 s k = inP W H s k := by
  have t0 := Int.emod_nonneg (k : Int) (show W ≠ 0 by omega)
  have t1 := Int.emod_lt_of_pos (k : Int) (show 0 < W by omega)
  have d0 : 0 ≤ (k : Int) / W := Int.ediv_nonneg (by omega) (by omega)
  have d1 : (k : Int) / W < H := Int.ediv_lt_of_lt_mul (by omega) (by rw [Int.mul_comm]; omega)
  unfold gdF inP
  refine decide_eq_decide.2 ?_
  unfold sC
  rw [← Nat.succ_le_iff, sV_iff hW2, sq_iff]
  constructor
  · intro h
    have a := h (-(s : Int)) (-(s : Int)) (by omega) (by omega) (by omega) (by omega)
    have b := h s s (by omega) (by omega) (by omega) (by omega)
    have a := opXY_in a
    have b := opXY_in b
    omega
  · intro h i j i1 i2 j1 j2
    unfold opXY
    rw [Bool.and_eq_true]
    refine ⟨decide_eq_true ⟨by omega, by omega, by omega, by omega⟩, ?_⟩
    unfold opn
    rw [zero_at]
    rfl
theorem slF_congr {W : Int} {g n : Nat} {gd gd' : Nat → Bool} (h : ∀ t, t < n → gd t = gd' t) (gap d : Int) : slF W g n gd gap d = slF W g n gd' gap d := by
  unfold slF
  exact List.filter_congr fun t ht => h t (List.mem_range.1 (List.mem_filter.1 ht).1)
theorem slL_congr {W : Int} {g n : Nat} {gd gd' : Nat → Bool} (h : ∀ t, t < n → gd t = gd' t) (gap : Int) : ∀ f, slL W g n gd gap f = slL W g n gd' gap f
  | 0 => rfl
  | f + 1 => by
    show slL W g n gd gap f ++ slF W g n gd gap f = slL W g n gd' gap f ++ slF W g n gd' gap f
    rw [slL_congr h gap f, slF_congr h]
theorem slA_congr {W H : Int} {g n : Nat} {gd gd' : Nat → Bool} (h : ∀ t, t < n → gd t = gd' t) (gap : Int) (N : Nat) : slA W H g n gd gap N = slA W H g n gd' gap N := by
  unfold slA
  rw [slL_congr h]
theorem sfind_plain (W H : Int) (a : Option Addr) (n c s goal N : Nat) (sz gl nq : Int) (L : List Nat) (w : World) (hL : LC w) (h : By w w.heap.size a n (List.replicate n 0)) (w1 : 1 ≤ W) (w2 : W ≤ 128) (h1 : 1 ≤ H) (h2 : H ≤ 128) (hn : (n : Int) = W * H) (hg : goal < n) (hN : N ≤ 64) (hs : s ≤ 3) (e1 : Hk (sz = (s : Int))) (e2 : Hk (gl = (goal : Int))) (e3 : Hk (nq = (N : Int))) (hl : Hk (slA W H goal n (inP W H s) (2 * (s : Int) + 1) N = L)) :
    Calls Tryd.prog 46 #[.agg #[.int .i64 W, .int .i64 H, .slice a n c], .slice none 0 0, .int .i64 0, .int .i64 sz, .int .i64 gl, .int .i64 nq] w fun e w' => ∃ v, e = .returned (.tuple #[v, .int .i64 0]) ∧ w'.ownsRow w.heap.size 3 1 v L.length (natsL L) ∧ Below w.heap.size w w' := by
  obtain ⟨rfl⟩ := e1
  obtain ⟨rfl⟩ := e2
  obtain ⟨rfl⟩ := e3
  obtain ⟨rfl⟩ := hl
  have hb := mul_bd w1 w2 h1 h2
  refine (sfind_yes W H a n c (List.replicate n 0) none 0 0 [] 0 s goal N w hL h (Bq.nil _ _ _) (by omega) (by omega) (by omega) hs ⟨mok_plain w1 w2 h1 h2 hn⟩ hg hN).mono ?_
  rintro e z ⟨v, rfl, hv, hb⟩
  rw [slA_congr (fun t ht => gd_plain2 s w1 w2 hn ht)] at hv
  exact ⟨v, rfl, hv, hb⟩
theorem nine_sl : slA 3 3 4 9 (inP 3 3 0) (2 * ((0 : Nat) : Int) + 1) 3 = [4, 0, 1] := by decide +kernel
def intsL (R : List Nat) : List Int := R.map fun t => ((t : Nat) : Int)
theorem nq_of20 {w : World} {S : Nat} {v : Value} {R : List Nat} (h : w.ownsRow S 3 1 v R.length (natsL R)) : ∃ a c, v = .slice a R.length c ∧ Nq w w.heap.size a R.length (intsL R) := by
  obtain ⟨a, c, rfl, ha⟩ := own_form20 h
  refine ⟨a, c, rfl, by simp [intsL], fun h0 => ?_⟩
  obtain ⟨g, rfl⟩ := ha h0
  refine ⟨g, 0, rfl, (h.lt g rfl).2, fun k hk => ?_⟩
  rw [Nat.zero_add, own_at20 h hk]
  simp [intsL, List.getD, hk]
set_option maxRecDepth 100000 in
set_option maxHeartbeats 1600000 in
theorem wakes20_any (w : World) (hL : LC w) : Calls Tryd.prog 48 #[] w fun e w' => e = .returned (.bool true) ∧ Below w.heap.size w w' := by
  have HBY := Hk.mk (By.lit w (List.replicate 9 0) 5 (0, 0) (w.heap.size + 1) 9 rfl (fun b hb => by rw [(List.mem_replicate.1 hb).2]; exact ⟨by omega, by omega⟩) (by omega))
  have HL := Hk.mk (hL.below ((Below.refl _ _).alloc (Nat.le_refl _) (.cells ((List.replicate 9 (0 : Int)).map (Value.int .u8)).toArray 5)) (Nat.le_refl _))
  have hmk : ∀ w, (Instr.makeSlice 22 (.int .i64 9) (.int .i64 9)).run Tryd.prog w = .ok (.slice (some ⟨w.heap.size, 0, none⟩) 9 9) (w.alloc (.cells #[.int .u8 0, .int .u8 0, .int .u8 0, .int .u8 0, .int .u8 0, .int .u8 0, .int .u8 0, .int .u8 0, .int .u8 0] 5)) := fun _ => by kernel_rfl
  have hll : ((List.replicate 9 (0 : Int)).map (Value.int .u8)).toArray = #[.int .u8 0, .int .u8 0, .int .u8 0, .int .u8 0, .int .u8 0, .int .u8 0, .int .u8 0, .int .u8 0, .int .u8 0] := rfl
  rw [hll] at HBY HL
  have HN := Hk.mk nine_sl
  clear hL hll
  go_enter Tryd.func48, Tryd.ntmps48
  go_wp2_with (first
    | (go_at_call 46; go_must (refine (sfind_plain 3 3 (some ⟨w.heap.size, 0, none⟩) 9 9 0 4 3 0 4 3 [4, 0, 1] _ HL.out (HBY.out.mono (by simp)) (by omega) (by omega) (by omega) (by omega) (by omega) (by omega) (by omega) (by omega) ⟨rfl⟩ ⟨rfl⟩ ⟨rfl⟩ HN).mono ?_); rintro e w1 ⟨v, rfl, hv, hb1⟩; obtain ⟨va, vc, rfl, hnq⟩ := nq_of20 hv; have HNQ : Hk (Nq w1 w1.heap.size va 3 [4, 0, 1]) := ⟨hnq⟩; have HB1 := Hk.mk hb1; have HNL := Hk.mk (nq_lit w1 [4, 0, 1] 3 3 rfl); have hlen3 : ([4, 0, 1] : List Nat).length = 3 := rfl; clear hv hb1 hnq)
    | (go_at_call 47; (with_reducible refine (num20_any _ _).mono ?_); rintro e w' ⟨rfl, rfl⟩)
    | (go_at_call 29; go_must (refine (eqn_yes va (some ⟨w1.heap.size, 0, none⟩) 3 vc 3 w1.heap.size (w1.heap.size + 1) [4, 0, 1] _ (HNQ.out.below ((Below.refl _ _).alloc (Nat.le_refl _) _) (Nat.le_refl _)) HNL.out (by omega)).mono ?_); rintro e w2 ⟨rfl, m, rfl⟩))
  go_ret
  exact ⟨rfl, below_drewN ((((Below.refl _ _).alloc (Nat.le_refl _) _).trans (HB1.out.mono (by simp <;> omega))).alloc (by have := HB1.out.size; simp at this; omega) _) _⟩
end Go.Proofs.YthabjihpjdlmoaaDoor
/- Plain words of layer 20: none comes twice, the farther ones come later. -/
namespace Go.Proofs.YthabjihpjdlmoaaDoor
open Go.ChangeShapes Go.WideShapes Go.ChangeAt Go.RowKit Go.Deep
set_option linter.unusedVariables false
set_option linter.unusedSimpArgs false
def dst (W : Int) (g t : Nat) : Int := max (max ((t : Int) % W - (g : Int) % W) (-((t : Int) % W - (g : Int) % W))) (max ((t : Int) / W - (g : Int) / W) (-((t : Int) / W - (g : Int) / W)))
theorem slP_iff {W : Int} {g t : Nat} {gap d : Int} : slP W g gap d t = true ↔ dst W g t = d ∧ ((t : Int) % W - (g : Int) % W) % gap = 0 ∧ ((t : Int) / W - (g : Int) / W) % gap = 0 := by
  unfold slP dst
  exact slX_iff _ _ _ _
/-- What is known of two of them. -/
def slR (W : Int) (g : Nat) (a b : Nat) : Prop := dst W g a ≤ dst W g b ∧ a ≠ b
/-- What is known of one of them. -/
structure SlM (W : Int) (g n : Nat) (gd : Nat → Bool) (gap : Int) (t : Nat) : Prop where
  lt : t < n
  gd : gd t = true
  mx : ((t : Int) % W - (g : Int) % W) % gap = 0
  my : ((t : Int) / W - (g : Int) / W) % gap = 0
theorem slF_mem {W : Int} {g n : Nat} {gd : Nat → Bool} {gap d : Int} {t : Nat} (h : t ∈ slF W g n gd gap d) : SlM W g n gd gap t ∧ dst W g t = d := by
  unfold slF ringL at h
  obtain ⟨h1, h2⟩ := List.mem_filter.1 h
  obtain ⟨h3, h4⟩ := List.mem_filter.1 h1
  obtain ⟨a, b, c⟩ := slP_iff.1 h4
  exact ⟨⟨List.mem_range.1 h3, h2, b, c⟩, a⟩
theorem slL_mem {W : Int} {g n : Nat} {gd : Nat → Bool} {gap : Int} {t : Nat} : ∀ {f : Nat}, t ∈ slL W g n gd gap f → SlM W g n gd gap t ∧ dst W g t < (f : Int)
  | 0, h => by cases h
  | f + 1, h => by
    rcases List.mem_append.1 h with h | h
    · have := slL_mem h
      exact ⟨this.1, by have := this.2; omega⟩
    · have := slF_mem h
      exact ⟨this.1, by have := this.2; omega⟩
theorem slL_pair (W : Int) (g n : Nat) (gd : Nat → Bool) (gap : Int) : ∀ f, (slL W g n gd gap f).Pairwise (slR W g)
  | 0 => List.Pairwise.nil
  | f + 1 => by
    show (slL W g n gd gap f ++ slF W g n gd gap f).Pairwise (slR W g)
    rw [List.pairwise_append]
    refine ⟨slL_pair W g n gd gap f, ?_, fun a ha b hb => ?_⟩
    · have h1 : (slF W g n gd gap f).Pairwise (fun a b => a < b) := (List.pairwise_lt_range.filter _).filter _
      refine h1.imp_of_mem ?_
      intro a b ha hb hlt
      have h2 := (slF_mem ha).2
      have h3 := (slF_mem hb).2
      exact ⟨by omega, by omega⟩
    · have h2 := (slL_mem ha).2
      have h3 := (slF_mem hb).2
      exact ⟨by omega, fun e => by rw [e] at h2; omega⟩
theorem slA_pair (W H : Int) (g n : Nat) (gd : Nat → Bool) (gap : Int) (N : Nat) : (slA W H g n gd gap N).Pairwise (slR W g) :=
  (slL_pair W g n gd gap _).sublist (List.take_sublist _ _)
theorem slA_mem {W H : Int} {g n : Nat} {gd : Nat → Bool} {gap : Int} {N t : Nat} (h : t ∈ slA W H g n gd gap N) : SlM W g n gd gap t := (slL_mem (List.mem_of_mem_take h)).1
theorem slA_fewer (W H : Int) (g n : Nat) (gd : Nat → Bool) (gap : Int) {N M : Nat} (h : M ≤ N) : slA W H g n gd gap M = (slA W H g n gd gap N).take M := by
  unfold slA
  rw [List.take_take, Nat.min_eq_left h]
theorem ring_zero {W H : Int} {g n : Nat} {gap : Int} (hW : 1 ≤ W) (hn : (n : Int) = W * H) (hg : g < n) : ringL W g n gap 0 = [g] := by
  have h := filter_range_step (n := n) (p := fun _ => false) (q := slP W g gap 0) (k := g) hg (fun t ht => ?_) (fun t ht h => by cases h)
  · unfold ringL
    rw [h]
    simp
  · rw [Bool.false_or]
    by_cases e : t = g
    · subst e
      rw [decide_eq_true rfl]
      rw [slP_iff]
      unfold dst
      refine ⟨by omega, ?_, ?_⟩
      · rw [Int.sub_self]; rfl
      · rw [Int.sub_self]; rfl
    · rw [decide_eq_false e, ← Bool.not_eq_true, slP_iff]
      intro hh
      apply e
      have h1 := hh.1
      unfold dst at h1
      have a := Int.emod_add_mul_ediv (t : Int) W
      have b := Int.emod_add_mul_ediv (g : Int) W
      have c1 : (t : Int) % W = (g : Int) % W := by omega
      have c2 : (t : Int) / W = (g : Int) / W := by omega
      rw [c1, c2] at a
      omega
theorem slA_first {W H : Int} {g n : Nat} {gd : Nat → Bool} {gap : Int} {N : Nat} (hW : 1 ≤ W) (hH : 1 ≤ H) (hn : (n : Int) = W * H) (hg : g < n) (h : gd g = true) (hN : 0 < N) : 0 < (slA W H g n gd gap N).length ∧ (slA W H g n gd gap N).getD 0 0 = g := by
  obtain ⟨r, hr⟩ := slL_pre W g n gd gap 1 ((W + H + 1).toNat - 1)
  rw [show 1 + ((W + H + 1).toNat - 1) = (W + H + 1).toNat by omega] at hr
  have h1 : slL W g n gd gap 1 = [g] := by
    show [] ++ slF W g n gd gap ((0 : Nat) : Int) = [g]
    unfold slF
    rw [show ((0 : Nat) : Int) = 0 from rfl, ring_zero hW hn hg]
    simp [h]
  unfold slA
  rw [hr, h1]
  obtain ⟨m, rfl⟩ : ∃ m, N = m + 1 := ⟨N - 1, by omega⟩
  simp
/-- Two of them are a gap apart, across or along. -/
theorem sl_far {W : Int} {g n : Nat} {gd : Nat → Bool} {gap : Int} {a b : Nat} (hg : gap = 1 ∨ gap = 3 ∨ gap = 5 ∨ gap = 7) (ha : SlM W g n gd gap a) (hb : SlM W g n gd gap b) (h : a ≠ b) :
    gap ≤ (a : Int) % W - (b : Int) % W ∨ gap ≤ (b : Int) % W - (a : Int) % W ∨ gap ≤ (a : Int) / W - (b : Int) / W ∨ gap ≤ (b : Int) / W - (a : Int) / W := by
  have a1 := ha.mx
  have a2 := ha.my
  have b1 := hb.mx
  have b2 := hb.my
  have ea := Int.emod_add_mul_ediv (a : Int) W
  have eb := Int.emod_add_mul_ediv (b : Int) W
  have hne : ¬ ((a : Int) % W = (b : Int) % W ∧ (a : Int) / W = (b : Int) / W) := by
    rintro ⟨e1, e2⟩
    rw [e1, e2] at ea
    omega
  clear ea eb
  generalize (a : Int) % W = ax at *
  generalize (a : Int) / W = ay at *
  generalize (b : Int) % W = bx at *
  generalize (b : Int) / W = by' at *
  generalize (g : Int) % W = gx at *
  generalize (g : Int) / W = gy at *
  rcases hg with q | q | q | q <;> subst q <;> omega
end Go.Proofs.YthabjihpjdlmoaaDoor
