import Derived.Deep.QuietTactic
import Derived.BigQuiet
import Derived.Deep.RegionWith
import Derived.Deep.RegionHeld3
import Derived.Deep.DeepCutAuto
import Derived.Deep.DeepFit
import Derived.Outline
import Derived.SevenTiedAt
import Derived.ProofKit
import Derived.LaidMore
import Derived.OpenShut
import Derived.Stop.Joined
import Derived.Test.YtjjodfdmbiebnaaDoorKds
import Derived.Test.YtjjodfdmbiebnaaDoorCards
import Derived.Test.YtjjodfdmbiebnaaDoorTie
/- For every argument, DiscFits answers true and leaves its argument as it was: discs at good tiles' centres. No condition; the table of package kind is tied to the program's text. -/
namespace Go.Proofs.YtjjodfdmbiebnaaDoor
open Go.ChangeShapes Go.WideShapes Go.ChangeAt Go.RowKit Go.Deep
set_option linter.unusedVariables false
set_option linter.unusedSimpArgs false
theorem rcenter_px (AX AY W H t : Int) (s : Value) (w : World) (w1 : 1 ≤ W) (w2 : W ≤ 128) (t0 : 0 ≤ t) (t1 : t ≤ 16384) (E : Hk (t % W * 65536 + 32768 = AX ∧ t / W * 65536 + 32768 = AY)) :
    Calls Tryd.prog 48 #[.agg #[.int .i64 W, .int .i64 H, s], .int .i64 t] w fun e' w' => e' = .returned (.agg #[.int .i64 AX, .int .i64 AY]) ∧ Below w.heap.size w w' := by
  obtain ⟨rfl, rfl⟩ := E.out; exact rcenter_any W H t s w w1 w2 t0 t1
theorem meets_at {x y r : Int} {W : Int} {t : Nat} (h : meetsS W t (x * 65536 + 32768) (y * 65536 + 32768) r = true) : (x - (t : Int) % W) * 65536 - 32768 < r ∧ ((t : Int) % W - x) * 65536 - 32768 < r ∧ (y - (t : Int) / W) * 65536 - 32768 < r ∧ ((t : Int) / W - y) * 65536 - 32768 < r := by
  unfold meetsS at h
  rw [Bool.and_eq_true, Bool.and_eq_true, decide_eq_true_iff, decide_eq_true_iff] at h
  obtain ⟨h1, h2, -⟩ := h
  unfold bsS at h1 h2
  revert h1 h2
  generalize (t : Int) % W = u
  generalize (t : Int) / W = v
  intro h1 h2
  refine ⟨?_, ?_, ?_, ?_⟩
  · split at h1
    · omega
    · split at h1 <;> omega
  · split at h1
    · omega
    · split at h1 <;> omega
  · split at h2
    · omega
    · split at h2 <;> omega
  · split at h2
    · omega
    · split at h2 <;> omega
theorem fits_good {W H : Int} {n k s : Nat} {f : Nat → Bool} (w1 : 1 ≤ W) (w2 : W ≤ 128) (nn : (n : Int) = W * H) (hk : k < n) (hs : s < sC W H f k) : frS W H f n ((k : Int) % W * 65536 + 32768) ((k : Int) / W * 65536 + 32768) ((s : Int) * 65536 + 32768) = true := by
  have hA := at_of (H := H) w1 nn hk
  have hq := (sq_iff (opXY W H f) s _ _).1 ((sV_iff (H := H) (f := f) w2 _ _ (s + 1)).1 hs)
  revert hA hq
  generalize (k : Int) % W = x
  generalize (k : Int) / W = y
  intro hA hq
  have a1 := opXY_in (hq (-(s : Int)) (-(s : Int)) (by omega) (by omega) (by omega) (by omega))
  have a2 := opXY_in (hq s s (by omega) (by omega) (by omega) (by omega))
  refine frS_yes (by omega) fun t ht => ?_
  cases q : meetsS W t (x * 65536 + 32768) (y * 65536 + 32768) ((s : Int) * 65536 + 32768)
  · exact Or.inr rfl
  · left
    have hm := meets_at q
    have hT := at_of (H := H) w1 nn ht
    revert hm hT
    generalize (t : Int) % W = u
    generalize (t : Int) / W = v
    intro hm hT
    have := hq (u - x) (v - y) (by omega) (by omega) (by omega) (by omega)
    rw [show x + (u - x) = u by omega, show y + (v - y) = v by omega, op_at hT] at this
    exact this
theorem fits_low {W H : Int} {n k : Nat} {f : Nat → Bool} (w1 : 1 ≤ W) (nn : (n : Int) = W * H) (hk : k < n) : frS W H f n ((k : Int) % W * 65536 + 32768) ((k : Int) / W * 65536 + 32768) 1 = f k := by
  have hA := at_of (H := H) w1 nn hk
  have hself : meetsS W k ((k : Int) % W * 65536 + 32768) ((k : Int) / W * 65536 + 32768) 1 = true := by
    unfold meetsS bsS
    generalize (k : Int) % W = x
    generalize (k : Int) / W = y
    rw [if_neg (by omega), if_neg (by omega), if_neg (by omega), if_neg (by omega)]
    decide
  cases hf : f k
  · exact frS_hit hk hf hself
  · have x0 := hA.x0; have x1 := hA.x1; have y0 := hA.y0; have y1 := hA.y1
    refine frS_yes (by omega) fun t ht => ?_
    cases q : meetsS W t ((k : Int) % W * 65536 + 32768) ((k : Int) / W * 65536 + 32768) 1
    · exact Or.inr rfl
    · left
      have hm := meets_at q
      have e1 := Int.emod_add_mul_ediv (k : Int) W
      have e2 := Int.emod_add_mul_ediv (t : Int) W
      have : (t : Int) % W = (k : Int) % W := by omega
      have h3 : (t : Int) / W = (k : Int) / W := by omega
      rw [this, h3] at e2
      have : t = k := by omega
      rw [this]; exact hf
set_option maxRecDepth 100000 in
theorem discFits_big (W H : Int) (a : Option Addr) (n c : Nat) (xs : List Int) (la : Option Addr) (ln lc : Nat) (bs : List Bd) (x sz : Int) (ta : Option Addr) (tn tc : Nat) (w : World) (hL : LC w) (h : By w w.heap.size a n xs) (hb0 : Bq w w.heap.size la ln bs) (hn : n ≤ 9223372036854775807) (hln : ln ≤ 9223372036854775807) (htn : tn ≤ 9223372036854775807) (HV : Hk (hv13 n ln tn = true)) :
    Calls Tryd.prog 11 #[.agg #[.int .i64 W, .int .i64 H, .slice a n c, .slice la ln lc, .int .i64 x, .int .i64 sz, .slice ta tn tc]] w fun e w' => e = .returned (.bool true) ∧ Below w.heap.size w w' := by
  have HWB : Hk (Below w.heap.size w (w.alloc (.cells #[.int .i64 W, .int .i64 H, .slice a n c, .slice la ln lc, .int .i64 x, .int .i64 sz, .slice ta tn tc] 74))) := ⟨(Below.refl _ _).alloc (Nat.le_refl _) _⟩
  have hNW : w.heap.size + 1 ≤ ((w.alloc (.cells #[.int .i64 W, .int .i64 H, .slice a n c, .slice la ln lc, .int .i64 x, .int .i64 sz, .slice ta tn tc] 74))).heap.size := by simp
  have HB : Hk (Below (w.heap.size + 1) (w.alloc (.cells #[.int .i64 W, .int .i64 H, .slice a n c, .slice la ln lc, .int .i64 x, .int .i64 sz, .slice ta tn tc] 74)) (w.alloc (.cells #[.int .i64 W, .int .i64 H, .slice a n c, .slice la ln lc, .int .i64 x, .int .i64 sz, .slice ta tn tc] 74))) := ⟨Below.refl _ _⟩
  have HTR : Hk (∀ X, Below (w.heap.size + 1) (w.alloc (.cells #[.int .i64 W, .int .i64 H, .slice a n c, .slice la ln lc, .int .i64 x, .int .i64 sz, .slice ta tn tc] 74)) X → Below w.heap.size w X) := ⟨fun X hX => HWB.out.trans (hX.mono (by omega))⟩
  have HBY := Hk.mk (fun (X : World) (hX : Below (w.heap.size + 1) (w.alloc (.cells #[.int .i64 W, .int .i64 H, .slice a n c, .slice la ln lc, .int .i64 x, .int .i64 sz, .slice ta tn tc] 74)) X) => h.below (HTR.out X hX) (Nat.le_refl _))
  have HBQ := Hk.mk (fun (X : World) (hX : Below (w.heap.size + 1) (w.alloc (.cells #[.int .i64 W, .int .i64 H, .slice a n c, .slice la ln lc, .int .i64 x, .int .i64 sz, .slice ta tn tc] 74)) X) => hb0.below (HTR.out X hX) (Nat.le_refl _))
  have HLC := Hk.mk (fun (X : World) (hX : Below (w.heap.size + 1) (w.alloc (.cells #[.int .i64 W, .int .i64 H, .slice a n c, .slice la ln lc, .int .i64 x, .int .i64 sz, .slice ta tn tc] 74)) X) => hL.below (HTR.out X hX) (Nat.le_refl _))
  clear h hb0 hL
  obtain ⟨hc, hf, hl, hn', hm⟩ := kw_rules HB.out hNW
  go_enter Tryd.func11, Tryd.ntmps11
  go_wp2_with (go_at_call 45; (with_reducible refine (heavy13_as true W H x sz a la ta n c ln lc tn tc _ (by omega) (by omega) (by omega) HV).mono ?_); rintro e z ⟨rfl, hb⟩; replace HB := Hk.mk (kw_step HB.out hNW hb); clear hb; clear hc hf hl hn' hm; obtain ⟨hc, hf, hl, hn', hm⟩ := kw_rules HB.out hNW)
  go_ret
  exact ⟨rfl, HTR.out _ HB.out⟩
set_option maxRecDepth 100000 in
theorem discFits_no (W H : Int) (a : Option Addr) (n c : Nat) (xs : List Int) (la : Option Addr) (ln lc : Nat) (bs : List Bd) (x sz : Int) (ta : Option Addr) (tn tc : Nat) (w : World) (hL : LC w) (h : By w w.heap.size a n xs) (hb0 : Bq w w.heap.size la ln bs) (hn : n ≤ 700) (hln : ln ≤ 30) (htn : tn ≤ 30) (HV : Hk (hv13 n ln tn = false)) (HM : Hk (¬ (MOk W H n xs bs ∧ (0 ≤ x ∧ x ≤ 2) ∧ 0 ≤ sz ∧ sz ≤ 3))) :
    Calls Tryd.prog 11 #[.agg #[.int .i64 W, .int .i64 H, .slice a n c, .slice la ln lc, .int .i64 x, .int .i64 sz, .slice ta tn tc]] w fun e w' => e = .returned (.bool true) ∧ Below w.heap.size w w' := by
  have HWB : Hk (Below w.heap.size w (w.alloc (.cells #[.int .i64 W, .int .i64 H, .slice a n c, .slice la ln lc, .int .i64 x, .int .i64 sz, .slice ta tn tc] 74))) := ⟨(Below.refl _ _).alloc (Nat.le_refl _) _⟩
  have hNW : w.heap.size + 1 ≤ ((w.alloc (.cells #[.int .i64 W, .int .i64 H, .slice a n c, .slice la ln lc, .int .i64 x, .int .i64 sz, .slice ta tn tc] 74))).heap.size := by simp
  have HB : Hk (Below (w.heap.size + 1) (w.alloc (.cells #[.int .i64 W, .int .i64 H, .slice a n c, .slice la ln lc, .int .i64 x, .int .i64 sz, .slice ta tn tc] 74)) (w.alloc (.cells #[.int .i64 W, .int .i64 H, .slice a n c, .slice la ln lc, .int .i64 x, .int .i64 sz, .slice ta tn tc] 74))) := ⟨Below.refl _ _⟩
  have HTR : Hk (∀ X, Below (w.heap.size + 1) (w.alloc (.cells #[.int .i64 W, .int .i64 H, .slice a n c, .slice la ln lc, .int .i64 x, .int .i64 sz, .slice ta tn tc] 74)) X → Below w.heap.size w X) := ⟨fun X hX => HWB.out.trans (hX.mono (by omega))⟩
  have HBY := Hk.mk (fun (X : World) (hX : Below (w.heap.size + 1) (w.alloc (.cells #[.int .i64 W, .int .i64 H, .slice a n c, .slice la ln lc, .int .i64 x, .int .i64 sz, .slice ta tn tc] 74)) X) => h.below (HTR.out X hX) (Nat.le_refl _))
  have HBQ := Hk.mk (fun (X : World) (hX : Below (w.heap.size + 1) (w.alloc (.cells #[.int .i64 W, .int .i64 H, .slice a n c, .slice la ln lc, .int .i64 x, .int .i64 sz, .slice ta tn tc] 74)) X) => hb0.below (HTR.out X hX) (Nat.le_refl _))
  have HLC := Hk.mk (fun (X : World) (hX : Below (w.heap.size + 1) (w.alloc (.cells #[.int .i64 W, .int .i64 H, .slice a n c, .slice la ln lc, .int .i64 x, .int .i64 sz, .slice ta tn tc] 74)) X) => hL.below (HTR.out X hX) (Nat.le_refl _))
  clear h hb0 hL
  obtain ⟨hc, hf, hl, hn', hm⟩ := kw_rules HB.out hNW
  go_enter Tryd.func11, Tryd.ntmps11
  go_wp2_with (first | (go_at_call 45; (with_reducible refine (heavy13_as false W H x sz a la ta n c ln lc tn tc _ (by omega) (by omega) (by omega) HV).mono ?_); rintro e z ⟨rfl, hb⟩; replace HB := Hk.mk (kw_step HB.out hNW hb); clear hb; clear hc hf hl hn' hm; obtain ⟨hc, hf, hl, hn', hm⟩ := kw_rules HB.out hNW) | (go_at_call 46; (with_reducible refine (rmay13_as false W H a n c xs la ln lc bs x sz _ ?_ ?_ (by omega) (by omega) ⟨⟨fun h => (by cases h), fun h => absurd h HM.out⟩⟩).mono ?_); (exact (HBY.out _ HB.out).mono (hsz1 HB.out)); (exact (HBQ.out _ HB.out).mono (hsz1 HB.out)); rintro e z ⟨rfl, hb⟩; replace HB := Hk.mk (kw_step HB.out hNW hb); clear hb; clear hc hf hl hn' hm; obtain ⟨hc, hf, hl, hn', hm⟩ := kw_rules HB.out hNW))
  go_ret
  exact ⟨rfl, HTR.out _ HB.out⟩
set_option maxRecDepth 100000 in
theorem discFits_long (W H : Int) (a : Option Addr) (n c : Nat) (xs : List Int) (la : Option Addr) (ln lc : Nat) (bs : List Bd) (x sz : Int) (ta : Option Addr) (tn tc : Nat) (w : World) (hL : LC w) (h : By w w.heap.size a n xs) (hb0 : Bq w w.heap.size la ln bs) (hn : n ≤ 700) (hln : ln ≤ 30) (htn : tn ≤ 30) (HV : Hk (hv13 n ln tn = false)) (HM : Hk (MOk W H n xs bs ∧ (0 ≤ x ∧ x ≤ 2) ∧ 0 ≤ sz ∧ sz ≤ 3)) (h3 : 300 < n) :
    Calls Tryd.prog 11 #[.agg #[.int .i64 W, .int .i64 H, .slice a n c, .slice la ln lc, .int .i64 x, .int .i64 sz, .slice ta tn tc]] w fun e w' => e = .returned (.bool true) ∧ Below w.heap.size w w' := by
  have HWB : Hk (Below w.heap.size w (w.alloc (.cells #[.int .i64 W, .int .i64 H, .slice a n c, .slice la ln lc, .int .i64 x, .int .i64 sz, .slice ta tn tc] 74))) := ⟨(Below.refl _ _).alloc (Nat.le_refl _) _⟩
  have hNW : w.heap.size + 1 ≤ ((w.alloc (.cells #[.int .i64 W, .int .i64 H, .slice a n c, .slice la ln lc, .int .i64 x, .int .i64 sz, .slice ta tn tc] 74))).heap.size := by simp
  have HB : Hk (Below (w.heap.size + 1) (w.alloc (.cells #[.int .i64 W, .int .i64 H, .slice a n c, .slice la ln lc, .int .i64 x, .int .i64 sz, .slice ta tn tc] 74)) (w.alloc (.cells #[.int .i64 W, .int .i64 H, .slice a n c, .slice la ln lc, .int .i64 x, .int .i64 sz, .slice ta tn tc] 74))) := ⟨Below.refl _ _⟩
  have HTR : Hk (∀ X, Below (w.heap.size + 1) (w.alloc (.cells #[.int .i64 W, .int .i64 H, .slice a n c, .slice la ln lc, .int .i64 x, .int .i64 sz, .slice ta tn tc] 74)) X → Below w.heap.size w X) := ⟨fun X hX => HWB.out.trans (hX.mono (by omega))⟩
  have HBY := Hk.mk (fun (X : World) (hX : Below (w.heap.size + 1) (w.alloc (.cells #[.int .i64 W, .int .i64 H, .slice a n c, .slice la ln lc, .int .i64 x, .int .i64 sz, .slice ta tn tc] 74)) X) => h.below (HTR.out X hX) (Nat.le_refl _))
  have HBQ := Hk.mk (fun (X : World) (hX : Below (w.heap.size + 1) (w.alloc (.cells #[.int .i64 W, .int .i64 H, .slice a n c, .slice la ln lc, .int .i64 x, .int .i64 sz, .slice ta tn tc] 74)) X) => hb0.below (HTR.out X hX) (Nat.le_refl _))
  have HLC := Hk.mk (fun (X : World) (hX : Below (w.heap.size + 1) (w.alloc (.cells #[.int .i64 W, .int .i64 H, .slice a n c, .slice la ln lc, .int .i64 x, .int .i64 sz, .slice ta tn tc] 74)) X) => hL.below (HTR.out X hX) (Nat.le_refl _))
  clear h hb0 hL
  obtain ⟨hc, hf, hl, hn', hm⟩ := kw_rules HB.out hNW
  have d3 : decide ((300 : Int) < (n : Int)) = true := by simp; omega
  go_enter Tryd.func11, Tryd.ntmps11
  go_wp2_with (first | (go_at_call 45; (with_reducible refine (heavy13_as false W H x sz a la ta n c ln lc tn tc _ (by omega) (by omega) (by omega) HV).mono ?_); rintro e z ⟨rfl, hb⟩; replace HB := Hk.mk (kw_step HB.out hNW hb); clear hb; clear hc hf hl hn' hm; obtain ⟨hc, hf, hl, hn', hm⟩ := kw_rules HB.out hNW) | (go_at_call 46; (with_reducible refine (rmay13_as true W H a n c xs la ln lc bs x sz _ ?_ ?_ (by omega) (by omega) ⟨⟨fun _ => HM.out, fun _ => rfl⟩⟩).mono ?_); (exact (HBY.out _ HB.out).mono (hsz1 HB.out)); (exact (HBQ.out _ HB.out).mono (hsz1 HB.out)); rintro e z ⟨rfl, hb⟩; replace HB := Hk.mk (kw_step HB.out hNW hb); clear hb; clear hc hf hl hn' hm; obtain ⟨hc, hf, hl, hn', hm⟩ := kw_rules HB.out hNW))
  go_ret
  exact ⟨rfl, HTR.out _ HB.out⟩
set_option maxRecDepth 100000 in
set_option maxHeartbeats 1600000 in
theorem discFits_yes (W H : Int) (a : Option Addr) (n c : Nat) (xs : List Int) (la : Option Addr) (ln lc : Nat) (bs : List Bd) (cl s : Nat) (ta : Option Addr) (tn tc : Nat) (w : World) (hL : LC w) (h : By w w.heap.size a n xs) (hb0 : Bq w w.heap.size la ln bs) (hn : n ≤ 300) (hln : ln ≤ 30) (htn : tn ≤ 30) (HV : Hk (hv13 n ln tn = false)) (hc3 : cl < 3) (hs : s ≤ 3) (MM : Hk (MOk W H n xs bs)) :
    Calls Tryd.prog 11 #[.agg #[.int .i64 W, .int .i64 H, .slice a n c, .slice la ln lc, .int .i64 cl, .int .i64 s, .slice ta tn tc]] w fun e w' => e = .returned (.bool true) ∧ Below w.heap.size w w' := by
  have HWB : Hk (Below w.heap.size w (w.alloc (.cells #[.int .i64 W, .int .i64 H, .slice a n c, .slice la ln lc, .int .i64 cl, .int .i64 s, .slice ta tn tc] 74))) := ⟨(Below.refl _ _).alloc (Nat.le_refl _) _⟩
  have hNW : w.heap.size + 1 ≤ ((w.alloc (.cells #[.int .i64 W, .int .i64 H, .slice a n c, .slice la ln lc, .int .i64 cl, .int .i64 s, .slice ta tn tc] 74))).heap.size := by simp
  have HB : Hk (Below (w.heap.size + 1) (w.alloc (.cells #[.int .i64 W, .int .i64 H, .slice a n c, .slice la ln lc, .int .i64 cl, .int .i64 s, .slice ta tn tc] 74)) (w.alloc (.cells #[.int .i64 W, .int .i64 H, .slice a n c, .slice la ln lc, .int .i64 cl, .int .i64 s, .slice ta tn tc] 74))) := ⟨Below.refl _ _⟩
  have HTR : Hk (∀ X, Below (w.heap.size + 1) (w.alloc (.cells #[.int .i64 W, .int .i64 H, .slice a n c, .slice la ln lc, .int .i64 cl, .int .i64 s, .slice ta tn tc] 74)) X → Below w.heap.size w X) := ⟨fun X hX => HWB.out.trans (hX.mono (by omega))⟩
  have HBY := Hk.mk (fun (X : World) (hX : Below (w.heap.size + 1) (w.alloc (.cells #[.int .i64 W, .int .i64 H, .slice a n c, .slice la ln lc, .int .i64 cl, .int .i64 s, .slice ta tn tc] 74)) X) => h.below (HTR.out X hX) (Nat.le_refl _))
  have HBQ := Hk.mk (fun (X : World) (hX : Below (w.heap.size + 1) (w.alloc (.cells #[.int .i64 W, .int .i64 H, .slice a n c, .slice la ln lc, .int .i64 cl, .int .i64 s, .slice ta tn tc] 74)) X) => hb0.below (HTR.out X hX) (Nat.le_refl _))
  have HLC := Hk.mk (fun (X : World) (hX : Below (w.heap.size + 1) (w.alloc (.cells #[.int .i64 W, .int .i64 H, .slice a n c, .slice la ln lc, .int .i64 cl, .int .i64 s, .slice ta tn tc] 74)) X) => hL.below (HTR.out X hX) (Nat.le_refl _))
  clear h hb0 hL
  obtain ⟨hc, hf, hl, hn', hm⟩ := kw_rules HB.out hNW
  have d3 : decide ((300 : Int) < (n : Int)) = false := by simp; omega
  have w1 := MM.out.g.w1; have w2 := MM.out.g.w2; have h1 := MM.out.g.h1; have h2 := MM.out.g.h2
  have HNN := Hk.mk MM.out.g.nn
  go_enter Tryd.func11, Tryd.ntmps11
  go_wp2_with (first
    | (go_at_call 45; (with_reducible refine (heavy13_as false W H cl s a la ta n c ln lc tn tc _ (by omega) (by omega) (by omega) HV).mono ?_); rintro e z ⟨rfl, hb⟩; replace HB := Hk.mk (kw_step HB.out hNW hb); clear hb; clear hc hf hl hn' hm; obtain ⟨hc, hf, hl, hn', hm⟩ := kw_rules HB.out hNW)
    | (go_at_call 46; (with_reducible refine (rmay13_as true W H a n c xs la ln lc bs cl s _ ?_ ?_ (by omega) (by omega) ⟨⟨fun _ => ⟨MM.out, by omega, by omega⟩, fun _ => rfl⟩⟩).mono ?_); (exact (HBY.out _ HB.out).mono (hsz1 HB.out)); (exact (HBQ.out _ HB.out).mono (hsz1 HB.out)); rintro e z ⟨rfl, hb⟩; replace HB := Hk.mk (kw_step HB.out hNW hb); clear hb; clear hc hf hl hn' hm; obtain ⟨hc, hf, hl, hn', hm⟩ := kw_rules HB.out hNW)
    | (go_at_call 47; (with_reducible refine (rgood_any W H a n c xs la ln lc bs cl s _ ?_ ?_ (by omega) hc3 hs MM).mono ?_); (exact (HBY.out _ HB.out).mono (hsz1 HB.out)); (exact (HBQ.out _ HB.out).mono (hsz1 HB.out)); rintro e z ⟨I, rfl, hg, hA, hb⟩; have HA1 := Hk.mk hA; clear hA hg; replace HB := Hk.mk (kw_step HB.out hNW hb); clear hb; clear hc hf hl hn' hm; obtain ⟨hc, hf, hl, hn', hm⟩ := kw_rules HB.out hNW)
    | (go_at_call 25; (with_reducible refine (ropen_any W H a n c xs la ln lc bs _ ?_ ?_ cl hc3 MM).mono ?_); (exact (HBY.out _ HB.out).mono (hsz1 HB.out)); (exact (HBQ.out _ HB.out).mono (hsz1 HB.out)); rintro e z ⟨J, rfl, hg, hA, hb⟩; replace HA1 := Hk.mk (HA1.out.later hb); have HA2 := Hk.mk hA; clear hA hg; replace HB := Hk.mk (kw_step HB.out hNW hb); clear hb; clear hc hf hl hn' hm; obtain ⟨hc, hf, hl, hn', hm⟩ := kw_rules HB.out hNW))
  clear hc hf hl hn' hm
  have HA1 := HA1; have HA2 := HA2
  have HZ := Hk.mk (fun (X : World) (hX : Below z.heap.size z X) => HB.out.trans (hX.mono (kw_size HB.out hNW)))
  have HBZ : Hk (Below z.heap.size z z) := ⟨Below.refl _ _⟩
  have hwz : w.heap.size < z.heap.size := by have := kw_size HB.out hNW; omega
  have hIz : I < z.heap.size := HA1.out.lt
  have hJz : J < z.heap.size := HA2.out.lt
  have D0 : z.cell? ⟨w.heap.size, 0, none⟩ = some (.int .i64 W) := by rw [HB.out.cell (p := ⟨w.heap.size, 0, none⟩) (by show w.heap.size < _; omega)]; go_simp
  have D1 : z.cell? ⟨w.heap.size, 1, none⟩ = some (.int .i64 H) := by rw [HB.out.cell (p := ⟨w.heap.size, 1, none⟩) (by show w.heap.size < _; omega)]; go_simp
  have D2 : z.cell? ⟨w.heap.size, 2, none⟩ = some (.slice a n c) := by rw [HB.out.cell (p := ⟨w.heap.size, 2, none⟩) (by show w.heap.size < _; omega)]; go_simp
  have D3 : z.cell? ⟨w.heap.size, 3, none⟩ = some (.slice la ln lc) := by rw [HB.out.cell (p := ⟨w.heap.size, 3, none⟩) (by show w.heap.size < _; omega)]; go_simp
  have D4 : z.cell? ⟨w.heap.size, 4, none⟩ = some (.int .i64 cl) := by rw [HB.out.cell (p := ⟨w.heap.size, 4, none⟩) (by show w.heap.size < _; omega)]; go_simp
  have HYZ := Hk.mk (fun (X : World) (hX : Below z.heap.size z X) => HBY.out X (HZ.out X hX))
  have HQZ := Hk.mk (fun (X : World) (hX : Below z.heap.size z X) => HBQ.out X (HZ.out X hX))
  have HLZ := Hk.mk (fun (X : World) (hX : Below z.heap.size z X) => HLC.out X (HZ.out X hX))
  obtain ⟨m4, hm4, m40⟩ : ∃ m : Nat, (n : Int).tdiv 40 = m ∧ m ≤ 7 := ⟨((n : Int).tdiv 40).toNat, by rw [Int.tdiv_eq_ediv_of_nonneg (by omega)]; omega, by rw [Int.tdiv_eq_ediv_of_nonneg (by omega)]; omega⟩
  have wr1 : IntKind.i64.wrap ((s : Int) * 65536) = (s : Int) * 65536 := by rw [IntKind.wrap_i64]; omega
  obtain ⟨zz, rfl⟩ : ∃ zz : World, zz = z := ⟨z, rfl⟩
  clear HB
  go_loopw [6] (fun i wr => ∃ t : Nat, i = .int .i64 t ∧ t ≤ n + 8 ∧ Hk (Below zz.heap.size zz wr)) (fun i _ => n + 8 - (intOf i).toNat)
  case atStart => exact ⟨0, rfl, by omega, HBZ⟩
  case round =>
    clear HBZ
    obtain ⟨t, rfl, ht, HB⟩ := hrel
    obtain ⟨hc, hf, hl, hn', hm⟩ := kw_rules HB.out (Nat.le_refl _)
    by_cases hlt : t < n
    · have t0 : (0 : Int) ≤ (t : Int) := by omega
      have t1 : (t : Int) < (n : Int) := by omega
      have c1 := HA1.out.cell hlt
      have c2 := HA2.out.cell hlt
      have G1 : Hk (s < sC W H (opn W xs bs cl) t → _) := ⟨fits_good (f := (opn W xs bs cl)) (s := s) w1 w2 HNN.out hlt⟩
      have G2 := Hk.mk (fits_low (f := (opn W xs bs cl)) w1 HNN.out hlt)
      have F1 : Hk (fmD ((t : Int) % W * 65536 + 32768) ((t : Int) / W * 65536 + 32768) ((s : Int) * 65536 + 32768) = true) := ⟨by
        have hA := at_of (H := H) w1 HNN.out hlt
        have x0 := hA.x0; have x1 := hA.x1; have y0 := hA.y0; have y1 := hA.y1
        unfold fmD; exact decide_eq_true (by omega)⟩
      have F2 : Hk (fmD ((t : Int) % W * 65536 + 32768) ((t : Int) / W * 65536 + 32768) 1 = true) := ⟨by
        have hA := at_of (H := H) w1 HNN.out hlt
        have x0 := hA.x0; have x1 := hA.x1; have y0 := hA.y0; have y1 := hA.y1
        unfold fmD; exact decide_eq_true (by omega)⟩
      obtain ⟨px, hpx⟩ : ∃ v, (t : Int) % W * 65536 + 32768 = v := ⟨_, rfl⟩
      obtain ⟨py, hpy⟩ : ∃ v, (t : Int) / W * 65536 + 32768 = v := ⟨_, rfl⟩
      rw [hpx, hpy] at G1 G2 F1 F2
      have HXY := Hk.mk (And.intro hpx hpy)
      have t16 : (t : Int) ≤ 16384 := by have := mul_bd w1 w2 h1 h2; have := HNN.out; omega
      clear hpx hpy
      go_wp2_with fail
      refine wp_region_held_drew (S := (fun X => (∀ b o, b < zz.heap.size → X.cell? ⟨b, o, none⟩ = zz.cell? ⟨b, o, none⟩) ∧ Below zz.heap.size zz X)) (by kernel_rfl) ?_ (fun hHeld => ?_)
      · exact kw_S (kw_drew HB.out)
      refine wpAnyH_take (i := 0) (v := ?_) rfl (by kernel_rfl) (by kernel_rfl) (by kernel_rfl) (fun _ _ _ h => h) (Or.inl ⟨by rfl, fun wX hSw => ?_⟩) (by assumption) ?_
      rotate_left
      · (try dsimp only at hSw); go_simp; try with_reducible rfl
      (try simp only [Act.put, List.getElem_toArray, List.getElem_cons_succ, List.getElem_cons_zero, List.setIfInBounds_toArray, List.set_cons_zero, List.set_cons_succ])
      refine wpAnyH_take (i := 1) (v := ?_) rfl (by kernel_rfl) (by kernel_rfl) (by kernel_rfl) (fun _ _ _ h => h) (Or.inl ⟨by rfl, fun wX hSw => ?_⟩) (by assumption) ?_
      rotate_left
      · (try dsimp only at hSw); go_simp; try with_reducible rfl
      (try simp only [Act.put, List.getElem_toArray, List.getElem_cons_succ, List.getElem_cons_zero, List.setIfInBounds_toArray, List.set_cons_zero, List.set_cons_succ])
      refine wpAnyH_take (i := 2) (v := ?_) rfl (by kernel_rfl) (by kernel_rfl) (by kernel_rfl) (fun _ _ _ h => h) (Or.inl ⟨by rfl, fun wX hSw => ?_⟩) (by assumption) ?_
      rotate_left
      · (try dsimp only at hSw); go_simp; try with_reducible rfl
      (try simp only [Act.put, List.getElem_toArray, List.getElem_cons_succ, List.getElem_cons_zero, List.setIfInBounds_toArray, List.set_cons_zero, List.set_cons_succ])
      refine wpAnyH_take (i := 3) (v := ?_) rfl (by kernel_rfl) (by kernel_rfl) (by kernel_rfl) (fun _ _ _ h => h) (Or.inl ⟨by rfl, fun wX hSw => ?_⟩) (by assumption) ?_
      rotate_left
      · (try dsimp only at hSw); go_simp; try with_reducible rfl
      (try simp only [Act.put, List.getElem_toArray, List.getElem_cons_succ, List.getElem_cons_zero, List.setIfInBounds_toArray, List.set_cons_zero, List.set_cons_succ])
      refine wpAnyH_take (i := 4) (v := ?_) rfl (by kernel_rfl) (by kernel_rfl) (by kernel_rfl) (fun _ _ _ h => h) (Or.inl ⟨by rfl, fun wX hSw => ?_⟩) (by assumption) ?_
      rotate_left
      · (try dsimp only at hSw); go_simp; try with_reducible rfl
      (try simp only [Act.put, List.getElem_toArray, List.getElem_cons_succ, List.getElem_cons_zero, List.setIfInBounds_toArray, List.set_cons_zero, List.set_cons_succ])
      refine wpAnyH_take (i := 5) (v := ?_) rfl (by kernel_rfl) (by kernel_rfl) (by kernel_rfl) (fun _ _ _ h => h) (Or.inl ⟨by rfl, fun wX hSw => ?_⟩) (by assumption) ?_
      rotate_left
      · (try dsimp only at hSw); go_simp; try with_reducible rfl
      (try simp only [Act.put, List.getElem_toArray, List.getElem_cons_succ, List.getElem_cons_zero, List.setIfInBounds_toArray, List.set_cons_zero, List.set_cons_succ])
      refine wpAnyH_take (i := 6) (v := ?_) rfl (by kernel_rfl) (by kernel_rfl) (by kernel_rfl) (fun _ _ _ h => h) (Or.inl ⟨by rfl, fun wX hSw => ?_⟩) (by assumption) ?_
      rotate_left
      · (try dsimp only at hSw); go_simp; try with_reducible rfl
      (try simp only [Act.put, List.getElem_toArray, List.getElem_cons_succ, List.getElem_cons_zero, List.setIfInBounds_toArray, List.set_cons_zero, List.set_cons_succ])
      refine wpAnyH_take (i := 7) (v := ?_) rfl (by kernel_rfl) (by kernel_rfl) (by kernel_rfl) (fun _ _ _ h => h) (Or.inl ⟨by rfl, fun wX hSw => ?_⟩) (by assumption) ?_
      rotate_left
      · (try dsimp only at hSw); go_simp; try with_reducible rfl
      (try simp only [Act.put, List.getElem_toArray, List.getElem_cons_succ, List.getElem_cons_zero, List.setIfInBounds_toArray, List.set_cons_zero, List.set_cons_succ])
      refine wpAnyH_take (i := 8) (v := ?_) rfl (by kernel_rfl) (by kernel_rfl) (by kernel_rfl) (fun _ _ _ h => h) (Or.inl ⟨by rfl, fun wX hSw => ?_⟩) (by assumption) ?_
      rotate_left
      · (try dsimp only at hSw); go_simp; try with_reducible rfl
      (try simp only [Act.put, List.getElem_toArray, List.getElem_cons_succ, List.getElem_cons_zero, List.setIfInBounds_toArray, List.set_cons_zero, List.set_cons_succ])
      refine wpAnyH_take (i := 10) (v := ?_) rfl (by kernel_rfl) (by kernel_rfl) (by kernel_rfl) (fun _ _ _ h => h) (Or.inl ⟨by rfl, fun wX hSw => ?_⟩) (by assumption) ?_
      rotate_left
      · (try dsimp only at hSw); go_simp; try with_reducible rfl
      (try simp only [Act.put, List.getElem_toArray, List.getElem_cons_succ, List.getElem_cons_zero, List.setIfInBounds_toArray, List.set_cons_zero, List.set_cons_succ])
      refine wpAnyH_ready (rs := [9]) (by kernel_rfl) (by simp) ?_
      refine AllReadyH.cons rfl (fun K hK => ?_) (AllReadyH.nil)
      go_simp
      (first
      | (go_at_call 48; (with_reducible refine (rcenter_px px py W H t (.slice a n c) _ w1 w2 (by omega) t16 HXY).mono ?_); rintro e z5 ⟨rfl, hb⟩; have hB2 : Hk (Below zz.heap.size zz z5) := ⟨by first | exact kw_step HB.out (Nat.le_refl _) hb | exact kw_step HB.out.drew (Nat.le_refl _) hb | exact kw_step (below_drewN HB.out _) (Nat.le_refl _) hb⟩; clear hb; replace HB := hB2; clear hB2; clear hc hf hl hn' hm; obtain ⟨hc, hf, hl, hn', hm⟩ := kw_rules HB.out (Nat.le_refl _))
      | (go_at_call 42; (with_reducible refine (dfree_yes W H a n c xs la ln lc bs cl px py ((s : Int) * 65536 + 32768) _ ?_ ?_ (by omega) (by omega) ?_ hc3 MM F1).mono ?_); (first | exact (HYZ.out _ HB.out).mono (Nat.le_trans (Nat.le_of_lt hwz) HB.out.size) | exact (HYZ.out _ HB.out.drew).mono (Nat.le_trans (Nat.le_of_lt hwz) HB.out.drew.size)); (first | exact (HQZ.out _ HB.out).mono (Nat.le_trans (Nat.le_of_lt hwz) HB.out.size) | exact (HQZ.out _ HB.out.drew).mono (Nat.le_trans (Nat.le_of_lt hwz) HB.out.drew.size)); (first | exact HLZ.out _ HB.out | exact HLZ.out _ HB.out.drew); rintro e z5 ⟨rfl, hb⟩; have hB2 : Hk (Below zz.heap.size zz z5) := ⟨by first | exact kw_step HB.out (Nat.le_refl _) hb | exact kw_step HB.out.drew (Nat.le_refl _) hb | exact kw_step (below_drewN HB.out _) (Nat.le_refl _) hb⟩; clear hb; replace HB := hB2; clear hB2; clear hc hf hl hn' hm; obtain ⟨hc, hf, hl, hn', hm⟩ := kw_rules HB.out (Nat.le_refl _)))
      refine hK.out _ _ ?_ (fun hHeld => ?_)
      · exact kw_S HB.out
      clear hK K
      (try simp only [Act.put, List.getElem_toArray, List.getElem_cons_succ, List.getElem_cons_zero, List.setIfInBounds_toArray, List.set_cons_zero, List.set_cons_succ])
      refine wpAnyH_ready (rs := [11]) (by kernel_rfl) (by simp) ?_
      refine AllReadyH.cons rfl (fun K hK => ?_) (AllReadyH.nil)
      go_simp
      (first
      | (go_at_call 48; (with_reducible refine (rcenter_px px py W H t (.slice a n c) _ w1 w2 (by omega) t16 HXY).mono ?_); rintro e z5 ⟨rfl, hb⟩; have hB2 : Hk (Below zz.heap.size zz z5) := ⟨by first | exact kw_step HB.out (Nat.le_refl _) hb | exact kw_step HB.out.drew (Nat.le_refl _) hb | exact kw_step (below_drewN HB.out _) (Nat.le_refl _) hb⟩; clear hb; replace HB := hB2; clear hB2; clear hc hf hl hn' hm; obtain ⟨hc, hf, hl, hn', hm⟩ := kw_rules HB.out (Nat.le_refl _))
      | (go_at_call 42; (with_reducible refine (dfree_yes W H a n c xs la ln lc bs cl px py ((s : Int) * 65536 + 32768) _ ?_ ?_ (by omega) (by omega) ?_ hc3 MM F1).mono ?_); (first | exact (HYZ.out _ HB.out).mono (Nat.le_trans (Nat.le_of_lt hwz) HB.out.size) | exact (HYZ.out _ HB.out.drew).mono (Nat.le_trans (Nat.le_of_lt hwz) HB.out.drew.size)); (first | exact (HQZ.out _ HB.out).mono (Nat.le_trans (Nat.le_of_lt hwz) HB.out.size) | exact (HQZ.out _ HB.out.drew).mono (Nat.le_trans (Nat.le_of_lt hwz) HB.out.drew.size)); (first | exact HLZ.out _ HB.out | exact HLZ.out _ HB.out.drew); rintro e z5 ⟨rfl, hb⟩; have hB2 : Hk (Below zz.heap.size zz z5) := ⟨by first | exact kw_step HB.out (Nat.le_refl _) hb | exact kw_step HB.out.drew (Nat.le_refl _) hb | exact kw_step (below_drewN HB.out _) (Nat.le_refl _) hb⟩; clear hb; replace HB := hB2; clear hB2; clear hc hf hl hn' hm; obtain ⟨hc, hf, hl, hn', hm⟩ := kw_rules HB.out (Nat.le_refl _)))
      refine hK.out _ _ ?_ (fun hHeld => ?_)
      · exact kw_S HB.out
      clear hK K
      (try simp only [Act.put, List.getElem_toArray, List.getElem_cons_succ, List.getElem_cons_zero, List.setIfInBounds_toArray, List.set_cons_zero, List.set_cons_succ])
      refine wpAnyH_take (i := 12) (v := ?_) rfl (by kernel_rfl) (by kernel_rfl) (by kernel_rfl) (fun _ _ _ h => h) (Or.inl ⟨by rfl, fun wX hSw => ?_⟩) (by assumption) ?_
      rotate_left
      · (try dsimp only at hSw); go_simp; try with_reducible rfl
      (try simp only [Act.put, List.getElem_toArray, List.getElem_cons_succ, List.getElem_cons_zero, List.setIfInBounds_toArray, List.set_cons_zero, List.set_cons_succ])
      refine wpAnyH_take (i := 13) (v := ?_) rfl (by kernel_rfl) (by kernel_rfl) (by kernel_rfl) (fun _ _ _ h => h) (Or.inl ⟨by rfl, fun wX hSw => ?_⟩) (by assumption) ?_
      rotate_left
      · (try dsimp only at hSw); go_simp; try with_reducible rfl
      (try simp only [Act.put, List.getElem_toArray, List.getElem_cons_succ, List.getElem_cons_zero, List.setIfInBounds_toArray, List.set_cons_zero, List.set_cons_succ])
      refine wpAnyH_take (i := 14) (v := ?_) rfl (by kernel_rfl) (by kernel_rfl) (by kernel_rfl) (fun _ _ _ h => h) (Or.inl ⟨by rfl, fun wX hSw => ?_⟩) (by assumption) ?_
      rotate_left
      · (try dsimp only at hSw); go_simp; try with_reducible rfl
      (try simp only [Act.put, List.getElem_toArray, List.getElem_cons_succ, List.getElem_cons_zero, List.setIfInBounds_toArray, List.set_cons_zero, List.set_cons_succ])
      refine wpAnyH_take (i := 15) (v := ?_) rfl (by kernel_rfl) (by kernel_rfl) (by kernel_rfl) (fun _ _ _ h => h) (Or.inl ⟨by rfl, fun wX hSw => ?_⟩) (by assumption) ?_
      rotate_left
      · (try dsimp only at hSw); go_simp; try with_reducible rfl
      (try simp only [Act.put, List.getElem_toArray, List.getElem_cons_succ, List.getElem_cons_zero, List.setIfInBounds_toArray, List.set_cons_zero, List.set_cons_succ])
      refine wpAnyH_take (i := 16) (v := ?_) rfl (by kernel_rfl) (by kernel_rfl) (by kernel_rfl) (fun _ _ _ h => h) (Or.inl ⟨by rfl, fun wX hSw => ?_⟩) (by assumption) ?_
      rotate_left
      · (try dsimp only at hSw); go_simp; try with_reducible rfl
      (try simp only [Act.put, List.getElem_toArray, List.getElem_cons_succ, List.getElem_cons_zero, List.setIfInBounds_toArray, List.set_cons_zero, List.set_cons_succ])
      refine wpAnyH_done (by kernel_rfl) ?_ _
      go_wp2_with fail
      refine wp_region_held_drew (S := (fun X => (∀ b o, b < zz.heap.size → X.cell? ⟨b, o, none⟩ = zz.cell? ⟨b, o, none⟩) ∧ Below zz.heap.size zz X)) (by kernel_rfl) ?_ (fun hHeld => ?_)
      · exact kw_S (kw_drew HB.out)
      refine wpAnyH_take (i := 0) (v := ?_) rfl (by kernel_rfl) (by kernel_rfl) (by kernel_rfl) (fun _ _ _ h => h) (Or.inl ⟨by rfl, fun wX hSw => ?_⟩) (by assumption) ?_
      rotate_left
      · (try dsimp only at hSw); go_simp; try with_reducible rfl
      (try simp only [Act.put, List.getElem_toArray, List.getElem_cons_succ, List.getElem_cons_zero, List.setIfInBounds_toArray, List.set_cons_zero, List.set_cons_succ])
      refine wpAnyH_take (i := 1) (v := ?_) rfl (by kernel_rfl) (by kernel_rfl) (by kernel_rfl) (fun _ _ _ h => h) (Or.inl ⟨by rfl, fun wX hSw => ?_⟩) (by assumption) ?_
      rotate_left
      · (try dsimp only at hSw); go_simp; try with_reducible rfl
      (try simp only [Act.put, List.getElem_toArray, List.getElem_cons_succ, List.getElem_cons_zero, List.setIfInBounds_toArray, List.set_cons_zero, List.set_cons_succ])
      refine wpAnyH_take (i := 2) (v := ?_) rfl (by kernel_rfl) (by kernel_rfl) (by kernel_rfl) (fun _ _ _ h => h) (Or.inl ⟨by rfl, fun wX hSw => ?_⟩) (by assumption) ?_
      rotate_left
      · (try dsimp only at hSw); go_simp; try with_reducible rfl
      (try simp only [Act.put, List.getElem_toArray, List.getElem_cons_succ, List.getElem_cons_zero, List.setIfInBounds_toArray, List.set_cons_zero, List.set_cons_succ])
      refine wpAnyH_take (i := 3) (v := ?_) rfl (by kernel_rfl) (by kernel_rfl) (by kernel_rfl) (fun _ _ _ h => h) (Or.inl ⟨by rfl, fun wX hSw => ?_⟩) (by assumption) ?_
      rotate_left
      · (try dsimp only at hSw); go_simp; try with_reducible rfl
      (try simp only [Act.put, List.getElem_toArray, List.getElem_cons_succ, List.getElem_cons_zero, List.setIfInBounds_toArray, List.set_cons_zero, List.set_cons_succ])
      refine wpAnyH_take (i := 4) (v := ?_) rfl (by kernel_rfl) (by kernel_rfl) (by kernel_rfl) (fun _ _ _ h => h) (Or.inl ⟨by rfl, fun wX hSw => ?_⟩) (by assumption) ?_
      rotate_left
      · (try dsimp only at hSw); go_simp; try with_reducible rfl
      (try simp only [Act.put, List.getElem_toArray, List.getElem_cons_succ, List.getElem_cons_zero, List.setIfInBounds_toArray, List.set_cons_zero, List.set_cons_succ])
      refine wpAnyH_take (i := 5) (v := ?_) rfl (by kernel_rfl) (by kernel_rfl) (by kernel_rfl) (fun _ _ _ h => h) (Or.inl ⟨by rfl, fun wX hSw => ?_⟩) (by assumption) ?_
      rotate_left
      · (try dsimp only at hSw); go_simp; try with_reducible rfl
      (try simp only [Act.put, List.getElem_toArray, List.getElem_cons_succ, List.getElem_cons_zero, List.setIfInBounds_toArray, List.set_cons_zero, List.set_cons_succ])
      refine wpAnyH_take (i := 6) (v := ?_) rfl (by kernel_rfl) (by kernel_rfl) (by kernel_rfl) (fun _ _ _ h => h) (Or.inl ⟨by rfl, fun wX hSw => ?_⟩) (by assumption) ?_
      rotate_left
      · (try dsimp only at hSw); go_simp; try with_reducible rfl
      (try simp only [Act.put, List.getElem_toArray, List.getElem_cons_succ, List.getElem_cons_zero, List.setIfInBounds_toArray, List.set_cons_zero, List.set_cons_succ])
      refine wpAnyH_take (i := 7) (v := ?_) rfl (by kernel_rfl) (by kernel_rfl) (by kernel_rfl) (fun _ _ _ h => h) (Or.inl ⟨by rfl, fun wX hSw => ?_⟩) (by assumption) ?_
      rotate_left
      · (try dsimp only at hSw); go_simp; try with_reducible rfl
      (try simp only [Act.put, List.getElem_toArray, List.getElem_cons_succ, List.getElem_cons_zero, List.setIfInBounds_toArray, List.set_cons_zero, List.set_cons_succ])
      refine wpAnyH_take (i := 8) (v := ?_) rfl (by kernel_rfl) (by kernel_rfl) (by kernel_rfl) (fun _ _ _ h => h) (Or.inl ⟨by rfl, fun wX hSw => ?_⟩) (by assumption) ?_
      rotate_left
      · (try dsimp only at hSw); go_simp; try with_reducible rfl
      (try simp only [Act.put, List.getElem_toArray, List.getElem_cons_succ, List.getElem_cons_zero, List.setIfInBounds_toArray, List.set_cons_zero, List.set_cons_succ])
      refine wpAnyH_ready (rs := [9]) (by kernel_rfl) (by simp) ?_
      refine AllReadyH.cons rfl (fun K hK => ?_) (AllReadyH.nil)
      go_simp
      (first
      | (go_at_call 48; (with_reducible refine (rcenter_px px py W H t (.slice a n c) _ w1 w2 (by omega) t16 HXY).mono ?_); rintro e z5 ⟨rfl, hb⟩; have hB2 : Hk (Below zz.heap.size zz z5) := ⟨by first | exact kw_step HB.out (Nat.le_refl _) hb | exact kw_step HB.out.drew (Nat.le_refl _) hb | exact kw_step (below_drewN HB.out _) (Nat.le_refl _) hb⟩; clear hb; replace HB := hB2; clear hB2; clear hc hf hl hn' hm; obtain ⟨hc, hf, hl, hn', hm⟩ := kw_rules HB.out (Nat.le_refl _))
      | (go_at_call 42; (with_reducible refine (dfree_yes W H a n c xs la ln lc bs cl px py 1 _ ?_ ?_ (by omega) (by omega) ?_ hc3 MM F2).mono ?_); (first | exact (HYZ.out _ HB.out).mono (Nat.le_trans (Nat.le_of_lt hwz) HB.out.size) | exact (HYZ.out _ HB.out.drew).mono (Nat.le_trans (Nat.le_of_lt hwz) HB.out.drew.size)); (first | exact (HQZ.out _ HB.out).mono (Nat.le_trans (Nat.le_of_lt hwz) HB.out.size) | exact (HQZ.out _ HB.out.drew).mono (Nat.le_trans (Nat.le_of_lt hwz) HB.out.drew.size)); (first | exact HLZ.out _ HB.out | exact HLZ.out _ HB.out.drew); rintro e z5 ⟨rfl, hb⟩; have hB2 : Hk (Below zz.heap.size zz z5) := ⟨by first | exact kw_step HB.out (Nat.le_refl _) hb | exact kw_step HB.out.drew (Nat.le_refl _) hb | exact kw_step (below_drewN HB.out _) (Nat.le_refl _) hb⟩; clear hb; replace HB := hB2; clear hB2; clear hc hf hl hn' hm; obtain ⟨hc, hf, hl, hn', hm⟩ := kw_rules HB.out (Nat.le_refl _)))
      refine hK.out _ _ ?_ (fun hHeld => ?_)
      · exact kw_S HB.out
      clear hK K
      (try simp only [Act.put, List.getElem_toArray, List.getElem_cons_succ, List.getElem_cons_zero, List.setIfInBounds_toArray, List.set_cons_zero, List.set_cons_succ])
      refine wpAnyH_ready (rs := [10]) (by kernel_rfl) (by simp) ?_
      refine AllReadyH.cons rfl (fun K hK => ?_) (AllReadyH.nil)
      go_simp
      (first
      | (go_at_call 48; (with_reducible refine (rcenter_px px py W H t (.slice a n c) _ w1 w2 (by omega) t16 HXY).mono ?_); rintro e z5 ⟨rfl, hb⟩; have hB2 : Hk (Below zz.heap.size zz z5) := ⟨by first | exact kw_step HB.out (Nat.le_refl _) hb | exact kw_step HB.out.drew (Nat.le_refl _) hb | exact kw_step (below_drewN HB.out _) (Nat.le_refl _) hb⟩; clear hb; replace HB := hB2; clear hB2; clear hc hf hl hn' hm; obtain ⟨hc, hf, hl, hn', hm⟩ := kw_rules HB.out (Nat.le_refl _))
      | (go_at_call 42; (with_reducible refine (dfree_yes W H a n c xs la ln lc bs cl px py 1 _ ?_ ?_ (by omega) (by omega) ?_ hc3 MM F2).mono ?_); (first | exact (HYZ.out _ HB.out).mono (Nat.le_trans (Nat.le_of_lt hwz) HB.out.size) | exact (HYZ.out _ HB.out.drew).mono (Nat.le_trans (Nat.le_of_lt hwz) HB.out.drew.size)); (first | exact (HQZ.out _ HB.out).mono (Nat.le_trans (Nat.le_of_lt hwz) HB.out.size) | exact (HQZ.out _ HB.out.drew).mono (Nat.le_trans (Nat.le_of_lt hwz) HB.out.drew.size)); (first | exact HLZ.out _ HB.out | exact HLZ.out _ HB.out.drew); rintro e z5 ⟨rfl, hb⟩; have hB2 : Hk (Below zz.heap.size zz z5) := ⟨by first | exact kw_step HB.out (Nat.le_refl _) hb | exact kw_step HB.out.drew (Nat.le_refl _) hb | exact kw_step (below_drewN HB.out _) (Nat.le_refl _) hb⟩; clear hb; replace HB := hB2; clear hB2; clear hc hf hl hn' hm; obtain ⟨hc, hf, hl, hn', hm⟩ := kw_rules HB.out (Nat.le_refl _)))
      refine hK.out _ _ ?_ (fun hHeld => ?_)
      · exact kw_S HB.out
      clear hK K
      (try simp only [Act.put, List.getElem_toArray, List.getElem_cons_succ, List.getElem_cons_zero, List.setIfInBounds_toArray, List.set_cons_zero, List.set_cons_succ])
      refine wpAnyH_take (i := 11) (v := ?_) rfl (by kernel_rfl) (by kernel_rfl) (by kernel_rfl) (fun _ _ _ h => h) (Or.inl ⟨by rfl, fun wX hSw => ?_⟩) (by assumption) ?_
      rotate_left
      · (try dsimp only at hSw); go_simp; try with_reducible rfl
      (try simp only [Act.put, List.getElem_toArray, List.getElem_cons_succ, List.getElem_cons_zero, List.setIfInBounds_toArray, List.set_cons_zero, List.set_cons_succ])
      refine wpAnyH_take (i := 12) (v := ?_) rfl (by kernel_rfl) (by kernel_rfl) (by kernel_rfl) (fun _ _ _ h => h) (Or.inl ⟨by rfl, fun wX hSw => ?_⟩) (by assumption) ?_
      rotate_left
      · (try dsimp only at hSw); go_simp; try with_reducible rfl
      (try simp only [Act.put, List.getElem_toArray, List.getElem_cons_succ, List.getElem_cons_zero, List.setIfInBounds_toArray, List.set_cons_zero, List.set_cons_succ])
      refine wpAnyH_take (i := 13) (v := ?_) rfl (by kernel_rfl) (by kernel_rfl) (by kernel_rfl) (fun _ _ _ h => h) (Or.inl ⟨by rfl, fun wX hSw => ?_⟩) (by assumption) ?_
      rotate_left
      · (try dsimp only at hSw); go_simp; try with_reducible rfl
      (try simp only [Act.put, List.getElem_toArray, List.getElem_cons_succ, List.getElem_cons_zero, List.setIfInBounds_toArray, List.set_cons_zero, List.set_cons_succ])
      refine wpAnyH_take (i := 14) (v := ?_) rfl (by kernel_rfl) (by kernel_rfl) (by kernel_rfl) (fun _ _ _ h => h) (Or.inl ⟨by rfl, fun wX hSw => ?_⟩) (by assumption) ?_
      rotate_left
      · (try dsimp only at hSw); go_simp; try with_reducible rfl
      (try simp only [Act.put, List.getElem_toArray, List.getElem_cons_succ, List.getElem_cons_zero, List.setIfInBounds_toArray, List.set_cons_zero, List.set_cons_succ])
      refine wpAnyH_take (i := 15) (v := ?_) rfl (by kernel_rfl) (by kernel_rfl) (by kernel_rfl) (fun _ _ _ h => h) (Or.inl ⟨by rfl, fun wX hSw => ?_⟩) (by assumption) ?_
      rotate_left
      · (try dsimp only at hSw); go_simp; try with_reducible rfl
      (try simp only [Act.put, List.getElem_toArray, List.getElem_cons_succ, List.getElem_cons_zero, List.setIfInBounds_toArray, List.set_cons_zero, List.set_cons_succ])
      refine wpAnyH_done (by kernel_rfl) ?_ _
      rw [G2.out]
      cases hgd : decide (s < sC W H (opn W xs bs cl) t)
      · rw [hgd] at c1
        clear G1
        generalize frS W H (opn W xs bs cl) n px py ((s : Int) * 65536 + 32768) = v1
        cases hop : (opn W xs bs cl) t
        · rw [hop] at c2
          go_wp2_with (go_at_call 43; (with_reducible refine (num17_any _ _).mono ?_); rintro e z ⟨rfl, rfl⟩)
          exact ⟨⟨t + 1 + m4, by go_num, by omega, HB⟩, by simp [intOf]; omega⟩
        · rw [hop] at c2
          go_wp2_with (go_at_call 43; (with_reducible refine (num17_any _ _).mono ?_); rintro e z ⟨rfl, rfl⟩)
          exact ⟨⟨t + 1 + m4, by go_num, by omega, HB⟩, by simp [intOf]; omega⟩
      · rw [hgd] at c1
        rw [G1.out (of_decide_eq_true hgd)]
        cases hop : (opn W xs bs cl) t
        · rw [hop] at c2
          go_wp2_with (go_at_call 43; (with_reducible refine (num17_any _ _).mono ?_); rintro e z ⟨rfl, rfl⟩)
          exact ⟨⟨t + 1 + m4, by go_num, by omega, HB⟩, by simp [intOf]; omega⟩
        · rw [hop] at c2
          go_wp2_with (go_at_call 43; (with_reducible refine (num17_any _ _).mono ?_); rintro e z ⟨rfl, rfl⟩)
          exact ⟨⟨t + 1 + m4, by go_num, by omega, HB⟩, by simp [intOf]; omega⟩
    · skip
      clear hc hf hl hn' hm
      replace HB := Hk.mk (HZ.out _ HB.out)
      obtain ⟨hc, hf, hl, hn', hm⟩ := kw_rules HB.out hNW
      go_wp2_with (go_at_call 44; (with_reducible refine (wakes17_any _).mono ?_); rintro e z ⟨rfl, hb⟩; replace HB := Hk.mk (kw_step HB.out hNW hb); clear hb; clear hc hf hl hn' hm; obtain ⟨hc, hf, hl, hn', hm⟩ := kw_rules HB.out hNW)
      go_ret
      exact ⟨rfl, HTR.out _ HB.out⟩
theorem discFits_walk (v : Value) (w : World) (hL : LC w) (rows : Asks13 w v) :
    Calls Tryd.prog 11 #[v] w fun e w' => e = .returned (.bool true) ∧ Below w.heap.size w w' := by
  obtain ⟨W, H, a, n, c, xs, la, ln, lc, bs, x, sz, ta, tn, tc, ts, rfl, hn, hln, htn, hlc, hW, hH, hx, hsz, hby, hbq, htq⟩ := rows
  cases gv : hv13 n ln tn
  · have hs : n ≤ 700 ∧ ln ≤ 30 ∧ tn ≤ 30 := by unfold hv13 gtP at gv; simp at gv; omega
    by_cases M : MOk W H n xs bs ∧ (0 ≤ x ∧ x ≤ 2) ∧ 0 ≤ sz ∧ sz ≤ 3
    · by_cases h3 : 300 < n
      · exact discFits_long W H a n c xs la ln lc bs x sz ta tn tc w hL hby hbq hs.1 hs.2.1 hs.2.2 ⟨gv⟩ ⟨M⟩ h3
      · obtain ⟨cl, rfl⟩ : ∃ cl : Nat, x = cl := ⟨x.toNat, by omega⟩
        obtain ⟨s, rfl⟩ : ∃ s : Nat, sz = s := ⟨sz.toNat, by omega⟩
        exact discFits_yes W H a n c xs la ln lc bs cl s ta tn tc w hL hby hbq (by omega) hs.2.1 hs.2.2 ⟨gv⟩ (by omega) (by omega) ⟨M.1⟩
    · exact discFits_no W H a n c xs la ln lc bs x sz ta tn tc w hL hby hbq hs.1 hs.2.1 hs.2.2 ⟨gv⟩ ⟨M⟩
  · exact discFits_big W H a n c xs la ln lc bs x sz ta tn tc w hL hby hbq hn hln htn ⟨gv⟩

theorem discFits_own : ownKnob Tryd.prog.godebug = none := by kernel_rfl
theorem discFits_laidOut : laidOutB Tryd.prog = true := by kernel_rfl
theorem discFits_door (os : Os) (args : Array Value) : laidMetH Tryd.prog [("throng/kind.costs", Rows.laid_throng_kind_costs)] ((World.doorLaid Tryd.prog 400 os).forCall (fun _ _ => 0) ⟨#[], args, []⟩).memory :=
  laidMetH_of_parts3 (fuel := 8) (laidMet_of_run' 8 (by kernel_rfl) (by kernel_rfl)) (by kernel_rfl) (by kernel_rfl)
set_option maxRecDepth 100000 in
theorem discFits_lifted (os : Os) (started : os.Started) (H : Type) (enc : TypeId × Value → H) :
    ReturnsInHanded {} Tryd.checked os 11 .any (fun w args => (Rows.discFitsSpec.pre enc Tryd.prog Tryd.f11 [] false w args ∧ laidMetH Tryd.prog [("throng/kind.costs", Rows.laid_throng_kind_costs)] w) ∧ sizedMet enc Tryd.prog Tryd.f11 (OpenSpec.ofChange Rows.discFitsSpec) false w args)
      (Rows.discFitsSpec.post enc Tryd.prog Tryd.f11 false true false false) := by
  refine returnsInHanded_of_change_and (C := Tryd.checked) (X := fun w _ => laidMetH Tryd.prog [("throng/kind.costs", Rows.laid_throng_kind_costs)] w) (fun _ _ _ hh h => h.of_heap hh) discFits_own started (by kernel_rfl) Tryd.func11
    (ChangeSpec.witness_shaped (enc := enc) (C := Tryd.checked) (os := os) (X := fun w _ => laidMetH Tryd.prog [("throng/kind.costs", Rows.laid_throng_kind_costs)] w) false (World.doorLaid Tryd.prog 400 os) #[.agg #[.int .i64 0, .int .i64 0, .slice none 0 0, .slice none 0 0, .int .i64 0, .int .i64 0, .slice none 0 0]] 8 rfl (World.shaped_of_RefB (by kernel_rfl) (by kernel_rfl)) (by kernel_rfl) (by kernel_rfl) (by kernel_rfl) (discFits_door os _)) ?_
  intro W base args ds gs before hval0 hW _ _ hL _
  have hval : ∀ (j : Nat) t v, Tryd.f11.params[j]? = some t → args[j]? = some v → Value.okWide Tryd.prog W .any base t v := hval0
  have hW' := hW
  obtain ⟨p, q, hA0, hV, rfl, hfz, hnd⟩ := hW
  have hA : DataW.TrodAll enc Tryd.prog W 0 (fun _ => true) true Tryd.f11.params.toList args.toList ds p := hA0
  rw [Tryd.params11] at hA hval
  obtain ⟨v0, vs0, d0, ds0, p0, q0, hargs, rfl, rfl, h0, r0⟩ := trodAll_cons hA
  obtain ⟨rfl, rfl, rfl⟩ := trodAll_nil r0
  obtain rfl : args = #[v0] := by cases args; simp_all
  obtain ⟨rfl, rfl⟩ := trodVars_none hV
  obtain ⟨cs0, rfl, hcs0⟩ := okWide_struct Tryd.underlying74 (hval 0 74 v0 rfl rfl)
  have k0 := h0
  have lt0 : ∀ x ∈ p0, x.block < W.heap.size := by obtain ⟨m, hm⟩ := k0; exact DataW.trod_lt m _ _ _ hm
  have rows : Asks13 W (.agg cs0) := by obtain ⟨fuel, hf⟩ := h0; exact asks13_of hcs0 hf
  clear hA0 hval0
  refine (discFits_walk (.agg cs0) W (of_laidC hL) rows).mono fun e W' ⟨he, bel⟩ => ?_
  subst he
  exact ⟨_, rfl, _, _, _, [], _, [], hW', trodAll_mk1 (shut_bool Tryd.underlying4 _), (trodAll_cons_mk (Below.trod discFits_laidOut (by kernel_rfl) (of_decide_eq_true (by kernel_rfl)) k0 bel lt0) trodAll_mk0), rfl, bel.frame _, fun h => by cases h⟩
theorem discFits_over : Rows.DiscFitsSaid :=
  OpenClaim.holds_of_wide 11 Tryd.f11 rfl rfl rfl rfl rfl rfl rfl ⟨rfl, rfl, rfl, rfl, rfl⟩ rfl rfl rfl rfl rfl (by kernel_rfl) Tryd.func11 (by kernel_rfl)
    (of_decide_eq_true (by kernel_rfl)) (by unfold Func.isWrapper; first | (rw [if_pos (by decide +kernel)]; kernel_rfl) | (rw [if_neg (by decide +kernel)]; exact ⟨rfl, rfl⟩))
    (fun os started H enc _ => discFits_lifted os started H enc)
/-- The given card of DiscFits. -/
theorem discFits_card : Rows.DiscFitsCardSaid :=
  Claim7.holds_tied_plain_at .later [] [.data] true (true, "2c4bcf7ec666a06e3a39b6c766dcfdcece0d58204668e437dfc8163f308f0d77") false
    discFits_over (fun _ h => by cases h) (by kernel_rfl) (fun _ h => by cases h) discFits_row_tie rfl ⟨rfl, rfl⟩ (by kernel_rfl) rfl
    (fun f fn hf hfn => by
      obtain rfl : f = 11 := Option.some.inj ((show Tryd.prog.funcNamed "throng/thronglaw17.DiscFits" = some 11 by kernel_rfl).symm.trans hf) |>.symm
      obtain rfl : fn = Tryd.f11 := (Option.some.inj (Tryd.func11.symm.trans hfn)).symm
      exact ⟨by kernel_rfl, fun j t ht => by
        rw [Tryd.params11] at ht
        have hm : t ∈ [74] := by simpa using Array.mem_of_getElem? ht
        have hall : ([74].all fun u => !Tryd.prog.wantsStandIn u) = true := by kernel_rfl
        exact (show Tryd.prog.wantsStandIn t = false by simpa using List.all_eq_true.1 hall t hm)⟩)
    (by kernel_rfl)
end Go.Proofs.YtjjodfdmbiebnaaDoor

