import Derived.Deep.QuietTactic
import Derived.BigQuiet
import Derived.Deep.RegionWith
import Derived.Deep.RegionHeld3
import Derived.Deep.DeepCutAuto
import Derived.Deep.DeepFit
import Derived.Outline
import Derived.Test.YthabjihpjdlmoaaDoorSkac
/- Layer 20: the places are apart, where no tile is asked for. -/
namespace Go.Proofs.YthabjihpjdlmoaaDoor
open Go.ChangeShapes Go.WideShapes Go.ChangeAt Go.RowKit Go.Deep
set_option maxRecDepth 100000
set_option linter.unusedVariables false
set_option linter.unusedSimpArgs false
set_option maxHeartbeats 1600000 in
theorem slotsApart_t0 (W H : Int) (a : Option Addr) (n c : Nat) (xs : List Int) (la : Option Addr) (ln lc : Nat) (bs : List Bd) (cl s : Nat) (ta : Option Addr) (tn tc : Nat) (na : Option Addr) (nn nc : Nat) (w : World) (hL : LC w) (h : By w w.heap.size a n xs) (hb0 : Bq w w.heap.size la ln bs) (hn : n ≤ 700) (hln : ln ≤ 30) (htn : tn ≤ 30) (HV : Hk (hv13 n ln tn = false)) (hc3 : cl < 3) (hs : s ≤ 3) (MM : Hk (MOk W H n xs bs)) (H0 : Hk (tn = 0)) :
    Calls Tryd.prog 15 #[.agg #[.int .i64 W, .int .i64 H, .slice a n c, .slice la ln lc, .int .i64 cl, .int .i64 s, .slice ta tn tc, .slice na nn nc]] w fun e w' => e = .returned (.bool true) ∧ Below w.heap.size w w' := by
  have HWB : Hk (Below w.heap.size w (w.alloc (.cells #[.int .i64 W, .int .i64 H, .slice a n c, .slice la ln lc, .int .i64 cl, .int .i64 s, .slice ta tn tc, .slice na nn nc] 66))) := ⟨(Below.refl _ _).alloc (Nat.le_refl _) _⟩
  have hNW : (w.heap.size + 1) ≤ (w.alloc (.cells #[.int .i64 W, .int .i64 H, .slice a n c, .slice la ln lc, .int .i64 cl, .int .i64 s, .slice ta tn tc, .slice na nn nc] 66)).heap.size := by simp
  have HB : Hk (Below (w.heap.size + 1) (w.alloc (.cells #[.int .i64 W, .int .i64 H, .slice a n c, .slice la ln lc, .int .i64 cl, .int .i64 s, .slice ta tn tc, .slice na nn nc] 66)) (w.alloc (.cells #[.int .i64 W, .int .i64 H, .slice a n c, .slice la ln lc, .int .i64 cl, .int .i64 s, .slice ta tn tc, .slice na nn nc] 66))) := ⟨Below.refl _ _⟩
  have HTR : Hk (∀ X, Below (w.heap.size + 1) (w.alloc (.cells #[.int .i64 W, .int .i64 H, .slice a n c, .slice la ln lc, .int .i64 cl, .int .i64 s, .slice ta tn tc, .slice na nn nc] 66)) X → Below w.heap.size w X) := ⟨fun X hX => HWB.out.trans (hX.mono (by omega))⟩
  have HBY := Hk.mk (fun (X : World) (hX : Below (w.heap.size + 1) (w.alloc (.cells #[.int .i64 W, .int .i64 H, .slice a n c, .slice la ln lc, .int .i64 cl, .int .i64 s, .slice ta tn tc, .slice na nn nc] 66)) X) => h.below (HTR.out X hX) (Nat.le_refl _))
  have HBQ := Hk.mk (fun (X : World) (hX : Below (w.heap.size + 1) (w.alloc (.cells #[.int .i64 W, .int .i64 H, .slice a n c, .slice la ln lc, .int .i64 cl, .int .i64 s, .slice ta tn tc, .slice na nn nc] 66)) X) => hb0.below (HTR.out X hX) (Nat.le_refl _))
  have HLF := Hk.mk (fun (X : World) (hX : Below (w.heap.size + 1) (w.alloc (.cells #[.int .i64 W, .int .i64 H, .slice a n c, .slice la ln lc, .int .i64 cl, .int .i64 s, .slice ta tn tc, .slice na nn nc] 66)) X) => hL.below (HTR.out X hX) (Nat.le_refl _))
  clear h hb0 hL
  obtain ⟨hc, hf, hl, hn', hm⟩ := kw_rules HB.out hNW
  have hn1 : n ≤ 140737488355328 := by omega
  have hln1 : ln ≤ 1099511627776 := by omega
  go_enter Tryd.func15, Tryd.ntmps15
  go_wp2_with (first
    | (go_at_call 17; (with_reducible refine (heavy13_as false W H cl s a la ta n c ln lc tn tc _ (by omega) (by omega) (by omega) HV).mono ?_); rintro e z ⟨rfl, hb⟩; replace HB := Hk.mk (kw_step HB.out hNW hb); clear hb; clear hc hf hl hn' hm; obtain ⟨hc, hf, hl, hn', hm⟩ := kw_rules HB.out hNW)
    | (go_at_call 37; (with_reducible refine (rmay13_as true W H a n c xs la ln lc bs cl s _ ?_ ?_ hn1 hln1 ⟨⟨fun _ => ⟨MM.out, by omega, by omega⟩, fun _ => rfl⟩⟩).mono ?_); (first | exact (HBY.out _ HB.out).mono (hsz1 HB.out) | exact (HBY.out _ HB.out.drew).mono (hsz1 HB.out.drew)); (first | exact (HBQ.out _ HB.out).mono (hsz1 HB.out) | exact (HBQ.out _ HB.out.drew).mono (hsz1 HB.out.drew)); rintro e z ⟨rfl, hb⟩; replace HB := Hk.mk (kw_step HB.out hNW hb); clear hb; clear hc hf hl hn' hm; obtain ⟨hc, hf, hl, hn', hm⟩ := kw_rules HB.out hNW)
    | (go_at_call 19; (with_reducible refine (rgood_any W H a n c xs la ln lc bs cl s _ ?_ ?_ hn1 hc3 hs MM).mono ?_); (first | exact (HBY.out _ HB.out).mono (hsz1 HB.out) | exact (HBY.out _ HB.out.drew).mono (hsz1 HB.out.drew)); (first | exact (HBQ.out _ HB.out).mono (hsz1 HB.out) | exact (HBQ.out _ HB.out.drew).mono (hsz1 HB.out.drew)); rintro e z ⟨I, rfl, hI, hA, hb⟩; clear hI hA; replace HB := Hk.mk (kw_step HB.out hNW hb); clear hb; clear hc hf hl hn' hm; obtain ⟨hc, hf, hl, hn', hm⟩ := kw_rules HB.out hNW))
  have HB := HB
  clear hc hf hl hn' hm
  go_loopw [5] (fun i wr => i = .int .i64 0 ∧ Hk (Below (w.heap.size + 1) (w.alloc (.cells #[.int .i64 W, .int .i64 H, .slice a n c, .slice la ln lc, .int .i64 cl, .int .i64 s, .slice ta tn tc, .slice na nn nc] 66)) wr)) (fun i _ => 0)
  case atStart => exact ⟨rfl, HB⟩
  case round =>
    clear HB
    obtain ⟨rfl, HB⟩ := hrel
    obtain ⟨hc, hf, hl, hn', hm⟩ := kw_rules HB.out hNW
    have dk : decide ((0 : Int) < (tn : Int)) = false := by have := H0.out; simp; omega
    have dk2 : decide (0 < tn) = false := by have := H0.out; simp; omega
    have dk4 : ¬ 0 < tn := by have := H0.out; omega
    go_wp2_with (go_at_call 48; (with_reducible refine (wakes20_any _ (HLF.out _ HB.out)).mono ?_); rintro e z ⟨rfl, hb⟩; replace HB := Hk.mk (kw_step HB.out hNW hb); clear hb; clear hc hf hl hn' hm; obtain ⟨hc, hf, hl, hn', hm⟩ := kw_rules HB.out hNW)
    go_ret
    exact ⟨rfl, HTR.out _ HB.out⟩
end Go.Proofs.YthabjihpjdlmoaaDoor
