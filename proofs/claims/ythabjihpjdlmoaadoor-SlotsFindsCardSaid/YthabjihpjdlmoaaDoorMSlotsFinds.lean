import Derived.Deep.QuietTactic
import Derived.BigQuiet
import Derived.Deep.RegionWith
import Derived.Deep.RegionHeld3
import Derived.Deep.DeepCutAuto
import Derived.Deep.DeepFit
import Derived.Outline
import Derived.SevenTiedAt
import Derived.ProofKit
import Derived.LaidMore
import Derived.OpenShut
import Derived.Stop.Joined
import Derived.Test.YthabjihpjdlmoaaDoorSkae
import Derived.Test.YthabjihpjdlmoaaDoorCards
import Derived.Test.YthabjihpjdlmoaaDoorTie
/- For every argument, SlotsFinds answers true and leaves its argument as it was: the places about any goal are the page's, or refused. No condition; the table of package kind is tied to the program's text. -/
namespace Go.Proofs.YthabjihpjdlmoaaDoor
open Go.ChangeShapes Go.WideShapes Go.ChangeAt Go.RowKit Go.Deep
set_option maxRecDepth 100000
set_option linter.unusedVariables false
set_option linter.unusedSimpArgs false
set_option maxHeartbeats 1600000 in
theorem slotsFinds_big (W H : Int) (a : Option Addr) (n c : Nat) (la : Option Addr) (ln lc : Nat) (x sz : Int) (ta : Option Addr) (tn tc : Nat) (na : Option Addr) (nn nc : Nat) (w : World) (hL : LC w) (hn : n ≤ 9223372036854775807) (hln : ln ≤ 9223372036854775807) (htn : tn ≤ 9223372036854775807) (hnn : nn ≤ 9223372036854775807) (HV : Hk (hv13 n ln tn = true)) :
    Calls Tryd.prog 14 #[.agg #[.int .i64 W, .int .i64 H, .slice a n c, .slice la ln lc, .int .i64 x, .int .i64 sz, .slice ta tn tc, .slice na nn nc]] w fun e w' => e = .returned (.bool true) ∧ Below w.heap.size w w' := by
  have HWB : Hk (Below w.heap.size w (w.alloc (.cells #[.int .i64 W, .int .i64 H, .slice a n c, .slice la ln lc, .int .i64 x, .int .i64 sz, .slice ta tn tc, .slice na nn nc] 66))) := ⟨(Below.refl _ _).alloc (Nat.le_refl _) _⟩
  have hNW : (w.heap.size + 1) ≤ (w.alloc (.cells #[.int .i64 W, .int .i64 H, .slice a n c, .slice la ln lc, .int .i64 x, .int .i64 sz, .slice ta tn tc, .slice na nn nc] 66)).heap.size := by simp
  have HB : Hk (Below (w.heap.size + 1) (w.alloc (.cells #[.int .i64 W, .int .i64 H, .slice a n c, .slice la ln lc, .int .i64 x, .int .i64 sz, .slice ta tn tc, .slice na nn nc] 66)) (w.alloc (.cells #[.int .i64 W, .int .i64 H, .slice a n c, .slice la ln lc, .int .i64 x, .int .i64 sz, .slice ta tn tc, .slice na nn nc] 66))) := ⟨Below.refl _ _⟩
  have HTR : Hk (∀ X, Below (w.heap.size + 1) (w.alloc (.cells #[.int .i64 W, .int .i64 H, .slice a n c, .slice la ln lc, .int .i64 x, .int .i64 sz, .slice ta tn tc, .slice na nn nc] 66)) X → Below w.heap.size w X) := ⟨fun X hX => HWB.out.trans (hX.mono (by omega))⟩
  have HLF := Hk.mk (fun (X : World) (hX : Below (w.heap.size + 1) (w.alloc (.cells #[.int .i64 W, .int .i64 H, .slice a n c, .slice la ln lc, .int .i64 x, .int .i64 sz, .slice ta tn tc, .slice na nn nc] 66)) X) => hL.below (HTR.out X hX) (Nat.le_refl _))
  clear hL
  obtain ⟨hc, hf, hl, hn', hm⟩ := kw_rules HB.out hNW
  go_enter Tryd.func14, Tryd.ntmps14
  go_wp2_with (go_at_call 17; (with_reducible refine (heavy13_as true W H x sz a la ta n c ln lc tn tc _ (by omega) (by omega) (by omega) HV).mono ?_); rintro e z ⟨rfl, hb⟩; replace HB := Hk.mk (kw_step HB.out hNW hb); clear hb; clear hc hf hl hn' hm; obtain ⟨hc, hf, hl, hn', hm⟩ := kw_rules HB.out hNW)
  go_ret
  exact ⟨rfl, HTR.out _ HB.out⟩
set_option maxHeartbeats 1600000 in
theorem slotsFinds_many (W H : Int) (a : Option Addr) (n c : Nat) (la : Option Addr) (ln lc : Nat) (x sz : Int) (ta : Option Addr) (tn tc : Nat) (na : Option Addr) (nn nc : Nat) (w : World) (hL : LC w) (hn : n ≤ 9223372036854775807) (hln : ln ≤ 9223372036854775807) (htn : tn ≤ 9223372036854775807) (hnn : nn ≤ 9223372036854775807) (HV : Hk (hv13 n ln tn = false)) (h20 : 20 < nn) :
    Calls Tryd.prog 14 #[.agg #[.int .i64 W, .int .i64 H, .slice a n c, .slice la ln lc, .int .i64 x, .int .i64 sz, .slice ta tn tc, .slice na nn nc]] w fun e w' => e = .returned (.bool true) ∧ Below w.heap.size w w' := by
  have HWB : Hk (Below w.heap.size w (w.alloc (.cells #[.int .i64 W, .int .i64 H, .slice a n c, .slice la ln lc, .int .i64 x, .int .i64 sz, .slice ta tn tc, .slice na nn nc] 66))) := ⟨(Below.refl _ _).alloc (Nat.le_refl _) _⟩
  have hNW : (w.heap.size + 1) ≤ (w.alloc (.cells #[.int .i64 W, .int .i64 H, .slice a n c, .slice la ln lc, .int .i64 x, .int .i64 sz, .slice ta tn tc, .slice na nn nc] 66)).heap.size := by simp
  have HB : Hk (Below (w.heap.size + 1) (w.alloc (.cells #[.int .i64 W, .int .i64 H, .slice a n c, .slice la ln lc, .int .i64 x, .int .i64 sz, .slice ta tn tc, .slice na nn nc] 66)) (w.alloc (.cells #[.int .i64 W, .int .i64 H, .slice a n c, .slice la ln lc, .int .i64 x, .int .i64 sz, .slice ta tn tc, .slice na nn nc] 66))) := ⟨Below.refl _ _⟩
  have HTR : Hk (∀ X, Below (w.heap.size + 1) (w.alloc (.cells #[.int .i64 W, .int .i64 H, .slice a n c, .slice la ln lc, .int .i64 x, .int .i64 sz, .slice ta tn tc, .slice na nn nc] 66)) X → Below w.heap.size w X) := ⟨fun X hX => HWB.out.trans (hX.mono (by omega))⟩
  have HLF := Hk.mk (fun (X : World) (hX : Below (w.heap.size + 1) (w.alloc (.cells #[.int .i64 W, .int .i64 H, .slice a n c, .slice la ln lc, .int .i64 x, .int .i64 sz, .slice ta tn tc, .slice na nn nc] 66)) X) => hL.below (HTR.out X hX) (Nat.le_refl _))
  clear hL
  obtain ⟨hc, hf, hl, hn', hm⟩ := kw_rules HB.out hNW
  have d20 : decide (20 < (nn : Int)) = true := by simp; omega
  have d20n : decide (20 < nn) = true := by simp; omega
  go_enter Tryd.func14, Tryd.ntmps14
  go_wp2_with (go_at_call 17; (with_reducible refine (heavy13_as false W H x sz a la ta n c ln lc tn tc _ (by omega) (by omega) (by omega) HV).mono ?_); rintro e z ⟨rfl, hb⟩; replace HB := Hk.mk (kw_step HB.out hNW hb); clear hb; clear hc hf hl hn' hm; obtain ⟨hc, hf, hl, hn', hm⟩ := kw_rules HB.out hNW)
  go_ret
  exact ⟨rfl, HTR.out _ HB.out⟩
set_option maxHeartbeats 1600000 in
theorem slotsFinds_t0 (W H : Int) (a : Option Addr) (n c : Nat) (la : Option Addr) (ln lc : Nat) (x sz : Int) (ta : Option Addr) (tn tc : Nat) (na : Option Addr) (nn nc : Nat) (w : World) (hL : LC w) (hn : n ≤ 9223372036854775807) (hln : ln ≤ 9223372036854775807) (htn : tn ≤ 9223372036854775807) (hnn : nn ≤ 9223372036854775807) (HV : Hk (hv13 n ln tn = false)) (h20 : nn ≤ 20) (H0 : Hk (tn = 0)) :
    Calls Tryd.prog 14 #[.agg #[.int .i64 W, .int .i64 H, .slice a n c, .slice la ln lc, .int .i64 x, .int .i64 sz, .slice ta tn tc, .slice na nn nc]] w fun e w' => e = .returned (.bool true) ∧ Below w.heap.size w w' := by
  have HWB : Hk (Below w.heap.size w (w.alloc (.cells #[.int .i64 W, .int .i64 H, .slice a n c, .slice la ln lc, .int .i64 x, .int .i64 sz, .slice ta tn tc, .slice na nn nc] 66))) := ⟨(Below.refl _ _).alloc (Nat.le_refl _) _⟩
  have hNW : (w.heap.size + 1) ≤ (w.alloc (.cells #[.int .i64 W, .int .i64 H, .slice a n c, .slice la ln lc, .int .i64 x, .int .i64 sz, .slice ta tn tc, .slice na nn nc] 66)).heap.size := by simp
  have HB : Hk (Below (w.heap.size + 1) (w.alloc (.cells #[.int .i64 W, .int .i64 H, .slice a n c, .slice la ln lc, .int .i64 x, .int .i64 sz, .slice ta tn tc, .slice na nn nc] 66)) (w.alloc (.cells #[.int .i64 W, .int .i64 H, .slice a n c, .slice la ln lc, .int .i64 x, .int .i64 sz, .slice ta tn tc, .slice na nn nc] 66))) := ⟨Below.refl _ _⟩
  have HTR : Hk (∀ X, Below (w.heap.size + 1) (w.alloc (.cells #[.int .i64 W, .int .i64 H, .slice a n c, .slice la ln lc, .int .i64 x, .int .i64 sz, .slice ta tn tc, .slice na nn nc] 66)) X → Below w.heap.size w X) := ⟨fun X hX => HWB.out.trans (hX.mono (by omega))⟩
  have HLF := Hk.mk (fun (X : World) (hX : Below (w.heap.size + 1) (w.alloc (.cells #[.int .i64 W, .int .i64 H, .slice a n c, .slice la ln lc, .int .i64 x, .int .i64 sz, .slice ta tn tc, .slice na nn nc] 66)) X) => hL.below (HTR.out X hX) (Nat.le_refl _))
  clear hL
  obtain ⟨hc, hf, hl, hn', hm⟩ := kw_rules HB.out hNW
  have d20 : decide (20 < (nn : Int)) = false := by simp; omega
  have d20n : decide (20 < nn) = false := by simp; omega
  go_enter Tryd.func14, Tryd.ntmps14
  go_wp2_with (go_at_call 17; (with_reducible refine (heavy13_as false W H x sz a la ta n c ln lc tn tc _ (by omega) (by omega) (by omega) HV).mono ?_); rintro e z ⟨rfl, hb⟩; replace HB := Hk.mk (kw_step HB.out hNW hb); clear hb; clear hc hf hl hn' hm; obtain ⟨hc, hf, hl, hn', hm⟩ := kw_rules HB.out hNW)
  have HB := HB
  clear hc hf hl hn' hm
  go_loopw [3] (fun i wr => i = .int .i64 0 ∧ Hk (Below (w.heap.size + 1) (w.alloc (.cells #[.int .i64 W, .int .i64 H, .slice a n c, .slice la ln lc, .int .i64 x, .int .i64 sz, .slice ta tn tc, .slice na nn nc] 66)) wr)) (fun i _ => 0)
  case atStart => exact ⟨rfl, HB⟩
  case round =>
    clear HB
    obtain ⟨rfl, HB⟩ := hrel
    obtain ⟨hc, hf, hl, hn', hm⟩ := kw_rules HB.out hNW
    have dk : decide ((0 : Int) < (tn : Int)) = false := by have := H0.out; simp; omega
    have dk2 : decide (0 < tn) = false := by have := H0.out; simp; omega
    have dk4 : ¬ 0 < tn := by have := H0.out; omega
    go_wp2_with (go_at_call 48; (with_reducible refine (wakes20_any _ (HLF.out _ HB.out)).mono ?_); rintro e z ⟨rfl, hb⟩; replace HB := Hk.mk (kw_step HB.out hNW hb); clear hb; clear hc hf hl hn' hm; obtain ⟨hc, hf, hl, hn', hm⟩ := kw_rules HB.out hNW)
    go_ret
    exact ⟨rfl, HTR.out _ HB.out⟩
set_option maxHeartbeats 3200000 in
theorem slotsFinds_n0 (W H : Int) (a : Option Addr) (n c : Nat) (la : Option Addr) (ln lc : Nat) (x sz : Int) (ta : Option Addr) (tn tc : Nat) (na : Option Addr) (nn nc : Nat) (w : World) (hL : LC w) (hn : n ≤ 9223372036854775807) (hln : ln ≤ 9223372036854775807) (htn : tn ≤ 9223372036854775807) (hnn : nn ≤ 9223372036854775807) (HV : Hk (hv13 n ln tn = false)) (ht30 : tn ≤ 30) (h20 : nn ≤ 20) (H0 : Hk (nn = 0)) :
    Calls Tryd.prog 14 #[.agg #[.int .i64 W, .int .i64 H, .slice a n c, .slice la ln lc, .int .i64 x, .int .i64 sz, .slice ta tn tc, .slice na nn nc]] w fun e w' => e = .returned (.bool true) ∧ Below w.heap.size w w' := by
  have HWB : Hk (Below w.heap.size w (w.alloc (.cells #[.int .i64 W, .int .i64 H, .slice a n c, .slice la ln lc, .int .i64 x, .int .i64 sz, .slice ta tn tc, .slice na nn nc] 66))) := ⟨(Below.refl _ _).alloc (Nat.le_refl _) _⟩
  have hNW : (w.heap.size + 1) ≤ (w.alloc (.cells #[.int .i64 W, .int .i64 H, .slice a n c, .slice la ln lc, .int .i64 x, .int .i64 sz, .slice ta tn tc, .slice na nn nc] 66)).heap.size := by simp
  have HB : Hk (Below (w.heap.size + 1) (w.alloc (.cells #[.int .i64 W, .int .i64 H, .slice a n c, .slice la ln lc, .int .i64 x, .int .i64 sz, .slice ta tn tc, .slice na nn nc] 66)) (w.alloc (.cells #[.int .i64 W, .int .i64 H, .slice a n c, .slice la ln lc, .int .i64 x, .int .i64 sz, .slice ta tn tc, .slice na nn nc] 66))) := ⟨Below.refl _ _⟩
  have HTR : Hk (∀ X, Below (w.heap.size + 1) (w.alloc (.cells #[.int .i64 W, .int .i64 H, .slice a n c, .slice la ln lc, .int .i64 x, .int .i64 sz, .slice ta tn tc, .slice na nn nc] 66)) X → Below w.heap.size w X) := ⟨fun X hX => HWB.out.trans (hX.mono (by omega))⟩
  have HLF := Hk.mk (fun (X : World) (hX : Below (w.heap.size + 1) (w.alloc (.cells #[.int .i64 W, .int .i64 H, .slice a n c, .slice la ln lc, .int .i64 x, .int .i64 sz, .slice ta tn tc, .slice na nn nc] 66)) X) => hL.below (HTR.out X hX) (Nat.le_refl _))
  clear hL
  obtain ⟨hc, hf, hl, hn', hm⟩ := kw_rules HB.out hNW
  have d20 : decide (20 < (nn : Int)) = false := by simp; omega
  have d20n : decide (20 < nn) = false := by simp; omega
  have dj : decide ((0 : Int) < (nn : Int)) = false := by have := H0.out; simp; omega
  have dj2 : decide (0 < nn) = false := by have := H0.out; simp; omega
  have dj4 : ¬ 0 < nn := by have := H0.out; omega
  go_enter Tryd.func14, Tryd.ntmps14
  go_wp2_with (go_at_call 17; (with_reducible refine (heavy13_as false W H x sz a la ta n c ln lc tn tc _ (by omega) (by omega) (by omega) HV).mono ?_); rintro e z ⟨rfl, hb⟩; replace HB := Hk.mk (kw_step HB.out hNW hb); clear hb; clear hc hf hl hn' hm; obtain ⟨hc, hf, hl, hn', hm⟩ := kw_rules HB.out hNW)
  have HB := HB
  clear hc hf hl hn' hm
  go_loopw [3] (fun i wr => ∃ k : Nat, i = .int .i64 k ∧ k ≤ 6 ∧ k ≤ tn ∧ Hk (Below (w.heap.size + 1) (w.alloc (.cells #[.int .i64 W, .int .i64 H, .slice a n c, .slice la ln lc, .int .i64 x, .int .i64 sz, .slice ta tn tc, .slice na nn nc] 66)) wr)) (fun i _ => 6 - (intOf i).toNat)
  case atStart => exact ⟨0, rfl, by omega, by omega, HB⟩
  case round =>
    clear HB
    obtain ⟨k, rfl, hk6, hkt, HB⟩ := hrel
    obtain ⟨hc, hf, hl, hn', hm⟩ := kw_rules HB.out hNW
    by_cases hlt : k < tn ∧ k < 6
    · obtain ⟨hlt, hl3⟩ := hlt
      have dk : decide ((k : Int) < (tn : Int)) = true := by simpa using hlt
      have dk3 : decide ((k : Int) < 6) = true := by simp; omega
      as_aux_lemma =>
        go_wp2_with fail
        clear hc hf hl hn' hm
        obtain ⟨wo, rfl⟩ : ∃ wo : World, wo = wr := ⟨wr, rfl⟩
        go_loopw [4] (fun i wr => i = .int .i64 0 ∧ Hk (Below (w.heap.size + 1) (w.alloc (.cells #[.int .i64 W, .int .i64 H, .slice a n c, .slice la ln lc, .int .i64 x, .int .i64 sz, .slice ta tn tc, .slice na nn nc] 66)) wr)) (fun i _ => 0)
        case atStart => exact ⟨rfl, HB⟩
        case round =>
          clear HB
          obtain ⟨rfl, HB⟩ := hrel
          obtain ⟨hc, hf, hl, hn', hm⟩ := kw_rules HB.out hNW
          go_wp2_with fail
          exact ⟨⟨k + 1, by go_num, by omega, by omega, HB⟩, by simp [intOf]; omega⟩
    · have hor : (¬ k < tn) ∨ (k < tn ∧ ¬ k < 6) := by omega
      rcases hor with h1 | ⟨h1, h3⟩
      · have dk : decide ((k : Int) < (tn : Int)) = false := by simp; omega
        as_aux_lemma =>
          go_wp2_with (go_at_call 48; (with_reducible refine (wakes20_any _ (HLF.out _ HB.out)).mono ?_); rintro e z ⟨rfl, hb⟩; replace HB := Hk.mk (kw_step HB.out hNW hb); clear hb; clear hc hf hl hn' hm; obtain ⟨hc, hf, hl, hn', hm⟩ := kw_rules HB.out hNW)
          go_ret
          exact ⟨rfl, HTR.out _ HB.out⟩
      · have dk : decide ((k : Int) < (tn : Int)) = true := by simpa using h1
        have dk3 : decide ((k : Int) < 6) = false := by simp; omega
        as_aux_lemma =>
          go_wp2_with (go_at_call 48; (with_reducible refine (wakes20_any _ (HLF.out _ HB.out)).mono ?_); rintro e z ⟨rfl, hb⟩; replace HB := Hk.mk (kw_step HB.out hNW hb); clear hb; clear hc hf hl hn' hm; obtain ⟨hc, hf, hl, hn', hm⟩ := kw_rules HB.out hNW)
          go_ret
          exact ⟨rfl, HTR.out _ HB.out⟩
theorem slotsFinds_walk (v : Value) (w : World) (hL : LC w) (rows : Asks20 w v) :
    Calls Tryd.prog 14 #[v] w fun e w' => e = .returned (.bool true) ∧ Below w.heap.size w w' := by
  obtain ⟨W, H, a, n, c, xs, la, ln, lc, bs, x, sz, ta, tn, tc, ts, na, nn, nc, ns, rfl, hn, hln, htn, hnn, hlc, hW, hH, hx, hsz, hby, hbq, hnq, hnq2⟩ := rows
  by_cases g : hv13 n ln tn = true
  · exact slotsFinds_big W H a n c la ln lc x sz ta tn tc na nn nc w hL hn hln htn hnn ⟨g⟩
  have g' : hv13 n ln tn = false := by simpa using g
  have hs : (n ≤ 700 ∧ ln ≤ 30) ∧ tn ≤ 30 := by unfold hv13 gtP at g'; simp at g'; omega
  by_cases g2 : 20 < nn
  · exact slotsFinds_many W H a n c la ln lc x sz ta tn tc na nn nc w hL hn hln htn hnn ⟨g'⟩ g2
  by_cases h0 : tn = 0
  · exact slotsFinds_t0 W H a n c la ln lc x sz ta tn tc na nn nc w hL hn hln htn hnn ⟨g'⟩ (by omega) ⟨h0⟩
  by_cases h1 : nn = 0
  · exact slotsFinds_n0 W H a n c la ln lc x sz ta tn tc na nn nc w hL hn hln htn hnn ⟨g'⟩ hs.2 (by omega) ⟨h1⟩
  obtain ⟨tb, toff, rfl, _, _⟩ := hnq.rd (by omega)
  obtain ⟨nb, noff, rfl, _, _⟩ := hnq2.rd (by omega)
  by_cases M : MOk W H n xs bs ∧ (0 ≤ x ∧ x ≤ 2) ∧ 0 ≤ sz ∧ sz ≤ 3
  · obtain ⟨cl, rfl⟩ : ∃ cl : Nat, x = cl := ⟨x.toNat, by omega⟩
    obtain ⟨s, rfl⟩ : ∃ s : Nat, sz = s := ⟨sz.toNat, by omega⟩
    exact slotsFinds_yes W H a n c xs la ln lc bs cl s tb toff tn tc ts nb noff nn nc ns w hL hby hbq hnq hnq2 hs.1.1 hs.1.2 hs.2 (by omega) hlc ⟨g'⟩ (by omega) (by omega) ⟨M.1⟩
  · exact slotsFinds_no W H a n c xs la ln lc bs x sz tb toff tn tc ts nb noff nn nc ns w hL hby hbq hnq hnq2 hs.1.1 hs.1.2 hs.2 (by omega) hlc ⟨g'⟩ ⟨M⟩

theorem slotsFinds_own : ownKnob Tryd.prog.godebug = none := by kernel_rfl
theorem slotsFinds_laidOut : laidOutB Tryd.prog = true := by kernel_rfl
theorem slotsFinds_door (os : Os) (args : Array Value) : laidMetH Tryd.prog [("throng/kind.costs", Rows.laid_throng_kind_costs)] ((World.doorLaid Tryd.prog 400 os).forCall (fun _ _ => 0) ⟨#[], args, []⟩).memory :=
  laidMetH_of_parts3 (fuel := 8) (laidMet_of_run' 8 (by kernel_rfl) (by kernel_rfl)) (by kernel_rfl) (by kernel_rfl)
set_option maxRecDepth 100000 in
theorem slotsFinds_lifted (os : Os) (started : os.Started) (H : Type) (enc : TypeId × Value → H) :
    ReturnsInHanded {} Tryd.checked os 14 .any (fun w args => (Rows.slotsFindsSpec.pre enc Tryd.prog Tryd.f14 [] false w args ∧ laidMetH Tryd.prog [("throng/kind.costs", Rows.laid_throng_kind_costs)] w) ∧ sizedMet enc Tryd.prog Tryd.f14 (OpenSpec.ofChange Rows.slotsFindsSpec) false w args)
      (Rows.slotsFindsSpec.post enc Tryd.prog Tryd.f14 false true false false) := by
  refine returnsInHanded_of_change_and (C := Tryd.checked) (X := fun w _ => laidMetH Tryd.prog [("throng/kind.costs", Rows.laid_throng_kind_costs)] w) (fun _ _ _ hh h => h.of_heap hh) slotsFinds_own started (by kernel_rfl) Tryd.func14
    (ChangeSpec.witness_shaped (enc := enc) (C := Tryd.checked) (os := os) (X := fun w _ => laidMetH Tryd.prog [("throng/kind.costs", Rows.laid_throng_kind_costs)] w) false (World.doorLaid Tryd.prog 400 os) #[.agg #[.int .i64 0, .int .i64 0, .slice none 0 0, .slice none 0 0, .int .i64 0, .int .i64 0, .slice none 0 0, .slice none 0 0]] 8 rfl (World.shaped_of_RefB (by kernel_rfl) (by kernel_rfl)) (by kernel_rfl) (by kernel_rfl) (by kernel_rfl) (slotsFinds_door os _)) ?_
  intro W base args ds gs before hval0 hW _ _ hL _
  have hval : ∀ (j : Nat) t v, Tryd.f14.params[j]? = some t → args[j]? = some v → Value.okWide Tryd.prog W .any base t v := hval0
  have hW' := hW
  obtain ⟨p, q, hA0, hV, rfl, hfz, hnd⟩ := hW
  have hA : DataW.TrodAll enc Tryd.prog W 0 (fun _ => true) true Tryd.f14.params.toList args.toList ds p := hA0
  rw [Tryd.params14] at hA hval
  obtain ⟨v0, vs0, d0, ds0, p0, q0, hargs, rfl, rfl, h0, r0⟩ := trodAll_cons hA
  obtain ⟨rfl, rfl, rfl⟩ := trodAll_nil r0
  obtain rfl : args = #[v0] := by cases args; simp_all
  obtain ⟨rfl, rfl⟩ := trodVars_none hV
  obtain ⟨cs0, rfl, hcs0⟩ := okWide_struct Tryd.underlying66 (hval 0 66 v0 rfl rfl)
  have k0 := h0
  have lt0 : ∀ x ∈ p0, x.block < W.heap.size := by obtain ⟨m, hm⟩ := k0; exact DataW.trod_lt m _ _ _ hm
  have rows : Asks20 W (.agg cs0) := by obtain ⟨fuel, hf⟩ := h0; exact asks20_of hcs0 hf
  clear hA0 hval0
  refine (slotsFinds_walk (.agg cs0) W (of_laidC hL) rows).mono fun e W' ⟨he, bel⟩ => ?_
  subst he
  exact ⟨_, rfl, _, _, _, [], _, [], hW', trodAll_mk1 (shut_bool Tryd.underlying4 _), (trodAll_cons_mk (Below.trod slotsFinds_laidOut (by kernel_rfl) (of_decide_eq_true (by kernel_rfl)) k0 bel lt0) trodAll_mk0), rfl, bel.frame _, fun h => by cases h⟩
theorem slotsFinds_over : Rows.SlotsFindsSaid :=
  OpenClaim.holds_of_wide 14 Tryd.f14 rfl rfl rfl rfl rfl rfl rfl ⟨rfl, rfl, rfl, rfl, rfl⟩ rfl rfl rfl rfl rfl (by kernel_rfl) Tryd.func14 (by kernel_rfl)
    (of_decide_eq_true (by kernel_rfl)) (by unfold Func.isWrapper; first | (rw [if_pos (by decide +kernel)]; kernel_rfl) | (rw [if_neg (by decide +kernel)]; exact ⟨rfl, rfl⟩))
    (fun os started H enc _ => slotsFinds_lifted os started H enc)
/-- The given card of SlotsFinds. -/
theorem slotsFinds_card : Rows.SlotsFindsCardSaid :=
  Claim7.holds_tied_plain_at .later [] [.data] true (true, "90ed51393f35b406bdee0705b6f0a8d051456ef454f3ffd6e600d1670cebcd34") false
    slotsFinds_over (fun _ h => by cases h) (by kernel_rfl) (fun _ h => by cases h) slotsFinds_row_tie rfl ⟨rfl, rfl⟩ (by kernel_rfl) rfl
    (fun f fn hf hfn => by
      obtain rfl : f = 14 := Option.some.inj ((show Tryd.prog.funcNamed "throng/thronglaw20.SlotsFinds" = some 14 by kernel_rfl).symm.trans hf) |>.symm
      obtain rfl : fn = Tryd.f14 := (Option.some.inj (Tryd.func14.symm.trans hfn)).symm
      exact ⟨by kernel_rfl, fun j t ht => by
        rw [Tryd.params14] at ht
        have hm : t ∈ [66] := by simpa using Array.mem_of_getElem? ht
        have hall : ([66].all fun u => !Tryd.prog.wantsStandIn u) = true := by kernel_rfl
        exact (show Tryd.prog.wantsStandIn t = false by simpa using List.all_eq_true.1 hall t hm)⟩)
    (by kernel_rfl)
end Go.Proofs.YthabjihpjdlmoaaDoor

