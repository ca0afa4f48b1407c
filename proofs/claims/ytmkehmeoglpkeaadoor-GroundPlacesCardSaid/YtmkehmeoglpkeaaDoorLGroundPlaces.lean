/- For every argument, GroundPlaces answers true and leaves its argument as it was: in which tile any place lies is the page's, or refused. No condition; the table of package tiles is tied to the program's text. -/
import Derived.Test.YtmkehmeoglpkeaaDoorAsk6
import Derived.Test.YtmkehmeoglpkeaaDoorHold
import Derived.Deep.QuietTactic
import Derived.BigQuiet
import Derived.Deep.RegionWith
import Derived.Deep.RegionHeld3
import Derived.Test.YtmkehmeoglpkeaaDoorCards
import Derived.Test.YtmkehmeoglpkeaaDoorTie
import Derived.SevenTiedAt
import Derived.ProofKit
import Derived.LaidMore
import Derived.OpenShut
import Derived.Stop.Joined
namespace Go.Proofs.YtmkehmeoglpkeaaDoor
open Go.ChangeShapes Go.WideShapes Go.ChangeAt Go.RowKit Go.Deep
set_option linter.unusedVariables false
set_option maxRecDepth 100000 in
set_option maxHeartbeats 1600000 in
theorem groundPlaces_walk (v : Value) (w : World) (hL : LT w) (rows : Asks6 w v) :
    Calls Tryd.prog 4 #[v] w fun e w' => e = .returned (.bool true) ∧ Below w.heap.size w w' := by
  obtain ⟨W, H, a, n, c, xs, ta, tn, tc, ts, pa, pn, pc, f, g, rfl, hW, hH, hn, htn, hpn, hby, hnq, hvq⟩ := rows
  have HL := Hk.mk hL
  have HBY := Hk.mk (fun (X : World) (hX : Below w.heap.size w X) => hby.below hX (Nat.le_refl _))
  have HNQ := Hk.mk (fun (X : World) (hX : Below w.heap.size w X) => hnq.below hX (Nat.le_refl _))
  have HVQ := Hk.mk (fun (X : World) (hX : Below w.heap.size w X) => hvq.below hX (Nat.le_refl _))
  have HLL := Hk.mk (fun (X : World) (hX : Below w.heap.size w X) => hL.below hX (Nat.le_refl _))
  have hnl := hnq.len
  have HNL := Hk.mk hnl
  have HVN := Hk.mk hvq.num
  clear hby hnq hvq hL hnl
  have HWB : Hk (Below w.heap.size w (w.alloc (.cells #[.int .i64 W, .int .i64 H, .slice a n c, .slice ta tn tc, .slice pa pn pc] 28))) := ⟨(Below.refl _ _).alloc (Nat.le_refl _) _⟩
  have HC : Hk (∀ X, Below (w.heap.size + 1) (w.alloc (.cells #[.int .i64 W, .int .i64 H, .slice a n c, .slice ta tn tc, .slice pa pn pc] 28)) X → X.cell? ⟨w.heap.size, 0, none⟩ = some (.int .i64 W) ∧ X.cell? ⟨w.heap.size, 1, none⟩ = some (.int .i64 H) ∧ X.cell? ⟨w.heap.size, 2, none⟩ = some (.slice a n c) ∧ X.cell? ⟨w.heap.size, 3, none⟩ = some (.slice ta tn tc) ∧ X.cell? ⟨w.heap.size, 4, none⟩ = some (.slice pa pn pc)) :=
    ⟨fun X hX => ⟨(hX.cell (p := ⟨w.heap.size, 0, none⟩) (by simp)).trans (by go_simp), (hX.cell (p := ⟨w.heap.size, 1, none⟩) (by simp)).trans (by go_simp), (hX.cell (p := ⟨w.heap.size, 2, none⟩) (by simp)).trans (by go_simp), (hX.cell (p := ⟨w.heap.size, 3, none⟩) (by simp)).trans (by go_simp), (hX.cell (p := ⟨w.heap.size, 4, none⟩) (by simp)).trans (by go_simp)⟩⟩
  have HTR : Hk (∀ X, Below (w.heap.size + 1) (w.alloc (.cells #[.int .i64 W, .int .i64 H, .slice a n c, .slice ta tn tc, .slice pa pn pc] 28)) X → Below w.heap.size w X) := ⟨fun X hX => HWB.out.trans (hX.mono (by omega))⟩
  cases hhv : heavyB n tn pn
  case true =>
    have HV := Hk.mk hhv
    clear hhv
    go_enter Tryd.func4, Tryd.ntmps4
    go_wp2_with (go_at_call 8; (with_reducible refine (heavy6_as true W H a ta pa n c tn tc pn pc _ hn htn hpn HV).mono ?_); rintro e w1 ⟨rfl, hb1⟩; have HB1 := Hk.mk hb1; clear hb1)
    go_ret
    exact ⟨rfl, HWB.out.trans (HB1.out.mono (by simp))⟩
  case false =>
    have HV := Hk.mk hhv
    have hsm : n ≤ 20000 ∧ tn ≤ 60 ∧ pn ≤ 60 := by unfold heavyB at hhv; simp at hhv; omega
    obtain ⟨sm1, sm2, sm3⟩ := hsm
    clear hhv hn htn hpn
    go_enter Tryd.func4, Tryd.ntmps4
    go_wp2_with (go_at_call 8; (with_reducible refine (heavy6_as false W H a ta pa n c tn tc pn pc _ (by omega) (by omega) (by omega) HV).mono ?_); rintro e w1 ⟨rfl, hb1⟩; have HB1 : Hk (Below (w.heap.size + 1) (w.alloc (.cells #[.int .i64 W, .int .i64 H, .slice a n c, .slice ta tn tc, .slice pa pn pc] 28)) w1) := ⟨by simpa using hb1⟩; clear hb1)
    by_cases hg : GOk W H n xs
    · have EQB : Hk (gB W H n xs = true) := ⟨gB_yes hg⟩
      have HG := Hk.mk hg
      obtain ⟨w1', w2', h1', h2'⟩ : 1 ≤ W ∧ W ≤ 128 ∧ 1 ≤ H ∧ H ≤ 128 := ⟨hg.w1, hg.w2, hg.h1, hg.h2⟩
      clear hg
      go_loopw [3] (fun i wr => ∃ (k : Nat), i = .int .i64 k ∧ k ≤ pn ∧ Hk (Below (w.heap.size + 1) (w.alloc (.cells #[.int .i64 W, .int .i64 H, .slice a n c, .slice ta tn tc, .slice pa pn pc] 28)) wr)) (fun i _ => pn - (intOf i).toNat)
      case atStart => exact ⟨0, rfl, by omega, HB1⟩
      case round =>
        obtain ⟨k, rfl, hk, HB⟩ := hrel
        clear HB1
        by_cases hlt : k < pn
        · obtain ⟨px, hpx⟩ : ∃ px, f k = px := ⟨_, rfl⟩
          obtain ⟨py, hpy⟩ : ∃ py, g k = py := ⟨_, rfl⟩
          have hpi := HVN.out k hlt
          rw [hpx, hpy] at hpi
          obtain ⟨b, off, rfl, hbl, hc⟩ := (HVQ.out _ (HTR.out _ HB.out)).rd (by omega)
          have p0 := (hc k hlt).1
          have p1 := (hc k hlt).2
          rw [hpx] at p0
          rw [hpy] at p1
          clear hc hpx hpy
          obtain ⟨d0, d1, d2, d3, d4⟩ := HC.out _ HB.out
          have eb := HB.out
          have j1 : (0 : Int) ≤ (k : Int) := by omega
          have j2 : (k : Int) < (pn : Int) := by omega
          by_cases hin : 0 ≤ px ∧ px < W * 65536 ∧ 0 ≤ py ∧ py < H * 65536
          · obtain ⟨x0, x1, y0, y1⟩ := hin
            have u1 : 0 ≤ px / 65536 := by omega
            have u3 : 0 ≤ py / 65536 := by omega
            have m4 : 0 ≤ W * (py / 65536) := Int.mul_nonneg (by omega) (by omega)
            have hneg : decide (px / 65536 + W * (py / 65536) < 0) = false := by simp; omega
            go_wp2_with (go_at_call 9; go_must (refine (hold6 (b1 := w.heap.size) (o1 := 0) (x1 := .int .i64 W) (b2 := w.heap.size) (o2 := 1) (x2 := .int .i64 H) (b3 := w.heap.size) (o3 := 2) (x3 := .slice a n c) (b4 := w.heap.size) (o4 := 4) (x4 := .slice (some ⟨b, off, none⟩) pn pc) (b5 := b) (o5 := off + k * 2) (x5 := .int .i64 px) (b6 := b) (o6 := off + k * 2 + 1) (x6 := .int .i64 py) (rgr_as true W H a n c w.heap.size xs _ ?_ ?_ ?_ EQB) eb ?_ d0 d1 d2 d4 p0 p1).mono ?_); (exact HBY.out _ (HTR.out _ eb)); (exact (HTR.out _ eb).size); (omega); (first | exact hsz_of eb | exact hsz_of eb.drew); clear d0 d1 d2 d4 p0 p1; rintro e w' ⟨rfl, d0, d1, d2, d4, p0, p1, eb'⟩; replace eb := eb')
            go_region_held3 (fun w' => w'.cell? ⟨w.heap.size, 0, none⟩ = some (.int .i64 W) ∧ w'.cell? ⟨w.heap.size, 1, none⟩ = some (.int .i64 H) ∧ w'.cell? ⟨w.heap.size, 2, none⟩ = some (.slice a n c) ∧ w'.cell? ⟨w.heap.size, 4, none⟩ = some (.slice (some ⟨b, off, none⟩) pn pc) ∧ w'.cell? ⟨b, off + k * 2, none⟩ = some (.int .i64 px) ∧ w'.cell? ⟨b, off + k * 2 + 1, none⟩ = some (.int .i64 py) ∧ Below (w.heap.size + 1) (w.alloc (.cells #[.int .i64 W, .int .i64 H, .slice a n c, .slice ta tn tc, .slice (some ⟨b, off, none⟩) pn pc] 28)) w') (first | exact ⟨ed0, ed1, ed2, ed4, ep0, ep1, eb⟩ | exact ⟨ed0, ed1, ed2, ed4, ep0, ep1, Below.drew eb⟩ | exact ⟨d0, d1, d2, d4, p0, p1, Below.drew eb⟩ | go_keep)
                    (first | (go_at_call 18; go_must (refine (hold6 (B := w.heap.size + 1) (w0 := w.alloc (.cells #[.int .i64 W, .int .i64 H, .slice a n c, .slice ta tn tc, .slice (some ⟨b, off, none⟩) pn pc] 28)) (b1 := w.heap.size) (o1 := 0) (x1 := .int .i64 W) (b2 := w.heap.size) (o2 := 1) (x2 := .int .i64 H) (b3 := w.heap.size) (o3 := 2) (x3 := .slice a n c) (b4 := w.heap.size) (o4 := 4) (x4 := .slice (some ⟨b, off, none⟩) pn pc) (b5 := b) (o5 := off + k * 2) (x5 := .int .i64 px) (b6 := b) (o6 := off + k * 2 + 1) (x6 := .int .i64 py) (at_yes W H px py (.slice a n c) _ w1' w2' h1' h2' x0 x1 y0 y1) ?_ ?_ ?_ ?_ ?_ ?_ ?_ ?_ ).mono ?_); (first | assumption | exact eb.drew); (first | exact hsz_of eb | exact hsz_of eb.drew); (first | assumption | exact ed0 | exact d0); (first | assumption | exact ed1 | exact d1); (first | assumption | exact ed2 | exact d2); (first | assumption | exact ed4 | exact d4); (first | assumption | exact ep0 | exact p0); (first | assumption | exact ep1 | exact p1); rintro e w' ⟨rfl, ed0, ed1, ed2, ed4, ep0, ep1, eb⟩))
            go_wp2
            go_region_held3 (fun w' => w'.cell? ⟨w.heap.size, 0, none⟩ = some (.int .i64 W) ∧ w'.cell? ⟨w.heap.size, 1, none⟩ = some (.int .i64 H) ∧ w'.cell? ⟨w.heap.size, 2, none⟩ = some (.slice a n c) ∧ w'.cell? ⟨w.heap.size, 4, none⟩ = some (.slice (some ⟨b, off, none⟩) pn pc) ∧ w'.cell? ⟨b, off + k * 2, none⟩ = some (.int .i64 px) ∧ w'.cell? ⟨b, off + k * 2 + 1, none⟩ = some (.int .i64 py) ∧ Below (w.heap.size + 1) (w.alloc (.cells #[.int .i64 W, .int .i64 H, .slice a n c, .slice ta tn tc, .slice (some ⟨b, off, none⟩) pn pc] 28)) w') (first | exact ⟨ed0, ed1, ed2, ed4, ep0, ep1, eb⟩ | exact ⟨ed0, ed1, ed2, ed4, ep0, ep1, Below.drew eb⟩ | exact ⟨d0, d1, d2, d4, p0, p1, Below.drew eb⟩ | go_keep)
                    (first | (go_at_call 19; go_must (refine (hold6 (B := w.heap.size + 1) (w0 := w.alloc (.cells #[.int .i64 W, .int .i64 H, .slice a n c, .slice ta tn tc, .slice (some ⟨b, off, none⟩) pn pc] 28)) (b1 := w.heap.size) (o1 := 0) (x1 := .int .i64 W) (b2 := w.heap.size) (o2 := 1) (x2 := .int .i64 H) (b3 := w.heap.size) (o3 := 2) (x3 := .slice a n c) (b4 := w.heap.size) (o4 := 4) (x4 := .slice (some ⟨b, off, none⟩) pn pc) (b5 := b) (o5 := off + k * 2) (x5 := .int .i64 px) (b6 := b) (o6 := off + k * 2 + 1) (x6 := .int .i64 py) (of_yes px py W H a n c w.heap.size xs _ ?_ ?_ ?_ HG.out x0 x1 y0 y1) ?_ ?_ ?_ ?_ ?_ ?_ ?_ ?_ ).mono ?_); (exact HBY.out _ (HTR.out _ (by first | exact eb.drew | exact eb))); (exact (HTR.out _ (by first | exact eb.drew | exact eb)).size); (omega); (first | assumption | exact eb.drew); (first | exact hsz_of eb | exact hsz_of eb.drew); (first | assumption | exact ed0 | exact d0); (first | assumption | exact ed1 | exact d1); (first | assumption | exact ed2 | exact d2); (first | assumption | exact ed4 | exact d4); (first | assumption | exact ep0 | exact p0); (first | assumption | exact ep1 | exact p1); rintro e w' ⟨rfl, ed0, ed1, ed2, ed4, ep0, ep1, eb⟩))
            go_wp2_with (go_at_call 10; (with_reducible refine (num6_any _ _).mono ?_); rintro e w' ⟨rfl, rfl⟩)
            replace HB := Hk.mk eb
            refine ⟨⟨k + 1, by go_num, by omega, HB⟩, by simp [intOf]; omega⟩
          · have HIN := Hk.mk hin
            clear hin
            go_wp2_with (go_at_call 9; go_must (refine (hold6 (b1 := w.heap.size) (o1 := 0) (x1 := .int .i64 W) (b2 := w.heap.size) (o2 := 1) (x2 := .int .i64 H) (b3 := w.heap.size) (o3 := 2) (x3 := .slice a n c) (b4 := w.heap.size) (o4 := 4) (x4 := .slice (some ⟨b, off, none⟩) pn pc) (b5 := b) (o5 := off + k * 2) (x5 := .int .i64 px) (b6 := b) (o6 := off + k * 2 + 1) (x6 := .int .i64 py) (rgr_as true W H a n c w.heap.size xs _ ?_ ?_ ?_ EQB) eb ?_ d0 d1 d2 d4 p0 p1).mono ?_); (exact HBY.out _ (HTR.out _ eb)); (exact (HTR.out _ eb).size); (omega); (first | exact hsz_of eb | exact hsz_of eb.drew); clear d0 d1 d2 d4 p0 p1; rintro e w' ⟨rfl, d0, d1, d2, d4, p0, p1, eb'⟩; replace eb := eb')
            go_region_held3 (fun w' => w'.cell? ⟨w.heap.size, 0, none⟩ = some (.int .i64 W) ∧ w'.cell? ⟨w.heap.size, 1, none⟩ = some (.int .i64 H) ∧ w'.cell? ⟨w.heap.size, 2, none⟩ = some (.slice a n c) ∧ w'.cell? ⟨w.heap.size, 4, none⟩ = some (.slice (some ⟨b, off, none⟩) pn pc) ∧ w'.cell? ⟨b, off + k * 2, none⟩ = some (.int .i64 px) ∧ w'.cell? ⟨b, off + k * 2 + 1, none⟩ = some (.int .i64 py) ∧ Below (w.heap.size + 1) (w.alloc (.cells #[.int .i64 W, .int .i64 H, .slice a n c, .slice ta tn tc, .slice (some ⟨b, off, none⟩) pn pc] 28)) w') (first | exact ⟨ed0, ed1, ed2, ed4, ep0, ep1, eb⟩ | exact ⟨ed0, ed1, ed2, ed4, ep0, ep1, Below.drew eb⟩ | exact ⟨d0, d1, d2, d4, p0, p1, Below.drew eb⟩ | go_keep)
                    (first | (go_at_call 18; go_must (refine (hold6 (B := w.heap.size + 1) (w0 := w.alloc (.cells #[.int .i64 W, .int .i64 H, .slice a n c, .slice ta tn tc, .slice (some ⟨b, off, none⟩) pn pc] 28)) (b1 := w.heap.size) (o1 := 0) (x1 := .int .i64 W) (b2 := w.heap.size) (o2 := 1) (x2 := .int .i64 H) (b3 := w.heap.size) (o3 := 2) (x3 := .slice a n c) (b4 := w.heap.size) (o4 := 4) (x4 := .slice (some ⟨b, off, none⟩) pn pc) (b5 := b) (o5 := off + k * 2) (x5 := .int .i64 px) (b6 := b) (o6 := off + k * 2 + 1) (x6 := .int .i64 py) (at_no W H px py (.slice a n c) _ w1' w2' h1' h2' HIN.out) ?_ ?_ ?_ ?_ ?_ ?_ ?_ ?_ ).mono ?_); (first | assumption | exact eb.drew); (first | exact hsz_of eb | exact hsz_of eb.drew); (first | assumption | exact ed0 | exact d0); (first | assumption | exact ed1 | exact d1); (first | assumption | exact ed2 | exact d2); (first | assumption | exact ed4 | exact d4); (first | assumption | exact ep0 | exact p0); (first | assumption | exact ep1 | exact p1); rintro e w' ⟨rfl, ed0, ed1, ed2, ed4, ep0, ep1, eb⟩))
            go_wp2
            go_region_held3 (fun w' => w'.cell? ⟨w.heap.size, 0, none⟩ = some (.int .i64 W) ∧ w'.cell? ⟨w.heap.size, 1, none⟩ = some (.int .i64 H) ∧ w'.cell? ⟨w.heap.size, 2, none⟩ = some (.slice a n c) ∧ w'.cell? ⟨w.heap.size, 4, none⟩ = some (.slice (some ⟨b, off, none⟩) pn pc) ∧ w'.cell? ⟨b, off + k * 2, none⟩ = some (.int .i64 px) ∧ w'.cell? ⟨b, off + k * 2 + 1, none⟩ = some (.int .i64 py) ∧ Below (w.heap.size + 1) (w.alloc (.cells #[.int .i64 W, .int .i64 H, .slice a n c, .slice ta tn tc, .slice (some ⟨b, off, none⟩) pn pc] 28)) w') (first | exact ⟨ed0, ed1, ed2, ed4, ep0, ep1, eb⟩ | exact ⟨ed0, ed1, ed2, ed4, ep0, ep1, Below.drew eb⟩ | exact ⟨d0, d1, d2, d4, p0, p1, Below.drew eb⟩ | go_keep)
                    (first | (go_at_call 19; go_must (refine (hold6 (B := w.heap.size + 1) (w0 := w.alloc (.cells #[.int .i64 W, .int .i64 H, .slice a n c, .slice ta tn tc, .slice (some ⟨b, off, none⟩) pn pc] 28)) (b1 := w.heap.size) (o1 := 0) (x1 := .int .i64 W) (b2 := w.heap.size) (o2 := 1) (x2 := .int .i64 H) (b3 := w.heap.size) (o3 := 2) (x3 := .slice a n c) (b4 := w.heap.size) (o4 := 4) (x4 := .slice (some ⟨b, off, none⟩) pn pc) (b5 := b) (o5 := off + k * 2) (x5 := .int .i64 px) (b6 := b) (o6 := off + k * 2 + 1) (x6 := .int .i64 py) (of_none px py W H a n c w.heap.size xs _ ?_ ?_ ?_ HG.out HIN.out) ?_ ?_ ?_ ?_ ?_ ?_ ?_ ?_ ).mono ?_); (exact HBY.out _ (HTR.out _ (by first | exact eb.drew | exact eb))); (exact (HTR.out _ (by first | exact eb.drew | exact eb)).size); (omega); (first | assumption | exact eb.drew); (first | exact hsz_of eb | exact hsz_of eb.drew); (first | assumption | exact ed0 | exact d0); (first | assumption | exact ed1 | exact d1); (first | assumption | exact ed2 | exact d2); (first | assumption | exact ed4 | exact d4); (first | assumption | exact ep0 | exact p0); (first | assumption | exact ep1 | exact p1); rintro e w' ⟨rfl, ed0, ed1, ed2, ed4, ep0, ep1, eb⟩))
            go_wp2_with (go_at_call 10; (with_reducible refine (num6_any _ _).mono ?_); rintro e w' ⟨rfl, rfl⟩)
            replace HB := Hk.mk eb
            refine ⟨⟨k + 1, by go_num, by omega, HB⟩, by simp [intOf]; omega⟩
        · have hkn : k = pn := by omega
          subst hkn
          obtain ⟨d0, d1, d2, d3, d4⟩ := HC.out _ HB.out
          go_wp2_with (go_at_call 17; (with_reducible refine (wakes6_any _ (HLL.out _ (HTR.out _ HB.out))).mono ?_); rintro e w3 ⟨rfl, hb3⟩; have HB3 := Hk.mk hb3; clear hb3)
          go_ret
          exact ⟨rfl, (HTR.out _ HB.out).trans (HB3.out.mono (HTR.out _ HB.out).size)⟩
    · have EQB : Hk (gB W H n xs = false) := ⟨gB_no hg⟩
      have HG := Hk.mk hg
      clear hg
      go_loopw [3] (fun i wr => ∃ (k : Nat), i = .int .i64 k ∧ k ≤ pn ∧ Hk (Below (w.heap.size + 1) (w.alloc (.cells #[.int .i64 W, .int .i64 H, .slice a n c, .slice ta tn tc, .slice pa pn pc] 28)) wr)) (fun i _ => pn - (intOf i).toNat)
      case atStart => exact ⟨0, rfl, by omega, HB1⟩
      case round =>
        obtain ⟨k, rfl, hk, HB⟩ := hrel
        clear HB1
        by_cases hlt : k < pn
        · obtain ⟨px, hpx⟩ : ∃ px, f k = px := ⟨_, rfl⟩
          obtain ⟨py, hpy⟩ : ∃ py, g k = py := ⟨_, rfl⟩
          have hpi := HVN.out k hlt
          rw [hpx, hpy] at hpi
          obtain ⟨b, off, rfl, hbl, hc⟩ := (HVQ.out _ (HTR.out _ HB.out)).rd (by omega)
          have p0 := (hc k hlt).1
          have p1 := (hc k hlt).2
          rw [hpx] at p0
          rw [hpy] at p1
          clear hc hpx hpy
          obtain ⟨d0, d1, d2, d3, d4⟩ := HC.out _ HB.out
          have eb := HB.out
          have j1 : (0 : Int) ≤ (k : Int) := by omega
          have j2 : (k : Int) < (pn : Int) := by omega
          go_wp2_with (go_at_call 9; go_must (refine (hold6 (b1 := w.heap.size) (o1 := 0) (x1 := .int .i64 W) (b2 := w.heap.size) (o2 := 1) (x2 := .int .i64 H) (b3 := w.heap.size) (o3 := 2) (x3 := .slice a n c) (b4 := w.heap.size) (o4 := 4) (x4 := .slice (some ⟨b, off, none⟩) pn pc) (b5 := b) (o5 := off + k * 2) (x5 := .int .i64 px) (b6 := b) (o6 := off + k * 2 + 1) (x6 := .int .i64 py) (rgr_as false W H a n c w.heap.size xs _ ?_ ?_ ?_ EQB) eb ?_ d0 d1 d2 d4 p0 p1).mono ?_); (exact HBY.out _ (HTR.out _ eb)); (exact (HTR.out _ eb).size); (omega); (first | exact hsz_of eb | exact hsz_of eb.drew); clear d0 d1 d2 d4 p0 p1; rintro e w' ⟨rfl, d0, d1, d2, d4, p0, p1, eb'⟩; replace eb := eb')
          go_region_held3 (fun w' => w'.cell? ⟨w.heap.size, 0, none⟩ = some (.int .i64 W) ∧ w'.cell? ⟨w.heap.size, 1, none⟩ = some (.int .i64 H) ∧ w'.cell? ⟨w.heap.size, 2, none⟩ = some (.slice a n c) ∧ w'.cell? ⟨w.heap.size, 4, none⟩ = some (.slice (some ⟨b, off, none⟩) pn pc) ∧ w'.cell? ⟨b, off + k * 2, none⟩ = some (.int .i64 px) ∧ w'.cell? ⟨b, off + k * 2 + 1, none⟩ = some (.int .i64 py) ∧ Below (w.heap.size + 1) (w.alloc (.cells #[.int .i64 W, .int .i64 H, .slice a n c, .slice ta tn tc, .slice (some ⟨b, off, none⟩) pn pc] 28)) w') (first | exact ⟨ed0, ed1, ed2, ed4, ep0, ep1, eb⟩ | exact ⟨ed0, ed1, ed2, ed4, ep0, ep1, Below.drew eb⟩ | exact ⟨d0, d1, d2, d4, p0, p1, Below.drew eb⟩ | go_keep)
                  (first | (go_at_call 19; go_must (refine (hold6 (B := w.heap.size + 1) (w0 := w.alloc (.cells #[.int .i64 W, .int .i64 H, .slice a n c, .slice ta tn tc, .slice (some ⟨b, off, none⟩) pn pc] 28)) (b1 := w.heap.size) (o1 := 0) (x1 := .int .i64 W) (b2 := w.heap.size) (o2 := 1) (x2 := .int .i64 H) (b3 := w.heap.size) (o3 := 2) (x3 := .slice a n c) (b4 := w.heap.size) (o4 := 4) (x4 := .slice (some ⟨b, off, none⟩) pn pc) (b5 := b) (o5 := off + k * 2) (x5 := .int .i64 px) (b6 := b) (o6 := off + k * 2 + 1) (x6 := .int .i64 py) (of_form px py W H a n c w.heap.size xs _ ?_ ?_ ?_ HG.out) ?_ ?_ ?_ ?_ ?_ ?_ ?_ ?_ ).mono ?_); (exact HBY.out _ (HTR.out _ (by first | exact eb.drew | exact eb))); (exact (HTR.out _ (by first | exact eb.drew | exact eb)).size); (omega); (first | assumption | exact eb.drew); (first | exact hsz_of eb | exact hsz_of eb.drew); (first | assumption | exact ed0 | exact d0); (first | assumption | exact ed1 | exact d1); (first | assumption | exact ed2 | exact d2); (first | assumption | exact ed4 | exact d4); (first | assumption | exact ep0 | exact p0); (first | assumption | exact ep1 | exact p1); rintro e w' ⟨rfl, ed0, ed1, ed2, ed4, ep0, ep1, eb⟩))
          go_wp2_with (go_at_call 10; (with_reducible refine (num6_any _ _).mono ?_); rintro e w' ⟨rfl, rfl⟩)
          replace HB := Hk.mk eb
          refine ⟨⟨k + 1, by go_num, by omega, HB⟩, by simp [intOf]; omega⟩
        · have hkn : k = pn := by omega
          subst hkn
          obtain ⟨d0, d1, d2, d3, d4⟩ := HC.out _ HB.out
          go_wp2_with (go_at_call 17; (with_reducible refine (wakes6_any _ (HLL.out _ (HTR.out _ HB.out))).mono ?_); rintro e w3 ⟨rfl, hb3⟩; have HB3 := Hk.mk hb3; clear hb3)
          go_ret
          exact ⟨rfl, (HTR.out _ HB.out).trans (HB3.out.mono (HTR.out _ HB.out).size)⟩


theorem groundPlaces_own : ownKnob Tryd.prog.godebug = none := by kernel_rfl
theorem groundPlaces_laidOut : laidOutB Tryd.prog = true := by kernel_rfl
theorem groundPlaces_door (os : Os) (args : Array Value) : laidMetH Tryd.prog [("throng/tiles.offsets", Rows.laid_throng_tiles_offsets)] ((World.doorLaid Tryd.prog 400 os).forCall (fun _ _ => 0) ⟨#[], args, []⟩).memory :=
  laidMetH_of_parts3 (fuel := 8) (laidMet_of_run' 8 (by kernel_rfl) (by kernel_rfl)) (by kernel_rfl) (by kernel_rfl)
set_option maxRecDepth 100000 in
theorem groundPlaces_lifted (os : Os) (started : os.Started) (H : Type) (enc : TypeId × Value → H) :
    ReturnsInHanded {} Tryd.checked os 4 .any (fun w args => (Rows.groundPlacesSpec.pre enc Tryd.prog Tryd.f4 [] false w args ∧ laidMetH Tryd.prog [("throng/tiles.offsets", Rows.laid_throng_tiles_offsets)] w) ∧ sizedMet enc Tryd.prog Tryd.f4 (OpenSpec.ofChange Rows.groundPlacesSpec) false w args)
      (Rows.groundPlacesSpec.post enc Tryd.prog Tryd.f4 false true false false) := by
  refine returnsInHanded_of_change_and (C := Tryd.checked) (X := fun w _ => laidMetH Tryd.prog [("throng/tiles.offsets", Rows.laid_throng_tiles_offsets)] w) (fun _ _ _ hh h => h.of_heap hh) groundPlaces_own started (by kernel_rfl) Tryd.func4
    (ChangeSpec.witness_shaped (enc := enc) (C := Tryd.checked) (os := os) (X := fun w _ => laidMetH Tryd.prog [("throng/tiles.offsets", Rows.laid_throng_tiles_offsets)] w) false (World.doorLaid Tryd.prog 400 os) #[.agg #[.int .i64 0, .int .i64 0, .slice none 0 0, .slice none 0 0, .slice none 0 0]] 8 rfl (World.shaped_of_RefB (by kernel_rfl) (by kernel_rfl)) (by kernel_rfl) (by kernel_rfl) (by kernel_rfl) (groundPlaces_door os _)) ?_
  intro W base args ds gs before hval0 hW _ _ hL _
  have hval : ∀ (j : Nat) t v, Tryd.f4.params[j]? = some t → args[j]? = some v → Value.okWide Tryd.prog W .any base t v := hval0
  have hW' := hW
  obtain ⟨p, q, hA0, hV, rfl, hfz, hnd⟩ := hW
  have hA : DataW.TrodAll enc Tryd.prog W 0 (fun _ => true) true Tryd.f4.params.toList args.toList ds p := hA0
  rw [Tryd.params4] at hA hval
  obtain ⟨v0, vs0, d0, ds0, p0, q0, hargs, rfl, rfl, h0, r0⟩ := trodAll_cons hA
  obtain ⟨rfl, rfl, rfl⟩ := trodAll_nil r0
  obtain rfl : args = #[v0] := by cases args; simp_all
  obtain ⟨rfl, rfl⟩ := trodVars_none hV
  obtain ⟨cs0, rfl, hcs0⟩ := okWide_struct Tryd.underlying28 (hval 0 28 v0 rfl rfl)
  have k0 := h0
  have lt0 : ∀ x ∈ p0, x.block < W.heap.size := by obtain ⟨m, hm⟩ := k0; exact DataW.trod_lt m _ _ _ hm
  have rows : Asks6 W (.agg cs0) := by obtain ⟨fuel, hf⟩ := h0; exact asks6_of hcs0 hf
  clear hA0 hval0
  refine (groundPlaces_walk (.agg cs0) W (of_laidT hL) rows).mono fun e W' ⟨he, bel⟩ => ?_
  subst he
  exact ⟨_, rfl, _, _, _, [], _, [], hW', trodAll_mk1 (shut_bool Tryd.underlying4 _), (trodAll_cons_mk (Below.trod groundPlaces_laidOut (by kernel_rfl) (of_decide_eq_true (by kernel_rfl)) k0 bel lt0) trodAll_mk0), rfl, bel.frame _, fun h => by cases h⟩
theorem groundPlaces_over : Rows.GroundPlacesSaid :=
  OpenClaim.holds_of_wide 4 Tryd.f4 rfl rfl rfl rfl rfl rfl rfl ⟨rfl, rfl, rfl, rfl, rfl⟩ rfl rfl rfl rfl rfl (by kernel_rfl) Tryd.func4 (by kernel_rfl)
    (of_decide_eq_true (by kernel_rfl)) (by unfold Func.isWrapper; first | (rw [if_pos (by decide +kernel)]; kernel_rfl) | (rw [if_neg (by decide +kernel)]; exact ⟨rfl, rfl⟩))
    (fun os started H enc _ => groundPlaces_lifted os started H enc)
/-- The given card of GroundPlaces. -/
theorem groundPlaces_card : Rows.GroundPlacesCardSaid :=
  Claim7.holds_tied_plain_at .later [] [.data] true (true, "3c9e6f92a97c69175258d1789488d6137cac73239dd23350ef2bca0bd68cf65a") false
    groundPlaces_over (fun _ h => by cases h) (by kernel_rfl) (fun _ h => by cases h) groundPlaces_row_tie rfl ⟨rfl, rfl⟩ (by kernel_rfl) rfl
    (fun f fn hf hfn => by
      obtain rfl : f = 4 := Option.some.inj ((show Tryd.prog.funcNamed "throng/thronglaw6.GroundPlaces" = some 4 by kernel_rfl).symm.trans hf) |>.symm
      obtain rfl : fn = Tryd.f4 := (Option.some.inj (Tryd.func4.symm.trans hfn)).symm
      exact ⟨by kernel_rfl, fun j t ht => by
        rw [Tryd.params4] at ht
        have hm : t ∈ [28] := by simpa using Array.mem_of_getElem? ht
        have hall : ([28].all fun u => !Tryd.prog.wantsStandIn u) = true := by kernel_rfl
        exact (show Tryd.prog.wantsStandIn t = false by simpa using List.all_eq_true.1 hall t hm)⟩)
    (by kernel_rfl)
end Go.Proofs.YtmkehmeoglpkeaaDoor
