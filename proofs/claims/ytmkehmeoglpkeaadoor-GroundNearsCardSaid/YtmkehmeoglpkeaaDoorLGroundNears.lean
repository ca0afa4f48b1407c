/- For every argument, GroundNears answers true and leaves its argument as it was: which tiles stand beside any tile is the page's, or refused. No condition; the table of package tiles is tied to the program's text. -/
import Derived.Test.YtmkehmeoglpkeaaDoorGrl
import Derived.Deep.QuietTactic
import Derived.BigQuiet
import Derived.Deep.RegionWith
import Derived.Deep.RegionHeld3
import Derived.Test.YtmkehmeoglpkeaaDoorCards
import Derived.Test.YtmkehmeoglpkeaaDoorTie
import Derived.SevenTiedAt
import Derived.ProofKit
import Derived.LaidMore
import Derived.OpenShut
import Derived.Stop.Joined
namespace Go.Proofs.YtmkehmeoglpkeaaDoor
open Go.ChangeShapes Go.WideShapes Go.ChangeAt Go.RowKit Go.Deep
set_option linter.unusedVariables false
set_option maxRecDepth 100000 in
set_option maxHeartbeats 3200000 in
theorem groundNears_walk (v : Value) (w : World) (hL : LT w) (rows : Asks6 w v) :
    Calls Tryd.prog 5 #[v] w fun e w' => e = .returned (.bool true) ∧ Below w.heap.size w w' := by
  obtain ⟨W, H, a, n, c, xs, ta, tn, tc, ts, pa, pn, pc, f, g, rfl, hW, hH, hn, htn, hpn, hby, hnq, hvq⟩ := rows
  have HL := Hk.mk hL
  have HBY := Hk.mk (fun (X : World) (hX : Below w.heap.size w X) => hby.below hX (Nat.le_refl _))
  have HNQ := Hk.mk (fun (X : World) (hX : Below w.heap.size w X) => hnq.below hX (Nat.le_refl _))
  have HVQ := Hk.mk (fun (X : World) (hX : Below w.heap.size w X) => hvq.below hX (Nat.le_refl _))
  have HLL := Hk.mk (fun (X : World) (hX : Below w.heap.size w X) => hL.below hX (Nat.le_refl _))
  have hnl := hnq.len
  have HNL := Hk.mk hnl
  have HVN := Hk.mk hvq.num
  clear hby hnq hvq hL hnl
  have HWB : Hk (Below w.heap.size w (w.alloc (.cells #[.int .i64 W, .int .i64 H, .slice a n c, .slice ta tn tc, .slice pa pn pc] 28))) := ⟨(Below.refl _ _).alloc (Nat.le_refl _) _⟩
  have HC : Hk (∀ X, Below (w.heap.size + 1) (w.alloc (.cells #[.int .i64 W, .int .i64 H, .slice a n c, .slice ta tn tc, .slice pa pn pc] 28)) X → X.cell? ⟨w.heap.size, 0, none⟩ = some (.int .i64 W) ∧ X.cell? ⟨w.heap.size, 1, none⟩ = some (.int .i64 H) ∧ X.cell? ⟨w.heap.size, 2, none⟩ = some (.slice a n c) ∧ X.cell? ⟨w.heap.size, 3, none⟩ = some (.slice ta tn tc) ∧ X.cell? ⟨w.heap.size, 4, none⟩ = some (.slice pa pn pc)) :=
    ⟨fun X hX => ⟨(hX.cell (p := ⟨w.heap.size, 0, none⟩) (by simp)).trans (by go_simp), (hX.cell (p := ⟨w.heap.size, 1, none⟩) (by simp)).trans (by go_simp), (hX.cell (p := ⟨w.heap.size, 2, none⟩) (by simp)).trans (by go_simp), (hX.cell (p := ⟨w.heap.size, 3, none⟩) (by simp)).trans (by go_simp), (hX.cell (p := ⟨w.heap.size, 4, none⟩) (by simp)).trans (by go_simp)⟩⟩
  have HTR : Hk (∀ X, Below (w.heap.size + 1) (w.alloc (.cells #[.int .i64 W, .int .i64 H, .slice a n c, .slice ta tn tc, .slice pa pn pc] 28)) X → Below w.heap.size w X) := ⟨fun X hX => HWB.out.trans (hX.mono (by omega))⟩
  cases hhv : heavyB n tn pn
  case true =>
    have HV := Hk.mk hhv
    clear hhv
    go_enter Tryd.func5, Tryd.ntmps5
    go_wp2_with (go_at_call 8; (with_reducible refine (heavy6_as true W H a ta pa n c tn tc pn pc _ hn htn hpn HV).mono ?_); rintro e w1 ⟨rfl, hb1⟩; have HB1 := Hk.mk hb1; clear hb1)
    go_ret
    exact ⟨rfl, HWB.out.trans (HB1.out.mono (by simp))⟩
  case false =>
    have HV := Hk.mk hhv
    have hsm : n ≤ 20000 ∧ tn ≤ 60 ∧ pn ≤ 60 := by unfold heavyB at hhv; simp at hhv; omega
    obtain ⟨sm1, sm2, sm3⟩ := hsm
    clear hhv hn htn hpn
    go_enter Tryd.func5, Tryd.ntmps5
    go_wp2_with (go_at_call 8; (with_reducible refine (heavy6_as false W H a ta pa n c tn tc pn pc _ (by omega) (by omega) (by omega) HV).mono ?_); rintro e w1 ⟨rfl, hb1⟩; have HB1 : Hk (Below (w.heap.size + 1) (w.alloc (.cells #[.int .i64 W, .int .i64 H, .slice a n c, .slice ta tn tc, .slice pa pn pc] 28)) w1) := ⟨by simpa using hb1⟩; clear hb1)
    by_cases hg : GOk W H n xs
    · have EQB : Hk (gB W H n xs = true) := ⟨gB_yes hg⟩
      have HG := Hk.mk hg
      obtain ⟨w1', w2', h1', h2'⟩ : 1 ≤ W ∧ W ≤ 128 ∧ 1 ≤ H ∧ H ≤ 128 := ⟨hg.w1, hg.w2, hg.h1, hg.h2⟩
      obtain ⟨m1, m2⟩ := mul_bd w1' w2' h1' h2'
      clear hg
      go_loopw [3] (fun i wr => ∃ (k : Nat), i = .int .i64 k ∧ k ≤ tn ∧ Hk (Below (w.heap.size + 1) (w.alloc (.cells #[.int .i64 W, .int .i64 H, .slice a n c, .slice ta tn tc, .slice pa pn pc] 28)) wr)) (fun i _ => tn - (intOf i).toNat)
      case atStart => exact ⟨0, rfl, by omega, HB1⟩
      case round =>
        obtain ⟨k, rfl, hk, HB⟩ := hrel
        clear HB1
        by_cases hlt : k < tn
        · obtain ⟨t, ht⟩ : ∃ t, ts.getD k 0 = t := ⟨_, rfl⟩
          obtain ⟨b, off, rfl, hbl, hc⟩ := (HNQ.out _ (HTR.out _ HB.out)).rd (by omega)
          have p0 := hc k hlt
          rw [ht] at p0
          clear hc ht
          obtain ⟨d0, d1, d2, d3, d4⟩ := HC.out _ HB.out
          have eb := HB.out
          have j1 : (0 : Int) ≤ (k : Int) := by omega
          have j2 : (k : Int) < (tn : Int) := by omega
          by_cases hin : 0 ≤ t ∧ t < W * H
          · have HT : Hk (decide (0 ≤ t ∧ t < W * H) = true) := ⟨by simpa using hin⟩
            obtain ⟨t0, t1⟩ := hin
            go_wp2_with (go_at_call 9; go_must (refine (hold5 (B := w.heap.size + 1) (w0 := w.alloc (.cells #[.int .i64 W, .int .i64 H, .slice a n c, .slice (some ⟨b, off, none⟩) tn tc, .slice pa pn pc] 28)) (b1 := w.heap.size) (o1 := 0) (x1 := .int .i64 W) (b2 := w.heap.size) (o2 := 1) (x2 := .int .i64 H) (b3 := w.heap.size) (o3 := 2) (x3 := .slice a n c) (b4 := w.heap.size) (o4 := 3) (x4 := .slice (some ⟨b, off, none⟩) tn tc) (b5 := b) (o5 := off + k) (x5 := .int .i64 t) (rgr_as true W H a n c w.heap.size xs _ ?_ ?_ ?_ EQB) eb ?_ d0 d1 d2 d3 p0).mono ?_); (exact HBY.out _ (HTR.out _ eb)); (exact (HTR.out _ eb).size); (omega); (exact hsz_of eb); clear d0 d1 d2 d3 p0; rintro e w' ⟨rfl, d0, d1, d2, d3, p0, eb'⟩; replace eb := eb'; clear eb')
            go_region_held3 (fun w' => w'.cell? ⟨w.heap.size, 0, none⟩ = some (.int .i64 W) ∧ w'.cell? ⟨w.heap.size, 1, none⟩ = some (.int .i64 H) ∧ w'.cell? ⟨w.heap.size, 2, none⟩ = some (.slice a n c) ∧ w'.cell? ⟨w.heap.size, 3, none⟩ = some (.slice (some ⟨b, off, none⟩) tn tc) ∧ w'.cell? ⟨b, off + k, none⟩ = some (.int .i64 t) ∧ Below (w.heap.size + 1) (w.alloc (.cells #[.int .i64 W, .int .i64 H, .slice a n c, .slice (some ⟨b, off, none⟩) tn tc, .slice pa pn pc] 28)) w') (first | exact ⟨ed0, ed1, ed2, ed3, ep0, eb⟩ | exact ⟨ed0, ed1, ed2, ed3, ep0, Below.drew eb⟩ | exact ⟨d0, d1, d2, d3, p0, Below.drew eb⟩ | go_keep) (first | (go_at_call 12; go_must (refine (hold5 (B := w.heap.size + 1) (w0 := w.alloc (.cells #[.int .i64 W, .int .i64 H, .slice a n c, .slice (some ⟨b, off, none⟩) tn tc, .slice pa pn pc] 28)) (b1 := w.heap.size) (o1 := 0) (x1 := .int .i64 W) (b2 := w.heap.size) (o2 := 1) (x2 := .int .i64 H) (b3 := w.heap.size) (o3 := 2) (x3 := .slice a n c) (b4 := w.heap.size) (o4 := 3) (x4 := .slice (some ⟨b, off, none⟩) tn tc) (b5 := b) (o5 := off + k) (x5 := .int .i64 t) (rtile_as true t W H (.slice a n c) _ w1' w2' h1' h2' HT) ?_ ?_ ?_ ?_ ?_ ?_ ?_ ).mono ?_); (first | assumption | exact eb.drew); (first | exact hsz_of eb | exact hsz_of eb.drew); (first | assumption | exact ed0 | exact d0); (first | assumption | exact ed1 | exact d1); (first | assumption | exact ed2 | exact d2); (first | assumption | exact ed3 | exact d3); (first | assumption | exact ep0 | exact p0); rintro e w' ⟨rfl, ed0, ed1, ed2, ed3, ep0, eb⟩))
            go_wp2
            go_region_held3 (fun w' => w'.cell? ⟨w.heap.size, 0, none⟩ = some (.int .i64 W) ∧ w'.cell? ⟨w.heap.size, 1, none⟩ = some (.int .i64 H) ∧ w'.cell? ⟨w.heap.size, 2, none⟩ = some (.slice a n c) ∧ w'.cell? ⟨w.heap.size, 3, none⟩ = some (.slice (some ⟨b, off, none⟩) tn tc) ∧ w'.cell? ⟨b, off + k, none⟩ = some (.int .i64 t) ∧ Below (w.heap.size + 1) (w.alloc (.cells #[.int .i64 W, .int .i64 H, .slice a n c, .slice (some ⟨b, off, none⟩) tn tc, .slice pa pn pc] 28)) w') (first | exact ⟨ed0, ed1, ed2, ed3, ep0, eb⟩ | exact ⟨ed0, ed1, ed2, ed3, ep0, Below.drew eb⟩ | exact ⟨d0, d1, d2, d3, p0, Below.drew eb⟩ | go_keep) (first | (go_at_call 20; go_must (refine (holdQ5 (B := w.heap.size + 1) (w0 := w.alloc (.cells #[.int .i64 W, .int .i64 H, .slice a n c, .slice (some ⟨b, off, none⟩) tn tc, .slice pa pn pc] 28)) (b1 := w.heap.size) (o1 := 0) (x1 := .int .i64 W) (b2 := w.heap.size) (o2 := 1) (x2 := .int .i64 H) (b3 := w.heap.size) (o3 := 2) (x3 := .slice a n c) (b4 := w.heap.size) (o4 := 3) (x4 := .slice (some ⟨b, off, none⟩) tn tc) (b5 := b) (o5 := off + k) (x5 := .int .i64 t) (rnear_q W H t (.slice a n c) _ w1' w2' h1' h2' t0 (by omega)) (fun _ _ hq => rnearR_below hq) ?_ ?_ ?_ ?_ ?_ ?_ ?_ ).mono ?_); (first | assumption | exact eb.drew); (first | exact hsz_of eb | exact hsz_of eb.drew); (first | assumption | exact ed0 | exact d0); (first | assumption | exact ed1 | exact d1); (first | assumption | exact ed2 | exact d2); (first | assumption | exact ed3 | exact d3); (first | assumption | exact ep0 | exact p0); rintro e w' ⟨⟨g1, c1, rfl, hr1, -⟩, ed0, ed1, ed2, ed3, ep0, eb⟩))
            obtain ⟨W1, hW1⟩ : ∃ W1, W1 = w' := ⟨_, rfl⟩
            subst hW1
            have HR1 := Hk.mk hr1
            have EBX := eb
            clear hr1
            go_wp2
            go_region_held3 (fun w' => w'.cell? ⟨w.heap.size, 0, none⟩ = some (.int .i64 W) ∧ w'.cell? ⟨w.heap.size, 1, none⟩ = some (.int .i64 H) ∧ w'.cell? ⟨w.heap.size, 2, none⟩ = some (.slice a n c) ∧ w'.cell? ⟨w.heap.size, 3, none⟩ = some (.slice (some ⟨b, off, none⟩) tn tc) ∧ w'.cell? ⟨b, off + k, none⟩ = some (.int .i64 t) ∧ Below (w.heap.size + 1) (w.alloc (.cells #[.int .i64 W, .int .i64 H, .slice a n c, .slice (some ⟨b, off, none⟩) tn tc, .slice pa pn pc] 28)) w') (first | exact ⟨ed0, ed1, ed2, ed3, ep0, eb⟩ | exact ⟨ed0, ed1, ed2, ed3, ep0, Below.drew eb⟩ | exact ⟨d0, d1, d2, d3, p0, Below.drew eb⟩ | go_keep) (first | (go_at_call 21; go_must (refine (holdQ5 (B := w.heap.size + 1) (w0 := w.alloc (.cells #[.int .i64 W, .int .i64 H, .slice a n c, .slice (some ⟨b, off, none⟩) tn tc, .slice pa pn pc] 28)) (b1 := w.heap.size) (o1 := 0) (x1 := .int .i64 W) (b2 := w.heap.size) (o2 := 1) (x2 := .int .i64 H) (b3 := w.heap.size) (o3 := 2) (x3 := .slice a n c) (b4 := w.heap.size) (o4 := 3) (x4 := .slice (some ⟨b, off, none⟩) tn tc) (b5 := b) (o5 := off + k) (x5 := .int .i64 t) (near_yes t W H a n c w.heap.size xs _ ?_ ?_ ?_ ?_ HG.out t0 t1) (fun _ _ hq => nearR_below hq) ?_ ?_ ?_ ?_ ?_ ?_ ?_ ).mono ?_); (exact HBY.out _ (HTR.out _ (by first | exact eb.drew | exact eb))); (exact (HTR.out _ (by first | exact eb.drew | exact eb)).size); (omega); (exact HLL.out _ (HTR.out _ (by first | exact eb.drew | exact eb))); (first | assumption | exact eb.drew); (first | exact hsz_of eb | exact hsz_of eb.drew); (first | assumption | exact ed0 | exact d0); (first | assumption | exact ed1 | exact d1); (first | assumption | exact ed2 | exact d2); (first | assumption | exact ed3 | exact d3); (first | assumption | exact ep0 | exact p0); rintro e w' ⟨⟨g2, rfl, hg2, hg3, -, hcg, hfg, hb2⟩, ed0, ed1, ed2, ed3, ep0, eb⟩))
            have hz := hsz_of EBX
            have HR2 := Hk.mk ((nq_drew HR1.out).below hb2 (Nat.le_refl _))
            have HR3 : Hk (Nq w' (g2 + 1) (some ⟨g2, 0, none⟩) 8 (nbL W H t)) := ⟨rfl, fun _ => ⟨g2, 0, rfl, by omega, fun j hj => by rw [Nat.zero_add]; exact hcg j hj⟩⟩
            have hg4 : w.heap.size + 1 ≤ g2 := Nat.le_trans hz hg2
            have HA8 := Hk.mk (fun m => near_a8 (m := m) hcg hfg hg3 hg4 eb)
            have EB2 := Hk.mk eb
            clear hcg hfg hb2 ed0 ed1 ed2 ed3 ep0 d0 d1 d2 d3 d4 p0
            go_wp2_with (first | (go_at_call 10; (with_reducible refine (num6_any _ _).mono ?_); rintro e w' ⟨rfl, rfl⟩) | (go_at_call 22; go_must (refine (eqn_yes (some ⟨g2, 0, none⟩) (some ⟨g1, 0, none⟩) 8 8 c1 (g2 + 1) W1.heap.size (nbL W H t) _ HR3.out HR2.out (by omega)).mono ?_); rintro e w4 ⟨rfl, m4, rfl⟩) | (go_at_call 23; go_must (refine (numbers8 (w.heap.size + 1) g2 (w.alloc (.cells #[.int .i64 W, .int .i64 H, .slice a n c, .slice (some ⟨b, off, none⟩) tn tc, .slice pa pn pc] 28)) _ _ (HA8.out _) (by have := hsz_of EB2.out; simpa using this)).mono ?_); rintro e w5 ⟨rfl, eb5⟩))
            replace HB := Hk.mk eb5
            refine ⟨⟨k + 1, by go_num, by omega, HB⟩, by simp [intOf]; omega⟩
          · have HT : Hk (decide (0 ≤ t ∧ t < W * H) = false) := ⟨by simpa using hin⟩
            have EQ : Hk (ctE W H n xs t = 3) := ⟨ctE_none HG.out hin⟩
            clear hin
            go_wp2_with (go_at_call 9; go_must (refine (hold5 (B := w.heap.size + 1) (w0 := w.alloc (.cells #[.int .i64 W, .int .i64 H, .slice a n c, .slice (some ⟨b, off, none⟩) tn tc, .slice pa pn pc] 28)) (b1 := w.heap.size) (o1 := 0) (x1 := .int .i64 W) (b2 := w.heap.size) (o2 := 1) (x2 := .int .i64 H) (b3 := w.heap.size) (o3 := 2) (x3 := .slice a n c) (b4 := w.heap.size) (o4 := 3) (x4 := .slice (some ⟨b, off, none⟩) tn tc) (b5 := b) (o5 := off + k) (x5 := .int .i64 t) (rgr_as true W H a n c w.heap.size xs _ ?_ ?_ ?_ EQB) eb ?_ d0 d1 d2 d3 p0).mono ?_); (exact HBY.out _ (HTR.out _ eb)); (exact (HTR.out _ eb).size); (omega); (exact hsz_of eb); clear d0 d1 d2 d3 p0; rintro e w' ⟨rfl, d0, d1, d2, d3, p0, eb'⟩; replace eb := eb'; clear eb')
            go_region_held3 (fun w' => w'.cell? ⟨w.heap.size, 0, none⟩ = some (.int .i64 W) ∧ w'.cell? ⟨w.heap.size, 1, none⟩ = some (.int .i64 H) ∧ w'.cell? ⟨w.heap.size, 2, none⟩ = some (.slice a n c) ∧ w'.cell? ⟨w.heap.size, 3, none⟩ = some (.slice (some ⟨b, off, none⟩) tn tc) ∧ w'.cell? ⟨b, off + k, none⟩ = some (.int .i64 t) ∧ Below (w.heap.size + 1) (w.alloc (.cells #[.int .i64 W, .int .i64 H, .slice a n c, .slice (some ⟨b, off, none⟩) tn tc, .slice pa pn pc] 28)) w') (first | exact ⟨ed0, ed1, ed2, ed3, ep0, eb⟩ | exact ⟨ed0, ed1, ed2, ed3, ep0, Below.drew eb⟩ | exact ⟨d0, d1, d2, d3, p0, Below.drew eb⟩ | go_keep) (first | (go_at_call 12; go_must (refine (hold5 (B := w.heap.size + 1) (w0 := w.alloc (.cells #[.int .i64 W, .int .i64 H, .slice a n c, .slice (some ⟨b, off, none⟩) tn tc, .slice pa pn pc] 28)) (b1 := w.heap.size) (o1 := 0) (x1 := .int .i64 W) (b2 := w.heap.size) (o2 := 1) (x2 := .int .i64 H) (b3 := w.heap.size) (o3 := 2) (x3 := .slice a n c) (b4 := w.heap.size) (o4 := 3) (x4 := .slice (some ⟨b, off, none⟩) tn tc) (b5 := b) (o5 := off + k) (x5 := .int .i64 t) (rtile_as false t W H (.slice a n c) _ w1' w2' h1' h2' HT) ?_ ?_ ?_ ?_ ?_ ?_ ?_ ).mono ?_); (first | assumption | exact eb.drew); (first | exact hsz_of eb | exact hsz_of eb.drew); (first | assumption | exact ed0 | exact d0); (first | assumption | exact ed1 | exact d1); (first | assumption | exact ed2 | exact d2); (first | assumption | exact ed3 | exact d3); (first | assumption | exact ep0 | exact p0); rintro e w' ⟨rfl, ed0, ed1, ed2, ed3, ep0, eb⟩))
            go_wp2
            go_region_held3 (fun w' => w'.cell? ⟨w.heap.size, 0, none⟩ = some (.int .i64 W) ∧ w'.cell? ⟨w.heap.size, 1, none⟩ = some (.int .i64 H) ∧ w'.cell? ⟨w.heap.size, 2, none⟩ = some (.slice a n c) ∧ w'.cell? ⟨w.heap.size, 3, none⟩ = some (.slice (some ⟨b, off, none⟩) tn tc) ∧ w'.cell? ⟨b, off + k, none⟩ = some (.int .i64 t) ∧ Below (w.heap.size + 1) (w.alloc (.cells #[.int .i64 W, .int .i64 H, .slice a n c, .slice (some ⟨b, off, none⟩) tn tc, .slice pa pn pc] 28)) w') (first | exact ⟨ed0, ed1, ed2, ed3, ep0, eb⟩ | exact ⟨ed0, ed1, ed2, ed3, ep0, Below.drew eb⟩ | exact ⟨d0, d1, d2, d3, p0, Below.drew eb⟩ | go_keep) (first | (go_at_call 21; go_must (refine (hold5 (B := w.heap.size + 1) (w0 := w.alloc (.cells #[.int .i64 W, .int .i64 H, .slice a n c, .slice (some ⟨b, off, none⟩) tn tc, .slice pa pn pc] 28)) (b1 := w.heap.size) (o1 := 0) (x1 := .int .i64 W) (b2 := w.heap.size) (o2 := 1) (x2 := .int .i64 H) (b3 := w.heap.size) (o3 := 2) (x3 := .slice a n c) (b4 := w.heap.size) (o4 := 3) (x4 := .slice (some ⟨b, off, none⟩) tn tc) (b5 := b) (o5 := off + k) (x5 := .int .i64 t) (near_bad 3 t W H a n c w.heap.size xs _ ?_ ?_ ?_ EQ (by decide)) ?_ ?_ ?_ ?_ ?_ ?_ ?_ ).mono ?_); (exact HBY.out _ (HTR.out _ (by first | exact eb.drew | exact eb))); (exact (HTR.out _ (by first | exact eb.drew | exact eb)).size); (omega); (first | assumption | exact eb.drew); (first | exact hsz_of eb | exact hsz_of eb.drew); (first | assumption | exact ed0 | exact d0); (first | assumption | exact ed1 | exact d1); (first | assumption | exact ed2 | exact d2); (first | assumption | exact ed3 | exact d3); (first | assumption | exact ep0 | exact p0); rintro e w' ⟨rfl, ed0, ed1, ed2, ed3, ep0, eb⟩))
            have EB2 := Hk.mk eb
            have hzz := hsz_of eb
            clear d0 d1 d2 d3 d4 p0
            go_wp2_with (first | (go_at_call 10; (with_reducible refine (num6_any _ _).mono ?_); rintro e w' ⟨rfl, rfl⟩) | (go_at_call 22; go_must (refine (eqn_yes none none 0 0 0 0 0 [] _ (Nq.nil _ _ _) (Nq.nil _ _ _) (by omega)).mono ?_); rintro e w4 ⟨rfl, m4, rfl⟩) | (go_at_call 23; go_must (refine (numbers0 (w.heap.size + 1) (w.alloc (.cells #[.int .i64 W, .int .i64 H, .slice a n c, .slice (some ⟨b, off, none⟩) tn tc, .slice pa pn pc] 28)) _ (below_drewN EB2.out _) ?_).mono ?_); (exact hzz); rintro e w5 ⟨rfl, eb5⟩))
            replace HB := Hk.mk eb5
            refine ⟨⟨k + 1, by go_num, by omega, HB⟩, by simp [intOf]; omega⟩
        · have hkn : k = tn := by omega
          subst hkn
          obtain ⟨d0, d1, d2, d3, d4⟩ := HC.out _ HB.out
          go_wp2_with (go_at_call 17; (with_reducible refine (wakes6_any _ (HLL.out _ (HTR.out _ HB.out))).mono ?_); rintro e w3 ⟨rfl, hb3⟩; have HB3 := Hk.mk hb3; clear hb3)
          go_ret
          exact ⟨rfl, (HTR.out _ HB.out).trans (HB3.out.mono (HTR.out _ HB.out).size)⟩
    · have EQB : Hk (gB W H n xs = false) := ⟨gB_no hg⟩
      have HG := Hk.mk hg
      clear hg
      go_loopw [3] (fun i wr => ∃ (k : Nat), i = .int .i64 k ∧ k ≤ tn ∧ Hk (Below (w.heap.size + 1) (w.alloc (.cells #[.int .i64 W, .int .i64 H, .slice a n c, .slice ta tn tc, .slice pa pn pc] 28)) wr)) (fun i _ => tn - (intOf i).toNat)
      case atStart => exact ⟨0, rfl, by omega, HB1⟩
      case round =>
        obtain ⟨k, rfl, hk, HB⟩ := hrel
        clear HB1
        by_cases hlt : k < tn
        · obtain ⟨t, ht⟩ : ∃ t, ts.getD k 0 = t := ⟨_, rfl⟩
          obtain ⟨b, off, rfl, hbl, hc⟩ := (HNQ.out _ (HTR.out _ HB.out)).rd (by omega)
          have p0 := hc k hlt
          rw [ht] at p0
          clear hc ht
          obtain ⟨d0, d1, d2, d3, d4⟩ := HC.out _ HB.out
          have eb := HB.out
          have j1 : (0 : Int) ≤ (k : Int) := by omega
          have j2 : (k : Int) < (tn : Int) := by omega
          have EQ : Hk (ctE W H n xs t = 1) := ⟨ctE_form HG.out⟩
          go_wp2_with (go_at_call 9; go_must (refine (hold5 (B := w.heap.size + 1) (w0 := w.alloc (.cells #[.int .i64 W, .int .i64 H, .slice a n c, .slice (some ⟨b, off, none⟩) tn tc, .slice pa pn pc] 28)) (b1 := w.heap.size) (o1 := 0) (x1 := .int .i64 W) (b2 := w.heap.size) (o2 := 1) (x2 := .int .i64 H) (b3 := w.heap.size) (o3 := 2) (x3 := .slice a n c) (b4 := w.heap.size) (o4 := 3) (x4 := .slice (some ⟨b, off, none⟩) tn tc) (b5 := b) (o5 := off + k) (x5 := .int .i64 t) (rgr_as false W H a n c w.heap.size xs _ ?_ ?_ ?_ EQB) eb ?_ d0 d1 d2 d3 p0).mono ?_); (exact HBY.out _ (HTR.out _ eb)); (exact (HTR.out _ eb).size); (omega); (exact hsz_of eb); clear d0 d1 d2 d3 p0; rintro e w' ⟨rfl, d0, d1, d2, d3, p0, eb'⟩; replace eb := eb'; clear eb')
          go_region_held3 (fun w' => w'.cell? ⟨w.heap.size, 0, none⟩ = some (.int .i64 W) ∧ w'.cell? ⟨w.heap.size, 1, none⟩ = some (.int .i64 H) ∧ w'.cell? ⟨w.heap.size, 2, none⟩ = some (.slice a n c) ∧ w'.cell? ⟨w.heap.size, 3, none⟩ = some (.slice (some ⟨b, off, none⟩) tn tc) ∧ w'.cell? ⟨b, off + k, none⟩ = some (.int .i64 t) ∧ Below (w.heap.size + 1) (w.alloc (.cells #[.int .i64 W, .int .i64 H, .slice a n c, .slice (some ⟨b, off, none⟩) tn tc, .slice pa pn pc] 28)) w') (first | exact ⟨ed0, ed1, ed2, ed3, ep0, eb⟩ | exact ⟨ed0, ed1, ed2, ed3, ep0, Below.drew eb⟩ | exact ⟨d0, d1, d2, d3, p0, Below.drew eb⟩ | go_keep) (first | (go_at_call 21; go_must (refine (hold5 (B := w.heap.size + 1) (w0 := w.alloc (.cells #[.int .i64 W, .int .i64 H, .slice a n c, .slice (some ⟨b, off, none⟩) tn tc, .slice pa pn pc] 28)) (b1 := w.heap.size) (o1 := 0) (x1 := .int .i64 W) (b2 := w.heap.size) (o2 := 1) (x2 := .int .i64 H) (b3 := w.heap.size) (o3 := 2) (x3 := .slice a n c) (b4 := w.heap.size) (o4 := 3) (x4 := .slice (some ⟨b, off, none⟩) tn tc) (b5 := b) (o5 := off + k) (x5 := .int .i64 t) (near_bad 1 t W H a n c w.heap.size xs _ ?_ ?_ ?_ EQ (by decide)) ?_ ?_ ?_ ?_ ?_ ?_ ?_ ).mono ?_); (exact HBY.out _ (HTR.out _ (by first | exact eb.drew | exact eb))); (exact (HTR.out _ (by first | exact eb.drew | exact eb)).size); (omega); (first | assumption | exact eb.drew); (first | exact hsz_of eb | exact hsz_of eb.drew); (first | assumption | exact ed0 | exact d0); (first | assumption | exact ed1 | exact d1); (first | assumption | exact ed2 | exact d2); (first | assumption | exact ed3 | exact d3); (first | assumption | exact ep0 | exact p0); rintro e w' ⟨rfl, ed0, ed1, ed2, ed3, ep0, eb⟩))
          have EB2 := Hk.mk eb
          have hzz := hsz_of eb
          clear d0 d1 d2 d3 d4 p0
          go_wp2_with (first | (go_at_call 10; (with_reducible refine (num6_any _ _).mono ?_); rintro e w' ⟨rfl, rfl⟩) | (go_at_call 22; go_must (refine (eqn_yes none none 0 0 0 0 0 [] _ (Nq.nil _ _ _) (Nq.nil _ _ _) (by omega)).mono ?_); rintro e w4 ⟨rfl, m4, rfl⟩) | (go_at_call 23; go_must (refine (numbers0 (w.heap.size + 1) (w.alloc (.cells #[.int .i64 W, .int .i64 H, .slice a n c, .slice (some ⟨b, off, none⟩) tn tc, .slice pa pn pc] 28)) _ (below_drewN EB2.out _) ?_).mono ?_); (exact hzz); rintro e w5 ⟨rfl, eb5⟩))
          replace HB := Hk.mk eb5
          refine ⟨⟨k + 1, by go_num, by omega, HB⟩, by simp [intOf]; omega⟩
        · have hkn : k = tn := by omega
          subst hkn
          obtain ⟨d0, d1, d2, d3, d4⟩ := HC.out _ HB.out
          go_wp2_with (go_at_call 17; (with_reducible refine (wakes6_any _ (HLL.out _ (HTR.out _ HB.out))).mono ?_); rintro e w3 ⟨rfl, hb3⟩; have HB3 := Hk.mk hb3; clear hb3)
          go_ret
          exact ⟨rfl, (HTR.out _ HB.out).trans (HB3.out.mono (HTR.out _ HB.out).size)⟩


theorem groundNears_own : ownKnob Tryd.prog.godebug = none := by kernel_rfl
theorem groundNears_laidOut : laidOutB Tryd.prog = true := by kernel_rfl
theorem groundNears_door (os : Os) (args : Array Value) : laidMetH Tryd.prog [("throng/tiles.offsets", Rows.laid_throng_tiles_offsets)] ((World.doorLaid Tryd.prog 400 os).forCall (fun _ _ => 0) ⟨#[], args, []⟩).memory :=
  laidMetH_of_parts3 (fuel := 8) (laidMet_of_run' 8 (by kernel_rfl) (by kernel_rfl)) (by kernel_rfl) (by kernel_rfl)
set_option maxRecDepth 100000 in
theorem groundNears_lifted (os : Os) (started : os.Started) (H : Type) (enc : TypeId × Value → H) :
    ReturnsInHanded {} Tryd.checked os 5 .any (fun w args => (Rows.groundNearsSpec.pre enc Tryd.prog Tryd.f5 [] false w args ∧ laidMetH Tryd.prog [("throng/tiles.offsets", Rows.laid_throng_tiles_offsets)] w) ∧ sizedMet enc Tryd.prog Tryd.f5 (OpenSpec.ofChange Rows.groundNearsSpec) false w args)
      (Rows.groundNearsSpec.post enc Tryd.prog Tryd.f5 false true false false) := by
  refine returnsInHanded_of_change_and (C := Tryd.checked) (X := fun w _ => laidMetH Tryd.prog [("throng/tiles.offsets", Rows.laid_throng_tiles_offsets)] w) (fun _ _ _ hh h => h.of_heap hh) groundNears_own started (by kernel_rfl) Tryd.func5
    (ChangeSpec.witness_shaped (enc := enc) (C := Tryd.checked) (os := os) (X := fun w _ => laidMetH Tryd.prog [("throng/tiles.offsets", Rows.laid_throng_tiles_offsets)] w) false (World.doorLaid Tryd.prog 400 os) #[.agg #[.int .i64 0, .int .i64 0, .slice none 0 0, .slice none 0 0, .slice none 0 0]] 8 rfl (World.shaped_of_RefB (by kernel_rfl) (by kernel_rfl)) (by kernel_rfl) (by kernel_rfl) (by kernel_rfl) (groundNears_door os _)) ?_
  intro W base args ds gs before hval0 hW _ _ hL _
  have hval : ∀ (j : Nat) t v, Tryd.f5.params[j]? = some t → args[j]? = some v → Value.okWide Tryd.prog W .any base t v := hval0
  have hW' := hW
  obtain ⟨p, q, hA0, hV, rfl, hfz, hnd⟩ := hW
  have hA : DataW.TrodAll enc Tryd.prog W 0 (fun _ => true) true Tryd.f5.params.toList args.toList ds p := hA0
  rw [Tryd.params5] at hA hval
  obtain ⟨v0, vs0, d0, ds0, p0, q0, hargs, rfl, rfl, h0, r0⟩ := trodAll_cons hA
  obtain ⟨rfl, rfl, rfl⟩ := trodAll_nil r0
  obtain rfl : args = #[v0] := by cases args; simp_all
  obtain ⟨rfl, rfl⟩ := trodVars_none hV
  obtain ⟨cs0, rfl, hcs0⟩ := okWide_struct Tryd.underlying28 (hval 0 28 v0 rfl rfl)
  have k0 := h0
  have lt0 : ∀ x ∈ p0, x.block < W.heap.size := by obtain ⟨m, hm⟩ := k0; exact DataW.trod_lt m _ _ _ hm
  have rows : Asks6 W (.agg cs0) := by obtain ⟨fuel, hf⟩ := h0; exact asks6_of hcs0 hf
  clear hA0 hval0
  refine (groundNears_walk (.agg cs0) W (of_laidT hL) rows).mono fun e W' ⟨he, bel⟩ => ?_
  subst he
  exact ⟨_, rfl, _, _, _, [], _, [], hW', trodAll_mk1 (shut_bool Tryd.underlying4 _), (trodAll_cons_mk (Below.trod groundNears_laidOut (by kernel_rfl) (of_decide_eq_true (by kernel_rfl)) k0 bel lt0) trodAll_mk0), rfl, bel.frame _, fun h => by cases h⟩
theorem groundNears_over : Rows.GroundNearsSaid :=
  OpenClaim.holds_of_wide 5 Tryd.f5 rfl rfl rfl rfl rfl rfl rfl ⟨rfl, rfl, rfl, rfl, rfl⟩ rfl rfl rfl rfl rfl (by kernel_rfl) Tryd.func5 (by kernel_rfl)
    (of_decide_eq_true (by kernel_rfl)) (by unfold Func.isWrapper; first | (rw [if_pos (by decide +kernel)]; kernel_rfl) | (rw [if_neg (by decide +kernel)]; exact ⟨rfl, rfl⟩))
    (fun os started H enc _ => groundNears_lifted os started H enc)
/-- The given card of GroundNears. -/
theorem groundNears_card : Rows.GroundNearsCardSaid :=
  Claim7.holds_tied_plain_at .later [] [.data] true (true, "3c9e6f92a97c69175258d1789488d6137cac73239dd23350ef2bca0bd68cf65a") false
    groundNears_over (fun _ h => by cases h) (by kernel_rfl) (fun _ h => by cases h) groundNears_row_tie rfl ⟨rfl, rfl⟩ (by kernel_rfl) rfl
    (fun f fn hf hfn => by
      obtain rfl : f = 5 := Option.some.inj ((show Tryd.prog.funcNamed "throng/thronglaw6.GroundNears" = some 5 by kernel_rfl).symm.trans hf) |>.symm
      obtain rfl : fn = Tryd.f5 := (Option.some.inj (Tryd.func5.symm.trans hfn)).symm
      exact ⟨by kernel_rfl, fun j t ht => by
        rw [Tryd.params5] at ht
        have hm : t ∈ [28] := by simpa using Array.mem_of_getElem? ht
        have hall : ([28].all fun u => !Tryd.prog.wantsStandIn u) = true := by kernel_rfl
        exact (show Tryd.prog.wantsStandIn t = false by simpa using List.all_eq_true.1 hall t hm)⟩)
    (by kernel_rfl)
end Go.Proofs.YtmkehmeoglpkeaaDoor
