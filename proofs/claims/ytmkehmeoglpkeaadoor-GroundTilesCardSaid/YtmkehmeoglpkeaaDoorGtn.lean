/- Layer 6: GroundTiles where the ground may not be. -/
import Derived.Test.YtmkehmeoglpkeaaDoorGtl
import Derived.Deep.QuietTactic
import Derived.BigQuiet
import Derived.Deep.RegionWith
import Derived.Deep.RegionHeld3
import Derived.Deep.DeepCutAuto
import Derived.Deep.DeepFit
namespace Go.Proofs.YtmkehmeoglpkeaaDoor
open Go.ChangeShapes Go.WideShapes Go.ChangeAt Go.RowKit Go.Deep
set_option linter.unusedVariables false
set_option maxRecDepth 100000 in
set_option maxHeartbeats 6400000 in
theorem groundTiles_no (W H : Int) (a : Option Addr) (n c : Nat) (xs : List Int) (ta : Option Addr) (tn tc : Nat) (ts : List Int) (pa : Option Addr) (pn pc : Nat) (w : World) (hL : LT w) (hby : By w w.heap.size a n xs) (hnq : Nq w w.heap.size ta tn ts) (sm1 : n ≤ 20000) (sm2 : tn ≤ 60) (sm3 : pn ≤ 60) (HV : Hk (heavyB n tn pn = false)) (HG : Hk (¬ GOk W H n xs)) :
    Calls Tryd.prog 3 #[.agg #[.int .i64 W, .int .i64 H, .slice a n c, .slice ta tn tc, .slice pa pn pc]] w fun e w' => e = .returned (.bool true) ∧ Below w.heap.size w w' := by
  have HWB : Hk (Below w.heap.size w (w.alloc (.cells #[.int .i64 W, .int .i64 H, .slice a n c, .slice ta tn tc, .slice pa pn pc] 28))) := ⟨(Below.refl _ _).alloc (Nat.le_refl _) _⟩
  have HTR : Hk (∀ X, Below (w.heap.size + 1) (w.alloc (.cells #[.int .i64 W, .int .i64 H, .slice a n c, .slice ta tn tc, .slice pa pn pc] 28)) X → Below w.heap.size w X) := ⟨fun X hX => HWB.out.trans (hX.mono (by omega))⟩
  have HBY := Hk.mk (fun (X : World) (hX : Below (w.heap.size + 1) (w.alloc (.cells #[.int .i64 W, .int .i64 H, .slice a n c, .slice ta tn tc, .slice pa pn pc] 28)) X) => hby.below (HTR.out X hX) (Nat.le_refl _))
  have HNQ := Hk.mk (fun (X : World) (hX : Below (w.heap.size + 1) (w.alloc (.cells #[.int .i64 W, .int .i64 H, .slice a n c, .slice ta tn tc, .slice pa pn pc] 28)) X) => hnq.below (HTR.out X hX) (Nat.le_refl _))
  have HLL := Hk.mk (fun (X : World) (hX : Below (w.heap.size + 1) (w.alloc (.cells #[.int .i64 W, .int .i64 H, .slice a n c, .slice ta tn tc, .slice pa pn pc] 28)) X) => hL.below (HTR.out X hX) (Nat.le_refl _))
  have HC : Hk (∀ X, Below (w.heap.size + 1) (w.alloc (.cells #[.int .i64 W, .int .i64 H, .slice a n c, .slice ta tn tc, .slice pa pn pc] 28)) X → X.cell? ⟨w.heap.size, 0, none⟩ = some (.int .i64 W) ∧ X.cell? ⟨w.heap.size, 1, none⟩ = some (.int .i64 H) ∧ X.cell? ⟨w.heap.size, 2, none⟩ = some (.slice a n c) ∧ X.cell? ⟨w.heap.size, 3, none⟩ = some (.slice ta tn tc) ∧ X.cell? ⟨w.heap.size, 4, none⟩ = some (.slice pa pn pc)) :=
    ⟨fun X hX => ⟨(hX.cell (p := ⟨w.heap.size, 0, none⟩) (by simp)).trans (by go_simp), (hX.cell (p := ⟨w.heap.size, 1, none⟩) (by simp)).trans (by go_simp), (hX.cell (p := ⟨w.heap.size, 2, none⟩) (by simp)).trans (by go_simp), (hX.cell (p := ⟨w.heap.size, 3, none⟩) (by simp)).trans (by go_simp), (hX.cell (p := ⟨w.heap.size, 4, none⟩) (by simp)).trans (by go_simp)⟩⟩
  have HB : Hk (Below (w.heap.size + 1) (w.alloc (.cells #[.int .i64 W, .int .i64 H, .slice a n c, .slice ta tn tc, .slice pa pn pc] 28)) (w.alloc (.cells #[.int .i64 W, .int .i64 H, .slice a n c, .slice ta tn tc, .slice pa pn pc] 28))) := ⟨Below.refl _ _⟩
  clear hby hnq hL
  have EQB : Hk (gB W H n xs = false) := ⟨gB_no HG.out⟩
  have EQC : Hk (gE W H n xs = 1) := ⟨gE_no HG.out⟩
  obtain ⟨d0, d1, d2, d3, d4⟩ := HC.out _ HB.out
  go_enter Tryd.func3, Tryd.ntmps3
  go_wp2_with (first | (go_at_call 8; (with_reducible refine (heavy6_as false W H a ta pa n c tn tc pn pc _ (by omega) (by omega) (by omega) HV).mono ?_); rintro e w1 ⟨rfl, hb⟩; have HB1 := Hk.mk (HB.out.trans (hb.mono (hsz_of HB.out))); clear hb; clear d0 d1 d2 d3 d4; obtain ⟨d0, d1, d2, d3, d4⟩ := HC.out _ HB1.out) | (go_at_call 10; (with_reducible refine (num6_any _ _).mono ?_); rintro e w' ⟨rfl, rfl⟩) | (go_at_call 9; (with_reducible refine (rgr_as false W H a n c w.heap.size xs _ ?_ ?_ ?_ EQB).mono ?_); (exact HBY.out _ HB1.out); (exact hsz_le HB1.out); (omega); rintro e w2 ⟨rfl, hb⟩; have HB2 := Hk.mk (HB1.out.trans (hb.mono (hsz_of HB1.out))); clear hb; clear d0 d1 d2 d3 d4; obtain ⟨d0, d1, d2, d3, d4⟩ := HC.out _ HB2.out) | (go_at_call 11; (with_reducible refine (check_as 1 W H a n c w.heap.size xs _ ?_ ?_ ?_ EQC).mono ?_); (exact HBY.out _ HB2.out); (exact hsz_le HB2.out); (omega); rintro e w3 ⟨rfl, hb⟩; have HB3 := Hk.mk (HB2.out.trans (hb.mono (hsz_of HB2.out))); clear hb; clear d0 d1 d2 d3 d4; obtain ⟨d0, d1, d2, d3, d4⟩ := HC.out _ HB3.out))
  clear EQB EQC HB HB1 HB2 d0 d1 d2 d3 d4
  go_loopw [4] (fun i wr => ∃ (k : Nat), i = .int .i64 k ∧ k ≤ tn ∧ Hk (Below (w.heap.size + 1) (w.alloc (.cells #[.int .i64 W, .int .i64 H, .slice a n c, .slice ta tn tc, .slice pa pn pc] 28)) wr)) (fun i _ => tn - (intOf i).toNat)
  case atStart => exact ⟨0, rfl, by omega, HB3⟩
  case round =>
    clear HB3
    obtain ⟨k, rfl, hk, HB⟩ := hrel
    obtain ⟨d0, d1, d2, d3, d4⟩ := HC.out _ HB.out
    by_cases hlt : k < tn
    · obtain ⟨b, off, rfl, hbl, hc⟩ := (HNQ.out _ HB.out).rd (by omega)
      obtain ⟨t, ht⟩ : ∃ t, ts.getD k 0 = t := ⟨_, rfl⟩
      have p0 := hc k hlt
      rw [ht] at p0
      clear hc ht
      have j1 : (0 : Int) ≤ (k : Int) := by omega
      have j2 : (k : Int) < (tn : Int) := by omega
      have hNb : w.heap.size + 1 ≤ wr.heap.size := hsz_of HB.out
      have hNe : ¬ wr.heap.size = w.heap.size := by omega
      have hNe' : ¬ w.heap.size = wr.heap.size := by omega
      have hNl : w.heap.size < wr.heap.size := by omega
      have HBa : Hk (Below (w.heap.size + 1) (w.alloc (.cells #[.int .i64 W, .int .i64 H, .slice a n c, .slice (some ⟨b, off, none⟩) tn tc, .slice pa pn pc] 28)) (wr.alloc (.cells #[.int .i64 0, .int .i64 0] 35))) := ⟨HB.out.alloc hNb _⟩
      have HA : Hk (∀ X, Below ((wr.alloc (.cells #[.int .i64 0, .int .i64 0] 35))).heap.size (wr.alloc (.cells #[.int .i64 0, .int .i64 0] 35)) X → X.cell? ⟨wr.heap.size, 0, none⟩ = some (.int .i64 0) ∧ X.cell? ⟨wr.heap.size, 1, none⟩ = some (.int .i64 0) ∧ X.frozen? ⟨wr.heap.size, 0, none⟩ = false ∧ X.frozen? ⟨wr.heap.size, 1, none⟩ = false ∧ wr.heap.size < X.heap.size) := ⟨fun X hX => ⟨(hX.cell (p := ⟨wr.heap.size, 0, none⟩) (by simp)).trans (by go_simp), (hX.cell (p := ⟨wr.heap.size, 1, none⟩) (by simp)).trans (by go_simp), (hX.frozen (p := ⟨wr.heap.size, 0, none⟩) (by simp)).trans (by go_simp), (hX.frozen (p := ⟨wr.heap.size, 1, none⟩) (by simp)).trans (by go_simp), by have h9 := hX.size; simp at h9; omega⟩⟩
      obtain ⟨e0, e1, e2, e3, e4⟩ := HC.out _ HBa.out
      have EQ : Hk (ctE W H n xs t = 1) := ⟨ctE_form HG.out⟩
      go_wp2_with (first | (go_at_call 10; (with_reducible refine (num6_any _ _).mono ?_); rintro e w' ⟨rfl, rfl⟩) | (go_at_call 14; (with_reducible refine (xy_bad 1 t W H a n c w.heap.size xs _ ?_ ?_ ?_ EQ (by decide)).mono ?_); (exact HBY.out _ HBa.out); (exact hsz_le HBa.out); (omega); rintro e w5 ⟨rfl, hb⟩; have HB5 := Hk.mk (HBa.out.trans (hb.mono (hsz_of HBa.out))); have HH5 := Hk.mk hb; clear hb; clear d0 d1 d2 d3 d4; obtain ⟨d0, d1, d2, d3, d4⟩ := HC.out _ HB5.out) | (go_at_call 15; (with_reducible refine (center_bad 1 t W H a n c w.heap.size xs _ ?_ ?_ ?_ EQ (by decide)).mono ?_); (exact HBY.out _ HB5.out); (exact hsz_le HB5.out); (omega); rintro e w6 ⟨rfl, hb⟩; have HB6 := Hk.mk (HB5.out.trans (hb.mono (hsz_of HB5.out))); have HH6 := Hk.mk (HH5.out.trans (hb.mono HH5.out.size)); obtain ⟨x0, x1, -, -, -⟩ := HA.out _ (HH6.out.alloc HH6.out.size (.cells #[.int .i64 0, .int .i64 0] 35)); obtain ⟨-, -, -, -, hs6⟩ := HA.out _ HH6.out; have hn6 : ¬ wr.heap.size = w6.heap.size := (by omega); have hn7 : ¬ w6.heap.size = wr.heap.size := (by omega); clear hb; clear d0 d1 d2 d3 d4; obtain ⟨d0, d1, d2, d3, d4⟩ := HC.out _ HB6.out))
      have HB7 : Hk (Below (w.heap.size + 1) (w.alloc (.cells #[.int .i64 W, .int .i64 H, .slice a n c, .slice (some ⟨b, off, none⟩) tn tc, .slice pa pn pc] 28)) (w6.alloc (.cells #[.int .i64 0, .int .i64 0] 35))) := ⟨HB6.out.alloc (hsz_of HB6.out) _⟩
      clear HH5 HH6 HB5 HB6 x0 x1 hs6 hn6 hn7 d0 d1 d2 d3 d4 e0 e1 e2 e3 e4 p0 j1 j2
      obtain ⟨wo, rfl⟩ : ∃ wo : World, wo = wr := ⟨wr, rfl⟩
      go_loopw [15] (fun i wr => ∃ (j : Nat), i = .int .i64 j ∧ j ≤ tn ∧ Hk (Below (w.heap.size + 1) (w.alloc (.cells #[.int .i64 W, .int .i64 H, .slice a n c, .slice (some ⟨b, off, none⟩) tn tc, .slice pa pn pc] 28)) wr)) (fun i _ => tn - (intOf i).toNat)
      case atStart => exact ⟨0, rfl, by omega, HB7⟩
      case round =>
        clear HB7
        obtain ⟨j, rfl, hj, HBi⟩ := hrel
        obtain ⟨d0, d1, d2, d3, d4⟩ := HC.out _ HBi.out
        by_cases hlu : j < tn
        · obtain ⟨u, hu⟩ : ∃ u, ts.getD j 0 = u := ⟨_, rfl⟩
          obtain ⟨b2, off2, hbo, hbl2, hc2⟩ := (HNQ.out _ HBi.out).rd (by omega)
          obtain ⟨rfl, rfl⟩ : b2 = b ∧ off2 = off := by
            injection hbo with h9
            injection h9 with h7 h8
            exact ⟨h7.symm, h8.symm⟩
          have p2 := hc2 j hlu
          rw [hu] at p2
          clear hc2 hu hbo
          have j3 : (0 : Int) ≤ (j : Int) := by omega
          have j4 : (j : Int) < (tn : Int) := by omega
          go_wp2_with (first | (go_at_call 10; (with_reducible refine (num6_any _ _).mono ?_); rintro e w' ⟨rfl, rfl⟩) | (go_at_call 16; (with_reducible refine (tile_form t u W H a n c w.heap.size xs _ ?_ ?_ ?_ HG.out).mono ?_); (exact HBY.out _ HBi.out); (exact hsz_le HBi.out); (omega); rintro e w8 ⟨rfl, hb⟩; have HBj := Hk.mk (HBi.out.trans (hb.mono (hsz_of HBi.out))); clear hb; clear d0 d1 d2 d3 d4; obtain ⟨d0, d1, d2, d3, d4⟩ := HC.out _ HBj.out))
          exact ⟨⟨j + 1, by go_num, by omega, HBj⟩, by simp [intOf]; omega⟩
        · have hjn : j = tn := by omega
          subst hjn
          go_wp2
          exact ⟨⟨k + 1, by go_num, by omega, HBi⟩, by simp [intOf]; omega⟩
    · have hkn : k = tn := by omega
      subst hkn
      go_wp2_with (go_at_call 17; (with_reducible refine (wakes6_any _ (HLL.out _ HB.out)).mono ?_); rintro e w4 ⟨rfl, hb4⟩; have HB4 := Hk.mk hb4; clear hb4)
      go_ret
      exact ⟨rfl, (HTR.out _ HB.out).trans (HB4.out.mono (HTR.out _ HB.out).size)⟩
end Go.Proofs.YtmkehmeoglpkeaaDoor
