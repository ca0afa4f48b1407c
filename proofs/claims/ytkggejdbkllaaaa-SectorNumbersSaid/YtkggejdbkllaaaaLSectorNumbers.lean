/- For every argument, SectorNumbers answers true and leaves its argument as it was: how many sectors any sides have, and which one any tile is of, is the page's, or refused. No condition. -/
import Derived.Test.YtkggejdbkllaaaaSch
import Derived.Deep.QuietTactic
import Derived.BigQuiet
import Derived.Deep.RegionWith
import Derived.Deep.RegionHeld3
import Derived.ProofKit
import Derived.OpenShut
import Derived.ChangeSame
namespace Go.Proofs.Ytkggejdbkllaaaa
open Go.ChangeShapes Go.WideShapes Go.ChangeAt Go.RowKit Go.Deep
set_option linter.unusedVariables false
theorem hsz_s {w0 w1 : World} {o : Obj} (h : Below (w0.heap.size + 1) (w0.alloc o) w1) : w0.heap.size + 1 ≤ w1.heap.size := by simpa using h.size
set_option maxRecDepth 100000 in
set_option maxHeartbeats 3200000 in
theorem sectorNumbers_walk (v : Value) (w : World) (rows : Asks10 w v) :
    Calls Try.prog 3 #[v] w fun e w' => e = .returned (.bool true) ∧ Below w.heap.size w w' := by
  obtain ⟨W, H, fa, fn, fc, ta, tn, tc, ts, pa, pn, pc, ps, rfl, hfn, htn, hpn, hnq, hpq⟩ := rows
  clear hpq
  have HNQ := Hk.mk (fun (X : World) (hX : Below w.heap.size w X) => hnq.below hX (Nat.le_refl _))
  clear hnq
  have HWB : Hk (Below w.heap.size w (w.alloc (.cells #[.int .i64 W, .int .i64 H, .slice fa fn fc, .slice ta tn tc, .slice pa pn pc] 25))) := ⟨(Below.refl _ _).alloc (Nat.le_refl _) _⟩
  have HC : Hk (∀ X, Below (w.heap.size + 1) (w.alloc (.cells #[.int .i64 W, .int .i64 H, .slice fa fn fc, .slice ta tn tc, .slice pa pn pc] 25)) X → X.cell? ⟨w.heap.size, 0, none⟩ = some (.int .i64 W) ∧ X.cell? ⟨w.heap.size, 1, none⟩ = some (.int .i64 H) ∧ X.cell? ⟨w.heap.size, 3, none⟩ = some (.slice ta tn tc)) :=
    ⟨fun X hX => ⟨(hX.cell (p := ⟨w.heap.size, 0, none⟩) (by simp)).trans (by go_simp), (hX.cell (p := ⟨w.heap.size, 1, none⟩) (by simp)).trans (by go_simp), (hX.cell (p := ⟨w.heap.size, 3, none⟩) (by simp)).trans (by go_simp)⟩⟩
  have HTR : Hk (∀ X, Below (w.heap.size + 1) (w.alloc (.cells #[.int .i64 W, .int .i64 H, .slice fa fn fc, .slice ta tn tc, .slice pa pn pc] 25)) X → Below w.heap.size w X) := ⟨fun X hX => HWB.out.trans (hX.mono (by omega))⟩
  cases hhv : heavyS fn tn pn
  case true =>
    have HV := Hk.mk hhv
    clear hhv
    go_enter Try.func3, Try.ntmps3
    go_wp2_with (go_at_call 11; (with_reducible refine (heavy10_as true W H fa ta pa fn fc tn tc pn pc _ hfn htn hpn HV).mono ?_); rintro e w1 ⟨rfl, hb1⟩; have HB1 := Hk.mk hb1; clear hb1)
    go_ret
    exact ⟨rfl, HWB.out.trans (HB1.out.mono (by simp))⟩
  case false =>
    have HV := Hk.mk hhv
    have hsm : tn ≤ 60 := by unfold heavyS at hhv; simp at hhv; omega
    clear hhv
    by_cases hsz : 1 ≤ W ∧ W ≤ 128 ∧ 1 ≤ H ∧ H ≤ 128
    · obtain ⟨w1', w2', h1', h2'⟩ := hsz
      have ES : Hk (Fx.szB W H = true) := ⟨by unfold Fx.szB; simp; omega⟩
      have b0 : decide (1 ≤ W) = true := by simp; omega
      have b1 : decide (W ≤ 128) = true := by simp; omega
      have b2 : decide (1 ≤ H) = true := by simp; omega
      have b3 : decide (H ≤ 128) = true := by simp; omega
      go_enter Try.func3, Try.ntmps3
      go_wp2_with (go_at_call 11; (with_reducible refine (heavy10_as false W H fa ta pa fn fc tn tc pn pc _ hfn htn hpn HV).mono ?_); rintro e w1 ⟨rfl, hb1⟩; have HB1 : Hk (Below (w.heap.size + 1) (w.alloc (.cells #[.int .i64 W, .int .i64 H, .slice fa fn fc, .slice ta tn tc, .slice pa pn pc] 25)) w1) := ⟨by simpa using hb1⟩; clear hb1; obtain ⟨d0, d1, d3⟩ := HC.out _ HB1.out)
      have eb := HB1.out
      obtain ⟨A, hA⟩ : ∃ A, Fx.acS W = A := ⟨_, rfl⟩
      obtain ⟨B, hB⟩ : ∃ B, Fx.acS H = B := ⟨_, rfl⟩
      have a1 := Fx.acS_bd w1' w2'
      have a2 := Fx.acS_bd h1' h2'
      rw [hA] at a1
      rw [hB] at a2
      have EA := Hk.mk hA
      have EB := Hk.mk hB
      have EC : Hk (Fx.acS W * Fx.acS H = A * B) := ⟨by rw [hA, hB]⟩
      have m0 : 0 ≤ A * B := Int.mul_nonneg (by omega) (by omega)
      have m1 : A * B ≤ 16 * 16 := Int.mul_le_mul a1.2 a2.2 (by omega) (by omega)
      have r1 : IntKind.i64.wrap (A * B) = A * B := wr_in' (by omega)
      clear hA hB a1 a2 m0 m1
      go_region_held3 (fun w' => w'.cell? ⟨w.heap.size, 0, none⟩ = some (.int .i64 W) ∧ w'.cell? ⟨w.heap.size, 1, none⟩ = some (.int .i64 H) ∧ w'.cell? ⟨w.heap.size, 3, none⟩ = some (.slice ta tn tc) ∧ Below (w.heap.size + 1) (w.alloc (.cells #[.int .i64 W, .int .i64 H, .slice fa fn fc, .slice ta tn tc, .slice pa pn pc] 25)) w') (first | exact ⟨ed0, ed1, ed3, eb⟩ | exact ⟨ed0, ed1, ed3, Below.drew eb⟩ | exact ⟨d0, d1, d3, Below.drew eb⟩ | exact ⟨d0, d1, d3, eb⟩ | go_keep) (first | (go_at_call 12; (with_reducible refine (hold3 (B := w.heap.size + 1) (w0 := (w.alloc (.cells #[.int .i64 W, .int .i64 H, .slice fa fn fc, .slice ta tn tc, .slice pa pn pc] 25))) (b1 := w.heap.size) (o1 := 0) (x1 := .int .i64 W) (b2 := w.heap.size) (o2 := 1) (x2 := .int .i64 H) (b3 := w.heap.size) (o3 := 3) (x3 := .slice ta tn tc) (racross_as W A _ w1' w2' EA) ?_ ?_ ?_ ?_ ?_ ).mono ?_); (first | assumption | exact eb.drew); (first | exact hsz_s eb | exact hsz_s eb.drew); (first | assumption | exact ed0 | exact d0); (first | assumption | exact ed1 | exact d1); (first | assumption | exact ed3 | exact d3); rintro e w' ⟨rfl, ed0, ed1, ed3, eb⟩) | (go_at_call 12; (with_reducible refine (hold3 (B := w.heap.size + 1) (w0 := (w.alloc (.cells #[.int .i64 W, .int .i64 H, .slice fa fn fc, .slice ta tn tc, .slice pa pn pc] 25))) (b1 := w.heap.size) (o1 := 0) (x1 := .int .i64 W) (b2 := w.heap.size) (o2 := 1) (x2 := .int .i64 H) (b3 := w.heap.size) (o3 := 3) (x3 := .slice ta tn tc) (racross_as H B _ h1' h2' EB) ?_ ?_ ?_ ?_ ?_ ).mono ?_); (first | assumption | exact eb.drew); (first | exact hsz_s eb | exact hsz_s eb.drew); (first | assumption | exact ed0 | exact d0); (first | assumption | exact ed1 | exact d1); (first | assumption | exact ed3 | exact d3); rintro e w' ⟨rfl, ed0, ed1, ed3, eb⟩))
      have eb2 := eb
      go_wp2_with (first | (go_at_call 13; (with_reducible refine (cnt_as W H (A * B) _ ES EC).mono ?_); rintro e w2 ⟨rfl, hb2⟩; have HB2 := Hk.mk (eb2.trans (hb2.mono (hsz_s eb2))); clear hb2; obtain ⟨d0, d1, d3⟩ := HC.out _ HB2.out) | (go_at_call 14; (with_reducible refine (num10_any _ _).mono ?_); rintro e w' ⟨rfl, rfl⟩))
      obtain ⟨n1, n2⟩ := mul_bd w1' w2' h1' h2'
      have p1 : IntKind.i64.wrap (W * H) = W * H := wr_in' (by omega)
      clear d0 d1 d3 eb
      go_loopw [8] (fun i wr => ∃ (k : Nat), i = .int .i64 k ∧ k ≤ tn ∧ Hk (Below (w.heap.size + 1) (w.alloc (.cells #[.int .i64 W, .int .i64 H, .slice fa fn fc, .slice ta tn tc, .slice pa pn pc] 25)) wr)) (fun i _ => tn - (intOf i).toNat)
      case atStart => exact ⟨0, rfl, by omega, HB2⟩
      case round =>
        obtain ⟨k, rfl, hk, HB⟩ := hrel
        clear HB1 HB2 eb2
        by_cases hlt : k < tn
        · obtain ⟨t, ht⟩ : ∃ t, ts.getD k 0 = t := ⟨_, rfl⟩
          obtain ⟨b, off, rfl, hbl, hc⟩ := (HNQ.out _ (HTR.out _ HB.out)).rd (by omega)
          have p0 := hc k hlt
          rw [ht] at p0
          clear hc ht
          obtain ⟨d0, d1, d3⟩ := HC.out _ HB.out
          have eb := HB.out
          have j1 : (0 : Int) ≤ (k : Int) := by omega
          have j2 : (k : Int) < (tn : Int) := by omega
          by_cases hin : 0 ≤ t ∧ t < W * H
          · obtain ⟨t0, t1⟩ := hin
            have c0 : decide (0 ≤ t) = true := by simp; omega
            have c1 : decide (t < W * H) = true := by simp; omega
            obtain ⟨z, hz⟩ : ∃ z, Fx.ofS W t = z := ⟨_, rfl⟩
            have EZ := Hk.mk hz
            clear hz
            have t2 : t ≤ 16384 := by omega
            go_wp2_with (first | (go_at_call 15; (with_reducible refine (rof10_as W t z _ w1' w2' t0 t2 EZ).mono ?_); rintro e w' ⟨rfl, hb'⟩; have HBn := Hk.mk (HB.out.trans (hb'.mono (hsz_s HB.out))); clear hb' d0 d1 d3; obtain ⟨d0, d1, d3⟩ := HC.out _ HBn.out) | (go_at_call 16; (with_reducible refine (sofl_as W H t z _ ES t0 t1 EZ).mono ?_); rintro e w' ⟨rfl, hb'⟩; have HBf := Hk.mk (HBn.out.trans (hb'.mono (hsz_s HBn.out))); clear hb') | (go_at_call 14; (with_reducible refine (num10_any _ _).mono ?_); rintro e w' ⟨rfl, rfl⟩))
            exact ⟨⟨k + 1, by go_num, by omega, HBf⟩, by simp [intOf]; omega⟩
          · have HBn := HB
            by_cases ht0 : 0 ≤ t
            · have c0 : decide (0 ≤ t) = true := by simp; omega
              have c1 : decide (t < W * H) = false := by simp; omega
              go_wp2_with (first | (go_at_call 16; (with_reducible refine (sofn_as W H t _ ES hin).mono ?_); rintro e w' ⟨rfl, hb'⟩; have HBf := Hk.mk (HBn.out.trans (hb'.mono (hsz_s HBn.out))); clear hb') | (go_at_call 14; (with_reducible refine (num10_any _ _).mono ?_); rintro e w' ⟨rfl, rfl⟩))
              exact ⟨⟨k + 1, by go_num, by omega, HBf⟩, by simp [intOf]; omega⟩
            · have c0 : decide (0 ≤ t) = false := by simp; omega
              go_wp2_with (first | (go_at_call 16; (with_reducible refine (sofn_as W H t _ ES hin).mono ?_); rintro e w' ⟨rfl, hb'⟩; have HBf := Hk.mk (HBn.out.trans (hb'.mono (hsz_s HBn.out))); clear hb') | (go_at_call 14; (with_reducible refine (num10_any _ _).mono ?_); rintro e w' ⟨rfl, rfl⟩))
              exact ⟨⟨k + 1, by go_num, by omega, HBf⟩, by simp [intOf]; omega⟩
        · have hkn : k = tn := by omega
          subst hkn
          obtain ⟨d0, d1, d3⟩ := HC.out _ HB.out
          go_wp2_with (go_at_call 17; (with_reducible refine (wakes10_any _).mono ?_); rintro e w' ⟨rfl, hb'⟩; have HBf := Hk.mk (HB.out.trans (hb'.mono (hsz_s HB.out))); clear hb')
          go_ret
          exact ⟨rfl, HTR.out _ HBf.out⟩
    · have ES : Hk (Fx.szB W H = false) := ⟨by unfold Fx.szB; simp; omega⟩
      by_cases q0 : ¬ (1 ≤ W)
      · have b0 : decide (1 ≤ W) = false := by simp; omega
        go_enter Try.func3, Try.ntmps3
        go_wp2_with (first | (go_at_call 11; (with_reducible refine (heavy10_as false W H fa ta pa fn fc tn tc pn pc _ hfn htn hpn HV).mono ?_); rintro e w1 ⟨rfl, hb1⟩; have HB1 : Hk (Below (w.heap.size + 1) (w.alloc (.cells #[.int .i64 W, .int .i64 H, .slice fa fn fc, .slice ta tn tc, .slice pa pn pc] 25)) w1) := ⟨by simpa using hb1⟩; clear hb1; obtain ⟨d0, d1, d3⟩ := HC.out _ HB1.out) | (go_at_call 13; (with_reducible refine (count_no W H _ ES).mono ?_); rintro e w2 ⟨rfl, hb2⟩; have HB2 := Hk.mk (HB1.out.trans (hb2.mono (hsz_s HB1.out))); clear hb2 d0 d1 d3; obtain ⟨d0, d1, d3⟩ := HC.out _ HB2.out) | (go_at_call 14; (with_reducible refine (num10_any _ _).mono ?_); rintro e w' ⟨rfl, rfl⟩))
        clear d0 d1 d3
        go_loopw [8] (fun i wr => ∃ (k : Nat), i = .int .i64 k ∧ k ≤ tn ∧ Hk (Below (w.heap.size + 1) (w.alloc (.cells #[.int .i64 W, .int .i64 H, .slice fa fn fc, .slice ta tn tc, .slice pa pn pc] 25)) wr)) (fun i _ => tn - (intOf i).toNat)
        case atStart => exact ⟨0, rfl, by omega, HB2⟩
        case round =>
          obtain ⟨k, rfl, hk, HB⟩ := hrel
          clear HB1 HB2
          by_cases hlt : k < tn
          · obtain ⟨t, ht⟩ : ∃ t, ts.getD k 0 = t := ⟨_, rfl⟩
            obtain ⟨b, off, rfl, hbl, hc⟩ := (HNQ.out _ (HTR.out _ HB.out)).rd (by omega)
            have p0 := hc k hlt
            rw [ht] at p0
            clear hc ht
            obtain ⟨d0, d1, d3⟩ := HC.out _ HB.out
            have j1 : (0 : Int) ≤ (k : Int) := by omega
            have j2 : (k : Int) < (tn : Int) := by omega
            have HBn := HB
            go_wp2_with (first | (go_at_call 16; (with_reducible refine (of_form10 W H t _ ES).mono ?_); rintro e w' ⟨rfl, hb'⟩; have HBf := Hk.mk (HBn.out.trans (hb'.mono (hsz_s HBn.out))); clear hb') | (go_at_call 14; (with_reducible refine (num10_any _ _).mono ?_); rintro e w' ⟨rfl, rfl⟩))
            exact ⟨⟨k + 1, by go_num, by omega, HBf⟩, by simp [intOf]; omega⟩
          · have hkn : k = tn := by omega
            subst hkn
            obtain ⟨d0, d1, d3⟩ := HC.out _ HB.out
            go_wp2_with (go_at_call 17; (with_reducible refine (wakes10_any _).mono ?_); rintro e w' ⟨rfl, hb'⟩; have HBf := Hk.mk (HB.out.trans (hb'.mono (hsz_s HB.out))); clear hb')
            go_ret
            exact ⟨rfl, HTR.out _ HBf.out⟩
      by_cases q1 : ¬ (W ≤ 128)
      · have b0 : decide (1 ≤ W) = true := by simp; omega
        have b1 : decide (W ≤ 128) = false := by simp; omega
        go_enter Try.func3, Try.ntmps3
        go_wp2_with (first | (go_at_call 11; (with_reducible refine (heavy10_as false W H fa ta pa fn fc tn tc pn pc _ hfn htn hpn HV).mono ?_); rintro e w1 ⟨rfl, hb1⟩; have HB1 : Hk (Below (w.heap.size + 1) (w.alloc (.cells #[.int .i64 W, .int .i64 H, .slice fa fn fc, .slice ta tn tc, .slice pa pn pc] 25)) w1) := ⟨by simpa using hb1⟩; clear hb1; obtain ⟨d0, d1, d3⟩ := HC.out _ HB1.out) | (go_at_call 13; (with_reducible refine (count_no W H _ ES).mono ?_); rintro e w2 ⟨rfl, hb2⟩; have HB2 := Hk.mk (HB1.out.trans (hb2.mono (hsz_s HB1.out))); clear hb2 d0 d1 d3; obtain ⟨d0, d1, d3⟩ := HC.out _ HB2.out) | (go_at_call 14; (with_reducible refine (num10_any _ _).mono ?_); rintro e w' ⟨rfl, rfl⟩))
        clear d0 d1 d3
        go_loopw [8] (fun i wr => ∃ (k : Nat), i = .int .i64 k ∧ k ≤ tn ∧ Hk (Below (w.heap.size + 1) (w.alloc (.cells #[.int .i64 W, .int .i64 H, .slice fa fn fc, .slice ta tn tc, .slice pa pn pc] 25)) wr)) (fun i _ => tn - (intOf i).toNat)
        case atStart => exact ⟨0, rfl, by omega, HB2⟩
        case round =>
          obtain ⟨k, rfl, hk, HB⟩ := hrel
          clear HB1 HB2
          by_cases hlt : k < tn
          · obtain ⟨t, ht⟩ : ∃ t, ts.getD k 0 = t := ⟨_, rfl⟩
            obtain ⟨b, off, rfl, hbl, hc⟩ := (HNQ.out _ (HTR.out _ HB.out)).rd (by omega)
            have p0 := hc k hlt
            rw [ht] at p0
            clear hc ht
            obtain ⟨d0, d1, d3⟩ := HC.out _ HB.out
            have j1 : (0 : Int) ≤ (k : Int) := by omega
            have j2 : (k : Int) < (tn : Int) := by omega
            have HBn := HB
            go_wp2_with (first | (go_at_call 16; (with_reducible refine (of_form10 W H t _ ES).mono ?_); rintro e w' ⟨rfl, hb'⟩; have HBf := Hk.mk (HBn.out.trans (hb'.mono (hsz_s HBn.out))); clear hb') | (go_at_call 14; (with_reducible refine (num10_any _ _).mono ?_); rintro e w' ⟨rfl, rfl⟩))
            exact ⟨⟨k + 1, by go_num, by omega, HBf⟩, by simp [intOf]; omega⟩
          · have hkn : k = tn := by omega
            subst hkn
            obtain ⟨d0, d1, d3⟩ := HC.out _ HB.out
            go_wp2_with (go_at_call 17; (with_reducible refine (wakes10_any _).mono ?_); rintro e w' ⟨rfl, hb'⟩; have HBf := Hk.mk (HB.out.trans (hb'.mono (hsz_s HB.out))); clear hb')
            go_ret
            exact ⟨rfl, HTR.out _ HBf.out⟩
      by_cases q2 : ¬ (1 ≤ H)
      · have b0 : decide (1 ≤ W) = true := by simp; omega
        have b1 : decide (W ≤ 128) = true := by simp; omega
        have b2 : decide (1 ≤ H) = false := by simp; omega
        go_enter Try.func3, Try.ntmps3
        go_wp2_with (first | (go_at_call 11; (with_reducible refine (heavy10_as false W H fa ta pa fn fc tn tc pn pc _ hfn htn hpn HV).mono ?_); rintro e w1 ⟨rfl, hb1⟩; have HB1 : Hk (Below (w.heap.size + 1) (w.alloc (.cells #[.int .i64 W, .int .i64 H, .slice fa fn fc, .slice ta tn tc, .slice pa pn pc] 25)) w1) := ⟨by simpa using hb1⟩; clear hb1; obtain ⟨d0, d1, d3⟩ := HC.out _ HB1.out) | (go_at_call 13; (with_reducible refine (count_no W H _ ES).mono ?_); rintro e w2 ⟨rfl, hb2⟩; have HB2 := Hk.mk (HB1.out.trans (hb2.mono (hsz_s HB1.out))); clear hb2 d0 d1 d3; obtain ⟨d0, d1, d3⟩ := HC.out _ HB2.out) | (go_at_call 14; (with_reducible refine (num10_any _ _).mono ?_); rintro e w' ⟨rfl, rfl⟩))
        clear d0 d1 d3
        go_loopw [8] (fun i wr => ∃ (k : Nat), i = .int .i64 k ∧ k ≤ tn ∧ Hk (Below (w.heap.size + 1) (w.alloc (.cells #[.int .i64 W, .int .i64 H, .slice fa fn fc, .slice ta tn tc, .slice pa pn pc] 25)) wr)) (fun i _ => tn - (intOf i).toNat)
        case atStart => exact ⟨0, rfl, by omega, HB2⟩
        case round =>
          obtain ⟨k, rfl, hk, HB⟩ := hrel
          clear HB1 HB2
          by_cases hlt : k < tn
          · obtain ⟨t, ht⟩ : ∃ t, ts.getD k 0 = t := ⟨_, rfl⟩
            obtain ⟨b, off, rfl, hbl, hc⟩ := (HNQ.out _ (HTR.out _ HB.out)).rd (by omega)
            have p0 := hc k hlt
            rw [ht] at p0
            clear hc ht
            obtain ⟨d0, d1, d3⟩ := HC.out _ HB.out
            have j1 : (0 : Int) ≤ (k : Int) := by omega
            have j2 : (k : Int) < (tn : Int) := by omega
            have HBn := HB
            go_wp2_with (first | (go_at_call 16; (with_reducible refine (of_form10 W H t _ ES).mono ?_); rintro e w' ⟨rfl, hb'⟩; have HBf := Hk.mk (HBn.out.trans (hb'.mono (hsz_s HBn.out))); clear hb') | (go_at_call 14; (with_reducible refine (num10_any _ _).mono ?_); rintro e w' ⟨rfl, rfl⟩))
            exact ⟨⟨k + 1, by go_num, by omega, HBf⟩, by simp [intOf]; omega⟩
          · have hkn : k = tn := by omega
            subst hkn
            obtain ⟨d0, d1, d3⟩ := HC.out _ HB.out
            go_wp2_with (go_at_call 17; (with_reducible refine (wakes10_any _).mono ?_); rintro e w' ⟨rfl, hb'⟩; have HBf := Hk.mk (HB.out.trans (hb'.mono (hsz_s HB.out))); clear hb')
            go_ret
            exact ⟨rfl, HTR.out _ HBf.out⟩
      have b0 : decide (1 ≤ W) = true := by simp; omega
      have b1 : decide (W ≤ 128) = true := by simp; omega
      have b2 : decide (1 ≤ H) = true := by simp; omega
      have b3 : decide (H ≤ 128) = false := by simp; omega
      go_enter Try.func3, Try.ntmps3
      go_wp2_with (first | (go_at_call 11; (with_reducible refine (heavy10_as false W H fa ta pa fn fc tn tc pn pc _ hfn htn hpn HV).mono ?_); rintro e w1 ⟨rfl, hb1⟩; have HB1 : Hk (Below (w.heap.size + 1) (w.alloc (.cells #[.int .i64 W, .int .i64 H, .slice fa fn fc, .slice ta tn tc, .slice pa pn pc] 25)) w1) := ⟨by simpa using hb1⟩; clear hb1; obtain ⟨d0, d1, d3⟩ := HC.out _ HB1.out) | (go_at_call 13; (with_reducible refine (count_no W H _ ES).mono ?_); rintro e w2 ⟨rfl, hb2⟩; have HB2 := Hk.mk (HB1.out.trans (hb2.mono (hsz_s HB1.out))); clear hb2 d0 d1 d3; obtain ⟨d0, d1, d3⟩ := HC.out _ HB2.out) | (go_at_call 14; (with_reducible refine (num10_any _ _).mono ?_); rintro e w' ⟨rfl, rfl⟩))
      clear d0 d1 d3
      go_loopw [8] (fun i wr => ∃ (k : Nat), i = .int .i64 k ∧ k ≤ tn ∧ Hk (Below (w.heap.size + 1) (w.alloc (.cells #[.int .i64 W, .int .i64 H, .slice fa fn fc, .slice ta tn tc, .slice pa pn pc] 25)) wr)) (fun i _ => tn - (intOf i).toNat)
      case atStart => exact ⟨0, rfl, by omega, HB2⟩
      case round =>
        obtain ⟨k, rfl, hk, HB⟩ := hrel
        clear HB1 HB2
        by_cases hlt : k < tn
        · obtain ⟨t, ht⟩ : ∃ t, ts.getD k 0 = t := ⟨_, rfl⟩
          obtain ⟨b, off, rfl, hbl, hc⟩ := (HNQ.out _ (HTR.out _ HB.out)).rd (by omega)
          have p0 := hc k hlt
          rw [ht] at p0
          clear hc ht
          obtain ⟨d0, d1, d3⟩ := HC.out _ HB.out
          have j1 : (0 : Int) ≤ (k : Int) := by omega
          have j2 : (k : Int) < (tn : Int) := by omega
          have HBn := HB
          go_wp2_with (first | (go_at_call 16; (with_reducible refine (of_form10 W H t _ ES).mono ?_); rintro e w' ⟨rfl, hb'⟩; have HBf := Hk.mk (HBn.out.trans (hb'.mono (hsz_s HBn.out))); clear hb') | (go_at_call 14; (with_reducible refine (num10_any _ _).mono ?_); rintro e w' ⟨rfl, rfl⟩))
          exact ⟨⟨k + 1, by go_num, by omega, HBf⟩, by simp [intOf]; omega⟩
        · have hkn : k = tn := by omega
          subst hkn
          obtain ⟨d0, d1, d3⟩ := HC.out _ HB.out
          go_wp2_with (go_at_call 17; (with_reducible refine (wakes10_any _).mono ?_); rintro e w' ⟨rfl, hb'⟩; have HBf := Hk.mk (HB.out.trans (hb'.mono (hsz_s HB.out))); clear hb')
          go_ret
          exact ⟨rfl, HTR.out _ HBf.out⟩

theorem sectorNumbers_own : ownKnob Try.prog.godebug = none := by kernel_rfl
theorem sectorNumbers_laidOut : laidOutB Try.prog = true := by kernel_rfl
set_option maxRecDepth 100000 in
theorem sectorNumbers_lifted (os : Os) (started : os.Started) (H : Type) (enc : TypeId × Value → H) :
    ReturnsInHanded {} Try.checked os 3 .any (Rows.sectorNumbersSpec.pre6 enc Try.prog Try.f3 Rows.sectorNumbersRow.domain false) (Rows.sectorNumbersSpec.post enc Try.prog Try.f3 false true false false) := by
  refine returnsInHanded_of_change (C := Try.checked) sectorNumbers_own started (by kernel_rfl) Try.func3
    (ChangeSpec.witness6 (enc := enc) (C := Try.checked) false ⟨#[], #[.agg #[.int .i64 0, .int .i64 0, .slice none 0 0, .slice none 0 0, .slice none 0 0]], []⟩ 8 (by kernel_rfl) (by kernel_rfl) (by kernel_rfl) (by kernel_rfl)) ?_
  intro W base args ds gs before hval0 hW hcnd _
  have hval : ∀ (j : Nat) t v, Try.f3.params[j]? = some t → args[j]? = some v → Value.okWide Try.prog W .any base t v := hval0
  have hW' := hW
  obtain ⟨p, q, hA0, hV, rfl, hfz, hnd⟩ := hW
  have hA : DataW.TrodAll enc Try.prog W 0 (fun _ => true) true Try.f3.params.toList args.toList ds p := hA0
  rw [Try.params3] at hA hval
  obtain ⟨v0, vs0, d0, ds0, p0, q0, hargs, rfl, rfl, h0, r0⟩ := trodAll_cons hA
  obtain ⟨rfl, rfl, rfl⟩ := trodAll_nil r0
  obtain rfl : args = #[v0] := by cases args; simp_all
  obtain ⟨rfl, rfl⟩ := trodVars_none hV
  obtain ⟨cs0, rfl, hcs0⟩ := okWide_struct Try.underlying25 (hval 0 25 v0 rfl rfl)
  have k0 := h0
  have lt0 : ∀ x ∈ p0, x.block < W.heap.size := by obtain ⟨m, hm⟩ := k0; exact DataW.trod_lt m _ _ _ hm
  have rows : Asks10 W (.agg cs0) := by obtain ⟨fuel, hf⟩ := h0; exact asks10_of hcs0 hf
  clear hA0 hval0
  refine (sectorNumbers_walk (.agg cs0) W rows).mono fun e W' ⟨he, bel⟩ => ?_
  subst he
  exact ⟨_, rfl, _, _, _, [], _, [], hW', trodAll_mk1 (shut_bool Try.underlying4 _), (trodAll_cons_mk (Below.trod sectorNumbers_laidOut (by kernel_rfl) (of_decide_eq_true (by kernel_rfl)) k0 bel lt0) trodAll_mk0), rfl, bel.frame _, fun h => by cases h⟩
theorem sectorNumbers_over : Rows.sectorNumbersRow.holds Try.pinned (OpenSpec.ofChange Rows.sectorNumbersSpec) :=
  OpenClaim.holds_of_wide 3 Try.f3 rfl rfl rfl rfl rfl rfl rfl ⟨rfl, rfl, rfl, rfl, rfl⟩ rfl rfl rfl rfl rfl (by kernel_rfl) Try.func3 (by kernel_rfl)
    (of_decide_eq_true (by kernel_rfl)) (by unfold Func.isWrapper; first | (rw [if_pos (by decide +kernel)]; kernel_rfl) | (rw [if_neg (by decide +kernel)]; exact ⟨rfl, rfl⟩))
    (fun os started H enc _ => sectorNumbers_lifted os started H enc)
/-- The given statement of SectorNumbers. -/
theorem sectorNumbers_holds : Rows.SectorNumbersSaid := sectorNumbers_over
end Go.Proofs.Ytkggejdbkllaaaa
