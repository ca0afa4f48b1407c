/- For every argument, SectorEdges answers true and leaves its argument as it was: how many sectors maps of many sizes have, and of which one their corners are. No condition. -/
import Derived.Test.YtkggejdbkllaaaaAsk10
import Derived.Deep.QuietTactic
import Derived.BigQuiet
import Derived.Deep.RegionWith
import Derived.Deep.RegionHeld3
import Derived.ProofKit
import Derived.OpenShut
import Derived.ChangeSame
namespace Go.Proofs.Ytkggejdbkllaaaa
open Go.ChangeShapes Go.WideShapes Go.ChangeAt Go.RowKit Go.Deep
set_option linter.unusedVariables false
theorem ofS_0 (W : Int) : Fx.ofS W 0 = 0 := by unfold Fx.ofS; simp
theorem div_mul {W H : Int} (w1 : 1 ≤ W) : (W * H - 1) / W = H - 1 ∧ (W * H - 1) % W = W - 1 := by
  have e : W * H - 1 = (W - 1) + W * (H - 1) := by rw [Int.mul_sub]; omega
  constructor
  · rw [e, Int.add_mul_ediv_left _ _ (by omega), Int.ediv_eq_zero_of_lt (by omega) (by omega)]; omega
  · rw [e, Int.add_mul_emod_self_left, Int.emod_eq_of_lt (by omega) (by omega)]
theorem ofS_last {W H : Int} (w1 : 1 ≤ W) (h1 : 1 ≤ H) : Fx.ofS W (W * H - 1) = Fx.acS W * Fx.acS H - 1 := by
  obtain ⟨e1, e2⟩ := div_mul (H := H) w1
  unfold Fx.ofS
  rw [e1, e2]
  have a1 : (W - 1) / 8 = Fx.acS W - 1 := by unfold Fx.acS; omega
  have a2 : (H - 1) / 8 = Fx.acS H - 1 := by unfold Fx.acS; omega
  rw [a1, a2, Int.mul_sub]; omega
theorem ofS_row {W : Int} (w1 : 1 ≤ W) : Fx.ofS W (W - 1) = Fx.acS W - 1 := by
  unfold Fx.ofS
  have b1 : (W - 1) / W = 0 := Int.ediv_eq_zero_of_lt (by omega) (by omega)
  have b2 : (W - 1) % W = W - 1 := Int.emod_eq_of_lt (by omega) (by omega)
  have a1 : (W - 1) / 8 = Fx.acS W - 1 := by unfold Fx.acS; omega
  rw [b1, b2, a1]; simp
theorem count10_as (W H z : Int) (w : World) (E : Hk (Fx.szB W H = true)) (EZ : Hk (Fx.acS W * Fx.acS H = z)) : Calls Try.prog 13 #[.int .i64 W, .int .i64 H] w fun e w' => e = .returned (.tuple #[.int .i64 z, .int .i64 0]) ∧ Below w.heap.size w w' := by
  obtain ⟨rfl⟩ := EZ; exact count_yes W H w E
theorem of10_as (W H t z : Int) (w : World) (E : Hk (Fx.szB W H = true)) (t0 : 0 ≤ t) (t1 : t < W * H) (EZ : Hk (Fx.ofS W t = z)) : Calls Try.prog 16 #[.int .i64 W, .int .i64 H, .int .i64 t] w fun e w' => e = .returned (.tuple #[.int .i64 z, .int .i64 0]) ∧ Below w.heap.size w w' := by
  obtain ⟨rfl⟩ := EZ; exact of_yes10 W H t w E t0 t1
theorem hsz_of10 {w0 w1 : World} {o : Obj} (h : Below (w0.heap.size + 1) (w0.alloc o) w1) : w0.heap.size + 1 ≤ w1.heap.size := by simpa using h.size
set_option maxRecDepth 100000 in
set_option maxHeartbeats 3200000 in
theorem sectorEdges_walk (v : Value) (w : World) (rows : Asks10 w v) :
    Calls Try.prog 7 #[v] w fun e w' => e = .returned (.bool true) ∧ Below w.heap.size w w' := by
  obtain ⟨W0, H0, fa, fn, fc, ta, tn, tc, ts, pa, pn, pc, ps, rfl, hfn, htn, hpn, hnq, hpq⟩ := rows
  clear hnq hpq
  go_enter Try.func7, Try.ntmps7
  go_wp2
  have HW0 : Hk (Below w.heap.size w (w.alloc (.cells #[.int .i64 W0, .int .i64 H0, .slice fa fn fc, .slice ta tn tc, .slice pa pn pc] 25))) := ⟨(Below.refl _ _).alloc (Nat.le_refl _) _⟩
  have HB0 : Hk (Below (w.heap.size + 1) (w.alloc (.cells #[.int .i64 W0, .int .i64 H0, .slice fa fn fc, .slice ta tn tc, .slice pa pn pc] 25)) (w.alloc (.cells #[.int .i64 W0, .int .i64 H0, .slice fa fn fc, .slice ta tn tc, .slice pa pn pc] 25))) := ⟨Below.refl _ _⟩
  have HTS : Hk (∀ X, Below (w.heap.size + 1) (w.alloc (.cells #[.int .i64 W0, .int .i64 H0, .slice fa fn fc, .slice ta tn tc, .slice pa pn pc] 25)) X → X.cell? ⟨w.heap.size, 3, none⟩ = some (.slice ta tn tc)) := ⟨fun X hX => (hX.cell (p := ⟨w.heap.size, 3, none⟩) (by simp)).trans (by go_simp)⟩
  go_loopw [3] (fun i wr => ∃ (W : Int), i = .int .i64 W ∧ 1 ≤ W ∧ W ≤ 47 ∧ Hk (Below (w.heap.size + 1) (w.alloc (.cells #[.int .i64 W0, .int .i64 H0, .slice fa fn fc, .slice ta tn tc, .slice pa pn pc] 25)) wr)) (fun i _ => 48 - (intOf i).toNat)
  case atStart => exact ⟨1, rfl, by omega, by omega, HB0⟩
  case round =>
    obtain ⟨W, rfl, w1, w2, HB⟩ := hrel
    clear HB0
    by_cases hlt : W ≤ 40
    · have d1 : decide (W ≤ 40) = true := by simp; omega
      go_wp2
      go_loopw [4] (fun i wr => ∃ (H : Int), i = .int .i64 H ∧ 1 ≤ H ∧ H ≤ 47 ∧ Hk (Below (w.heap.size + 1) (w.alloc (.cells #[.int .i64 W0, .int .i64 H0, .slice fa fn fc, .slice ta tn tc, .slice pa pn pc] 25)) wr)) (fun i _ => 48 - (intOf i).toNat)
      case atStart => exact ⟨1, rfl, by omega, by omega, HB⟩
      case round =>
        clear HB
        obtain ⟨H, rfl, h1, h2, HB⟩ := hrel
        by_cases hlt2 : H ≤ 40
        · have d2 : decide (H ≤ 40) = true := by simp; omega
          have ES : Hk (Fx.szB W H = true) := ⟨by unfold Fx.szB; simp; omega⟩
          obtain ⟨n1, n2⟩ := mul_bd w1 (by omega) h1 (by omega)
          obtain ⟨A, hA⟩ : ∃ A, (W + 7) / 8 = A := ⟨_, rfl⟩
          obtain ⟨B, hB⟩ : ∃ B, (H + 7) / 8 = B := ⟨_, rfl⟩
          have a1 : 1 ≤ A ∧ A ≤ 6 := by omega
          have a2 : 1 ≤ B ∧ B ≤ 6 := by omega
          have eA : Fx.acS W = A := by unfold Fx.acS; omega
          have eB : Fx.acS H = B := by unfold Fx.acS; omega
          have m0 : 0 ≤ A * B := Int.mul_nonneg (by omega) (by omega)
          have m1 : A * B ≤ 6 * 6 := Int.mul_le_mul a1.2 a2.2 (by omega) (by omega)
          have E1 : Hk (Fx.acS W * Fx.acS H = A * B) := ⟨by rw [eA, eB]⟩
          have E2 : Hk (Fx.ofS W 0 = 0) := ⟨ofS_0 W⟩
          have E3 : Hk (Fx.ofS W (W * H - 1) = A * B - 1) := ⟨by rw [ofS_last w1 h1, eA, eB]⟩
          have E4 : Hk (Fx.ofS W (W - 1) = A - 1) := ⟨by rw [ofS_row w1, eA]⟩
          have r1 : IntKind.i64.wrap (W * H) = W * H := wr_in' (by omega)
          have r2 : IntKind.i64.wrap (W * H - 1) = W * H - 1 := wr_in' (by omega)
          have r3 : IntKind.i64.wrap (W - 1) = W - 1 := wr_in' (by omega)
          have r4 : IntKind.i64.wrap (W + 7) = W + 7 := wr_in' (by omega)
          have r5 : IntKind.i64.wrap (H + 7) = H + 7 := wr_in' (by omega)
          have r6 : (W + 7).tdiv 8 = A := by rw [Int.tdiv_eq_ediv_of_nonneg (by omega)]; exact hA
          have r7 : (H + 7).tdiv 8 = B := by rw [Int.tdiv_eq_ediv_of_nonneg (by omega)]; exact hB
          have r8 : IntKind.i64.wrap A = A := wr_in' (by omega)
          have r9 : IntKind.i64.wrap B = B := wr_in' (by omega)
          have r10 : IntKind.i64.wrap (A * B) = A * B := wr_in' (by omega)
          have r11 : IntKind.i64.wrap (A * B - 1) = A * B - 1 := wr_in' (by omega)
          have r12 : IntKind.i64.wrap (A - 1) = A - 1 := wr_in' (by omega)
          have r13 : IntKind.i64.wrap (H + 1) = H + 1 := wr_in' (by omega)
          have r14 : H.tdiv 6 = H / 6 := Int.tdiv_eq_ediv_of_nonneg (by omega)
          have r15 : IntKind.i64.wrap (H / 6) = H / 6 := wr_in' (by omega)
          have r16 : IntKind.i64.wrap (H + 1 + H / 6) = H + 1 + H / 6 := wr_in' (by omega)
          have t0 : (0 : Int) ≤ 0 := by omega
          have t1 : 0 < W * H := by have := Int.mul_pos (show 0 < W by omega) (show 0 < H by omega); omega
          have t2 : 0 ≤ W * H - 1 := by omega
          have t3 : W * H - 1 < W * H := by omega
          have t4 : 0 ≤ W - 1 := by omega
          have t5 : W - 1 < W * H := by have := Int.mul_le_mul_of_nonneg_left h1 (show 0 ≤ W by omega); omega
          clear n1 n2 a1 a2 m0 m1 eA eB hA hB
          go_wp2_with (first | (go_at_call 13; (with_reducible refine (count10_as W H (A * B) _ ES E1).mono ?_); rintro e w' ⟨rfl, hb'⟩; replace HB := Hk.mk (HB.out.trans (hb'.mono (hsz_of10 HB.out))); clear hb') | (go_at_call 16; (with_reducible refine (of10_as W H 0 0 _ ES t0 t1 E2).mono ?_); rintro e w' ⟨rfl, hb'⟩; replace HB := Hk.mk (HB.out.trans (hb'.mono (hsz_of10 HB.out))); clear hb') | (go_at_call 16; (with_reducible refine (of10_as W H (W * H - 1) (A * B - 1) _ ES t2 t3 E3).mono ?_); rintro e w' ⟨rfl, hb'⟩; replace HB := Hk.mk (HB.out.trans (hb'.mono (hsz_of10 HB.out))); clear hb') | (go_at_call 16; (with_reducible refine (of10_as W H (W - 1) (A - 1) _ ES t4 t5 E4).mono ?_); rintro e w' ⟨rfl, hb'⟩; replace HB := Hk.mk (HB.out.trans (hb'.mono (hsz_of10 HB.out))); clear hb') | (go_at_call 14; (with_reducible refine (num10_any _ _).mono ?_); rintro e w' ⟨rfl, rfl⟩))
          exact ⟨⟨_, rfl, by omega, by omega, HB⟩, by simp [intOf]; omega⟩
        · have d2 : decide (H ≤ 40) = false := by simp; omega
          have r13 : IntKind.i64.wrap (W + 1) = W + 1 := wr_in' (by omega)
          have r14 : W.tdiv 6 = W / 6 := Int.tdiv_eq_ediv_of_nonneg (by omega)
          have r15 : IntKind.i64.wrap (W / 6) = W / 6 := wr_in' (by omega)
          have r16 : IntKind.i64.wrap (W + 1 + W / 6) = W + 1 + W / 6 := wr_in' (by omega)
          go_wp2
          exact ⟨⟨_, rfl, by omega, by omega, HB⟩, by simp [intOf]; omega⟩
    · have d1 : decide (W ≤ 40) = false := by simp; omega
      have d5 := HTS.out _ HB.out
      have htn0 : decide ((0 : Int) ≤ (tn : Int)) = true := by simp
      have Z1 : Hk (Fx.szB 0 1 = false) := ⟨by decide⟩
      have Z2 : Hk (Fx.szB 1 129 = false) := ⟨by decide⟩
      have Z3 : Hk (Fx.szB 3 3 = true) := ⟨by decide⟩
      have y0 : (0 : Int) ≤ 9 := by omega
      have y1 : (3 : Int) * 3 ≤ 9 := by omega
      go_wp2_with (first | (go_at_call 13; (with_reducible refine (count_no 0 1 _ Z1).mono ?_); rintro e w' ⟨rfl, hb'⟩; replace HB := Hk.mk (HB.out.trans (hb'.mono (hsz_of10 HB.out))); clear hb'; replace d5 := HTS.out _ HB.out) | (go_at_call 13; (with_reducible refine (count_no 1 129 _ Z2).mono ?_); rintro e w' ⟨rfl, hb'⟩; replace HB := Hk.mk (HB.out.trans (hb'.mono (hsz_of10 HB.out))); clear hb'; replace d5 := HTS.out _ HB.out) | (go_at_call 16; (with_reducible refine (of_far10 3 3 9 _ Z3 y0 y1).mono ?_); rintro e w' ⟨rfl, hb'⟩; replace HB := Hk.mk (HB.out.trans (hb'.mono (hsz_of10 HB.out))); clear hb'; replace d5 := HTS.out _ HB.out) | (go_at_call 14; (with_reducible refine (num10_any _ _).mono ?_); rintro e w' ⟨rfl, rfl⟩) | (go_at_call 17; (with_reducible refine (wakes10_any _).mono ?_); rintro e w' ⟨rfl, hb'⟩; replace HB := Hk.mk (HB.out.trans (hb'.mono (hsz_of10 HB.out))); clear hb'))
      go_ret
      exact ⟨rfl, HW0.out.trans (HB.out.mono (by omega))⟩

theorem sectorEdges_own : ownKnob Try.prog.godebug = none := by kernel_rfl
theorem sectorEdges_laidOut : laidOutB Try.prog = true := by kernel_rfl
set_option maxRecDepth 100000 in
theorem sectorEdges_lifted (os : Os) (started : os.Started) (H : Type) (enc : TypeId × Value → H) :
    ReturnsInHanded {} Try.checked os 7 .any (Rows.sectorEdgesSpec.pre6 enc Try.prog Try.f7 Rows.sectorEdgesRow.domain false) (Rows.sectorEdgesSpec.post enc Try.prog Try.f7 false true false false) := by
  refine returnsInHanded_of_change (C := Try.checked) sectorEdges_own started (by kernel_rfl) Try.func7
    (ChangeSpec.witness6 (enc := enc) (C := Try.checked) false ⟨#[], #[.agg #[.int .i64 0, .int .i64 0, .slice none 0 0, .slice none 0 0, .slice none 0 0]], []⟩ 8 (by kernel_rfl) (by kernel_rfl) (by kernel_rfl) (by kernel_rfl)) ?_
  intro W base args ds gs before hval0 hW hcnd _
  have hval : ∀ (j : Nat) t v, Try.f7.params[j]? = some t → args[j]? = some v → Value.okWide Try.prog W .any base t v := hval0
  have hW' := hW
  obtain ⟨p, q, hA0, hV, rfl, hfz, hnd⟩ := hW
  have hA : DataW.TrodAll enc Try.prog W 0 (fun _ => true) true Try.f7.params.toList args.toList ds p := hA0
  rw [Try.params7] at hA hval
  obtain ⟨v0, vs0, d0, ds0, p0, q0, hargs, rfl, rfl, h0, r0⟩ := trodAll_cons hA
  obtain ⟨rfl, rfl, rfl⟩ := trodAll_nil r0
  obtain rfl : args = #[v0] := by cases args; simp_all
  obtain ⟨rfl, rfl⟩ := trodVars_none hV
  obtain ⟨cs0, rfl, hcs0⟩ := okWide_struct Try.underlying25 (hval 0 25 v0 rfl rfl)
  have k0 := h0
  have lt0 : ∀ x ∈ p0, x.block < W.heap.size := by obtain ⟨m, hm⟩ := k0; exact DataW.trod_lt m _ _ _ hm
  have rows : Asks10 W (.agg cs0) := by obtain ⟨fuel, hf⟩ := h0; exact asks10_of hcs0 hf
  clear hA0 hval0
  refine (sectorEdges_walk (.agg cs0) W rows).mono fun e W' ⟨he, bel⟩ => ?_
  subst he
  exact ⟨_, rfl, _, _, _, [], _, [], hW', trodAll_mk1 (shut_bool Try.underlying4 _), (trodAll_cons_mk (Below.trod sectorEdges_laidOut (by kernel_rfl) (of_decide_eq_true (by kernel_rfl)) k0 bel lt0) trodAll_mk0), rfl, bel.frame _, fun h => by cases h⟩
theorem sectorEdges_over : Rows.sectorEdgesRow.holds Try.pinned (OpenSpec.ofChange Rows.sectorEdgesSpec) :=
  OpenClaim.holds_of_wide 7 Try.f7 rfl rfl rfl rfl rfl rfl rfl ⟨rfl, rfl, rfl, rfl, rfl⟩ rfl rfl rfl rfl rfl (by kernel_rfl) Try.func7 (by kernel_rfl)
    (of_decide_eq_true (by kernel_rfl)) (by unfold Func.isWrapper; first | (rw [if_pos (by decide +kernel)]; kernel_rfl) | (rw [if_neg (by decide +kernel)]; exact ⟨rfl, rfl⟩))
    (fun os started H enc _ => sectorEdges_lifted os started H enc)
/-- The given statement of SectorEdges. -/
theorem sectorEdges_holds : Rows.SectorEdgesSaid := sectorEdges_over
end Go.Proofs.Ytkggejdbkllaaaa
