/- For every list, VecTurns answers true and leaves its argument as it was: turned round a way is as long; a way and its turned one are nothing together; scaled by One it is itself. No condition. -/
import Derived.Test.YtdammgpflfoppabVeco
import Derived.Deep.QuietTactic
import Derived.BigQuiet
import Derived.Deep.RegionWith
import Derived.Deep.RegionHeld3
namespace Go.Proofs.Ytdammgpflfoppab
open Go.ChangeShapes Go.WideShapes Go.ChangeAt Go.RowKit Go.Deep
set_option linter.unusedVariables false
set_option maxRecDepth 100000 in
set_option maxHeartbeats 1600000 in
theorem vecTurns_walk (a : Option Addr) (len cap : Nat) (w : World) (rows : Asks2 w a len cap) :
    Calls Try.prog 7 #[.slice a len cap] w fun e w' => e = .returned (.bool true) ∧ Below w.heap.size w w' := by
  obtain ⟨hl, hm, hall⟩ := rows
  have HALL := Fx.Hd.mk hall
  clear hall
  go_enter Try.func7, Try.ntmps7
  go_wp2
  go_loopw [3] (fun i  wr => ∃ (k : Nat), i = .int .i64 k ∧ k ≤ len ∧ k ≤ 30 ∧ Fx.Hd (Below w.heap.size w wr)) (fun i  _ => 30 - (intOf i).toNat)
  case atStart => exact ⟨0, rfl, by omega, by omega, ⟨Below.refl _ _⟩⟩
  case round =>
    obtain ⟨k, rfl, hk, hk2, HB⟩ := hrel
    by_cases hlt : k < len ∧ k < 30
    · obtain ⟨g1, g2⟩ := hlt
      obtain ⟨b, off, x, y, u, v, z, rfl, hbl, hx, hy, hu, hv, hz, c0, c1, c2, c3, c4⟩ := HALL.out k g1
      have d0 := (HB.out.cell (p := ⟨b, off + k * 5, none⟩) hbl).trans c0
      have d1 := (HB.out.cell (p := ⟨b, off + k * 5 + 1, none⟩) hbl).trans c1
      have d2 := (HB.out.cell (p := ⟨b, off + k * 5 + 2, none⟩) hbl).trans c2
      have d3 := (HB.out.cell (p := ⟨b, off + k * 5 + 3, none⟩) hbl).trans c3
      have d4 := (HB.out.cell (p := ⟨b, off + k * 5 + 4, none⟩) hbl).trans c4
      have hbw : b < wr.heap.size := Nat.lt_of_lt_of_le hbl HB.out.size
      have C4 := Fx.Hd.mk c4
      clear c0 c1 c2 c3 c4
      have mX : Fx.Mid (x / 4) := by have := hx; unfold Fx.I64 at this; unfold Fx.Mid; omega
      have mY : Fx.Mid (y / 4) := by have := hy; unfold Fx.I64 at this; unfold Fx.Mid; omega
      go_wp2
      go_region
      generalize x / 4 = X at *
      generalize y / 4 = Y at *
      have eb := (HB.out.alloc HB.out.size (.cells #[.int .i64 X, .int .i64 Y] 24)).drew
      go_wp2_with (first | (go_at_call 22; (with_reducible refine (held1 (w0 := w) (p := wr.heap.size) (x := .int .i64 X) (y := .int .i64 Y) (t_neg X Y _ mX mY) ?_ ?_ ?_).mono ?_); (first | assumption | go_simp); (first | assumption | go_simp); (first | assumption | (refine Below.drew ?_; assumption)); clear eb; rintro e wn ⟨rfl, e0, e1, hlt4, eb⟩))
      replace eb := eb.alloc eb.size (.cells #[.int .i64 (-X), .int .i64 (-Y)] 24)
      go_region_held3 (fun w' => w'.cell? ⟨wr.heap.size, 0, none⟩ = some (.int .i64 X) ∧ w'.cell? ⟨wr.heap.size, 1, none⟩ = some (.int .i64 Y) ∧ w'.cell? ⟨wn.heap.size, 0, none⟩ = some (.int .i64 (-X)) ∧ w'.cell? ⟨wn.heap.size, 1, none⟩ = some (.int .i64 (-Y)) ∧ Below w.heap.size w w') (first | exact ⟨e0, e1, e2, e3, eb⟩ | (refine ⟨?_, ?_, ?_, ?_, ?_⟩ <;> first | assumption | (refine Below.drew ?_; assumption) | (go_simp; done))) (first | (go_at_call 20; (first | (with_reducible refine (held4 (w0 := w) (p := wr.heap.size) (q := wn.heap.size) (x := .int .i64 X) (y := .int .i64 Y) (u := .int .i64 (-X)) (v := .int .i64 (-Y)) (t_lenneg X Y _ mX mY) ?_ ?_ ?_ ?_ ?_).mono ?_) | (with_reducible refine (held4 (w0 := w) (p := wr.heap.size) (q := wn.heap.size) (x := .int .i64 X) (y := .int .i64 Y) (u := .int .i64 (-X)) (v := .int .i64 (-Y)) (t_len X Y _ mX mY) ?_ ?_ ?_ ?_ ?_).mono ?_)); (first | assumption | go_simp); (first | assumption | go_simp); (first | assumption | go_simp); (first | assumption | go_simp); (first | assumption | (refine Below.drew ?_; assumption)); rintro e w' ⟨rfl, e0, e1, e2, e3, eb⟩) | (go_at_call 23; (first | (with_reducible refine (held4 (w0 := w) (p := wr.heap.size) (q := wn.heap.size) (x := .int .i64 X) (y := .int .i64 Y) (u := .int .i64 (-X)) (v := .int .i64 (-Y)) (t_add X Y _ mX mY) ?_ ?_ ?_ ?_ ?_).mono ?_)); (first | assumption | go_simp); (first | assumption | go_simp); (first | assumption | go_simp); (first | assumption | go_simp); (first | assumption | (refine Below.drew ?_; assumption)); rintro e w' ⟨rfl, e0, e1, e2, e3, eb⟩) | (go_at_call 24; (first | (with_reducible refine (held4 (w0 := w) (p := wr.heap.size) (q := wn.heap.size) (x := .int .i64 X) (y := .int .i64 Y) (u := .int .i64 (-X)) (v := .int .i64 (-Y)) (t_one X Y _ mX mY) ?_ ?_ ?_ ?_ ?_).mono ?_) | (with_reducible refine (held4 (w0 := w) (p := wr.heap.size) (q := wn.heap.size) (x := .int .i64 X) (y := .int .i64 Y) (u := .int .i64 (-X)) (v := .int .i64 (-Y)) (t_zero X Y _ mX mY) ?_ ?_ ?_ ?_ ?_).mono ?_)); (first | assumption | go_simp); (first | assumption | go_simp); (first | assumption | go_simp); (first | assumption | go_simp); (first | assumption | (refine Below.drew ?_; assumption)); rintro e w' ⟨rfl, e0, e1, e2, e3, eb⟩) | (go_at_call 25; (first | (with_reducible refine (held4 (w0 := w) (p := wr.heap.size) (q := wn.heap.size) (x := .int .i64 X) (y := .int .i64 Y) (u := .int .i64 (-X)) (v := .int .i64 (-Y)) (t_sub X Y _ mX mY) ?_ ?_ ?_ ?_ ?_).mono ?_)); (first | assumption | go_simp); (first | assumption | go_simp); (first | assumption | go_simp); (first | assumption | go_simp); (first | assumption | (refine Below.drew ?_; assumption)); rintro e w' ⟨rfl, e0, e1, e2, e3, eb⟩))
      have bX := Fx.tmod_bd X 1073741824 (by omega)
      have bY := Fx.tmod_bd Y 1073741824 (by omega)
      go_wp2
      generalize X.tmod 1073741824 = X2 at *
      generalize Y.tmod 1073741824 = Y2 at *
      replace eb := eb.alloc eb.size (.cells #[.int .i64 X2, .int .i64 Y2] 24)
      have iX2 : Fx.Mid X2 := by unfold Fx.Mid; omega
      have iY2 : Fx.Mid Y2 := by unfold Fx.Mid; omega
      obtain ⟨l1, l2, l3, l4⟩ := Fx.small_ge bX bY
      have wX : IntKind.i64.wrap (-X2) = -X2 := IntWalk.i64_in _ (by omega)
      have wY : IntKind.i64.wrap (-Y2) = -Y2 := IntWalk.i64_in _ (by omega)
      clear mX mY e0 e1 e2 e3
      obtain ⟨MX, hMX⟩ : ∃ M, (if X2 < -X2 then -X2 else X2) = M := ⟨_, rfl⟩
      obtain ⟨MY, hMY⟩ : ∃ M, (if Y2 < -Y2 then -Y2 else Y2) = M := ⟨_, rfl⟩
      have f1 : decide (Fx.lenS X2 Y2 < MX) = false := by rw [← hMX]; split <;> simp <;> omega
      have f2 : decide (Fx.lenS X2 Y2 < MY) = false := by rw [← hMY]; split <;> simp <;> omega
      all_goals
        go_region_held3 (fun w5 => w5.cell? ⟨w'.heap.size, 0, none⟩ = some (.int .i64 X2) ∧ w5.cell? ⟨w'.heap.size, 1, none⟩ = some (.int .i64 Y2) ∧ Below w.heap.size w w5) (first | exact ⟨e0, e1, eb⟩ | (refine ⟨?_, ?_, ?_⟩ <;> first | assumption | (refine Below.drew ?_; assumption) | (go_simp; done))) (first | (go_at_call 20; (first | (with_reducible refine (held1 (w0 := w) (p := w'.heap.size) (x := .int .i64 X2) (y := .int .i64 Y2) (t_lenturn X2 Y2 _ iX2 iY2) ?_ ?_ ?_).mono ?_) | (with_reducible refine (held1 (w0 := w) (p := w'.heap.size) (x := .int .i64 X2) (y := .int .i64 Y2) (t_len X2 Y2 _ iX2 iY2) ?_ ?_ ?_).mono ?_)); (first | assumption | go_simp); (first | assumption | go_simp); (first | assumption | (refine Below.drew ?_; assumption)); rintro e w5 ⟨rfl, e0, e1, _hp, eb⟩))
        all_goals
          go_wp2
          replace HB := Fx.Hd.mk eb
          refine ⟨⟨k + 1, by go_num, by omega, by omega, HB⟩, by simp [intOf]; omega⟩

    · go_wp2_with (first | (go_at_call 26; (first | (with_reducible refine (up (k_dot1 _) HB).mono ?_) | (with_reducible refine (up (k_dot2 _) HB).mono ?_)); clear HB; rintro e w' ⟨rfl, HB⟩) | (go_at_call 17; (with_reducible refine (up (wakes2_any _) HB).mono ?_); clear HB; rintro e w' ⟨rfl, HB⟩))
      all_goals
        go_ret
        exact ⟨rfl, HB.out⟩

theorem vecTurns_own : ownKnob Try.prog.godebug = none := by kernel_rfl
theorem vecTurns_laidOut : laidOutB Try.prog = true := by kernel_rfl
set_option maxRecDepth 100000 in
theorem vecTurns_lifted (os : Os) (started : os.Started) (H : Type) (enc : TypeId × Value → H) :
    ReturnsInHanded {} Try.checked os 7 .any (Rows.vecTurnsSpec.pre6 enc Try.prog Try.f7 Rows.vecTurnsRow.domain false) (Rows.vecTurnsSpec.post enc Try.prog Try.f7 false true false false) := by
  refine returnsInHanded_of_change (C := Try.checked) vecTurns_own started (by kernel_rfl) Try.func7
    (ChangeSpec.witness6 (enc := enc) (C := Try.checked) false ⟨#[], #[.slice none 0 0], []⟩ 8 (by kernel_rfl) (by kernel_rfl) (by kernel_rfl) (by kernel_rfl)) ?_
  intro W base args ds gs before hval0 hW hcnd _
  have hval : ∀ (j : Nat) t v, Try.f7.params[j]? = some t → args[j]? = some v → Value.okWide Try.prog W .any base t v := hval0
  have hW' := hW
  obtain ⟨p, q, hA0, hV, rfl, hfz, hnd⟩ := hW
  have hA : DataW.TrodAll enc Try.prog W 0 (fun _ => true) true Try.f7.params.toList args.toList ds p := hA0
  rw [Try.params7] at hA hval
  obtain ⟨v0, vs0, d0, ds0, p0, q0, hargs, rfl, rfl, h0, r0⟩ := trodAll_cons hA
  obtain ⟨rfl, rfl, rfl⟩ := trodAll_nil r0
  obtain rfl : args = #[v0] := by cases args; simp_all
  obtain ⟨rfl, rfl⟩ := trodVars_none hV
  obtain ⟨a0, len0, cap0, rfl⟩ := okWide_slice Try.underlying22 (hval 0 22 v0 rfl rfl)
  have k0 := h0
  have lt0 : ∀ x ∈ p0, x.block < W.heap.size := by obtain ⟨m, hm⟩ := k0; exact DataW.trod_lt m _ _ _ hm
  have rows : Asks2 W a0 len0 cap0 := by obtain ⟨fuel, hf⟩ := h0; exact asks2_of hf
  clear hA0 hval0
  refine (vecTurns_walk a0 len0 cap0 W rows).mono fun e W' ⟨he, bel⟩ => ?_
  subst he
  exact ⟨_, rfl, _, _, _, [], _, [], hW', trodAll_mk1 (shut_bool Try.underlying4 _), (trodAll_cons_mk (Below.trod vecTurns_laidOut (by kernel_rfl) (of_decide_eq_true (by kernel_rfl)) k0 bel lt0) trodAll_mk0), rfl, bel.frame _, fun h => by cases h⟩
theorem vecTurns_over : Rows.vecTurnsRow.holds Try.pinned (OpenSpec.ofChange Rows.vecTurnsSpec) :=
  OpenClaim.holds_of_wide 7 Try.f7 rfl rfl rfl rfl rfl rfl rfl ⟨rfl, rfl, rfl, rfl, rfl⟩ rfl rfl rfl rfl rfl (by kernel_rfl) Try.func7 (by kernel_rfl)
    (of_decide_eq_true (by kernel_rfl)) (by unfold Func.isWrapper; first | (rw [if_pos (by decide +kernel)]; kernel_rfl) | (rw [if_neg (by decide +kernel)]; exact ⟨rfl, rfl⟩))
    (fun os started H enc _ => vecTurns_lifted os started H enc)
/-- The given statement of VecTurns. -/
theorem vecTurns_holds : Rows.VecTurnsSaid := vecTurns_over
end Go.Proofs.Ytdammgpflfoppab
