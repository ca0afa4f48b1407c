/- For every list, MapcodeParses answers true and leaves its argument as it was: the ground that any bytes are is the page's, or the error is. No condition. -/
import Derived.Test.YtmkehmeoglpkeaaMpk
import Derived.Test.YtmkehmeoglpkeaaWire
import Derived.Deep.RegionWith
import Derived.Deep.QuietTactic
import Derived.BigQuiet
import Derived.Deep.RegionWith
import Derived.Deep.RegionHeld3
namespace Go.Proofs.Ytmkehmeoglpkeaa
open Go.ChangeShapes Go.WideShapes Go.ChangeAt Go.RowKit Go.Deep
set_option linter.unusedVariables false
set_option maxRecDepth 100000 in
set_option maxHeartbeats 3200000 in
theorem mapcodeParses_walk (a0 : Option Addr) (len cap : Nat) (w : World) (rows : Asks7 w a0 len cap) :
    Calls Try.prog 4 #[.slice a0 len cap] w fun e w' => e = .returned (.bool true) ∧ Below w.heap.size w w' := by
  obtain ⟨hl, hm, hall⟩ := rows
  have HALL := Hk.mk hall
  clear hall
  go_enter Try.func4, Try.ntmps4
  go_wp2
  go_loopw [3] (fun i wr => ∃ (j : Nat), i = .int .i64 j ∧ j ≤ len ∧ j ≤ 6 ∧ Hk (Below w.heap.size w wr)) (fun i _ => 6 - (intOf i).toNat)
  case atStart => exact ⟨0, rfl, by omega, by omega, ⟨Below.refl _ _⟩⟩
  case round =>
    obtain ⟨j, rfl, hj, hj2, HB0⟩ := hrel
    by_cases hlt : j < len ∧ j < 6
    · obtain ⟨g1, g2⟩ := hlt
      obtain ⟨b, off, W, H, ag, ng, cg, xs, ax, nx, cx, ys, rfl, hbl, hbg, hbx, k0, k1, k2, k3⟩ := HALL.out j (by omega)
      have hwz := HB0.out.size
      have hbr : b < wr.heap.size := by omega
      have HCX : Hk (∀ X, Below wr.heap.size wr X → X.cell? ⟨b, off + j * 4, none⟩ = some (.int .i64 W) ∧ X.cell? ⟨b, off + j * 4 + 1, none⟩ = some (.int .i64 H) ∧ X.cell? ⟨b, off + j * 4 + 2, none⟩ = some (.slice ag ng cg) ∧ X.cell? ⟨b, off + j * 4 + 3, none⟩ = some (.slice ax nx cx)) :=
        ⟨fun X hX => ⟨((HB0.out.trans (hX.mono hwz)).cell (p := ⟨b, off + j * 4, none⟩) hbl).trans k0, ((HB0.out.trans (hX.mono hwz)).cell (p := ⟨b, off + j * 4 + 1, none⟩) hbl).trans k1, ((HB0.out.trans (hX.mono hwz)).cell (p := ⟨b, off + j * 4 + 2, none⟩) hbl).trans k2, ((HB0.out.trans (hX.mono hwz)).cell (p := ⟨b, off + j * 4 + 3, none⟩) hbl).trans k3⟩⟩
      have HGX : Hk (∀ X, Below wr.heap.size wr X → By X X.heap.size ag ng xs) := ⟨fun X hX => hbg.all (HB0.out.trans (hX.mono hwz))⟩
      have HXX : Hk (∀ X, Below wr.heap.size wr X → By X X.heap.size ax nx ys) := ⟨fun X hX => hbx.all (HB0.out.trans (hX.mono hwz))⟩
      have HBG := Hk.mk hbg
      have HBX := Hk.mk hbx
      obtain ⟨c0, c1, c2, c3⟩ := HCX.out _ (Below.refl _ _)
      clear k0 k1 k2 k3 hbg hbx
      have i1 : (0 : Int) ≤ (j : Int) := by omega
      have i2 : (j : Int) < (len : Int) := by omega
      cases hv : decide (3000 < ng ∨ 5000 < nx)
      case true =>
        have HV := Hk.mk hv
        clear hv
        go_wp2_with (go_at_call 7; (with_reducible refine (heavy7_as true W H ag ax ng cg nx cx _ HV).mono ?_); rintro e w2 ⟨rfl, hb2⟩; have HB2 := Hk.mk hb2; clear hb2; clear c0 c1 c2 c3; obtain ⟨c0, c1, c2, c3⟩ := HCX.out _ HB2.out)
        go_ret
        exact ⟨rfl, HB0.out.trans (HB2.out.mono hwz)⟩
      case false =>
        have HV := Hk.mk hv
        obtain ⟨hng, hnx⟩ : ng ≤ 3000 ∧ nx ≤ 5000 := by simp at hv; omega
        clear hv
        obtain ⟨PW, PH, pts, E, hmp⟩ : ∃ PW PH pts E, mapS ys = (PW, PH, pts, E) := ⟨_, _, _, _, rfl⟩
        have HM := Hk.mk hmp
        have HPL := Hk.mk (mapS_len hmp)
        clear hmp
        go_wp2_with (first | (go_at_call 7; (with_reducible refine (heavy7_as false W H ag ax ng cg nx cx _ HV).mono ?_); rintro e w2 ⟨rfl, hb2⟩; have HB2 := Hk.mk hb2; clear hb2; clear c0 c1 c2 c3; obtain ⟨c0, c1, c2, c3⟩ := HCX.out _ HB2.out) | (go_at_call 16; (with_reducible refine (copy_any ax nx cx ys _ (HXX.out _ HB2.out) (by omega)).mono ?_); rintro e w3 ⟨v3, rfl, ho3, hb3⟩; obtain ⟨a3, c3', rfl, hnc3, hby3, -⟩ := ho3.by_; have hcm3 := ho3.capm; have HN3 := Hk.mk ho3.anm; have HY3 := Hk.mk hby3; have HB3 := Hk.mk (HB2.out.trans (hb3.mono HB2.out.size)); have HY3X : Hk (∀ X, Below w3.heap.size w3 X → By X X.heap.size a3 nx ys) := ⟨fun X hX => (HY3.out.below hX (Nat.le_refl _)).mono hX.size⟩; clear ho3 hb3 hby3; clear c0 c1 c2 c3; obtain ⟨c0, c1, c2, c3⟩ := HCX.out _ HB3.out) | (go_at_call 17; (with_reducible refine (mparse_as PW PH pts E a3 nx c3' ys _ HY3.out hnc3 hcm3 (by omega) HN3.out HM).mono ?_); rintro o w4 ⟨a4, c4, rfl, ho4, hb4⟩; have HO4 := Hk.mk ho4; have HB34 : Hk (Below w3.heap.size w3 (w4.alloc (.cells #[.int .i64 PW, .int .i64 PH, .slice a4 pts.length c4] 26))) := ⟨hb4.alloc hb4.size _⟩; have HB4 := Hk.mk (HB3.out.trans (HB34.out.mono HB3.out.size)); have HZ4 : Hk (w3.heap.size ≤ w4.heap.size) := ⟨hb4.size⟩; have HG4 : Hk (∀ X, Below (w4.alloc (.cells #[.int .i64 PW, .int .i64 PH, .slice a4 pts.length c4] 26)).heap.size (w4.alloc (.cells #[.int .i64 PW, .int .i64 PH, .slice a4 pts.length c4] 26)) X → X.cell? ⟨w4.heap.size, 0, none⟩ = some (.int .i64 PW) ∧ X.cell? ⟨w4.heap.size, 1, none⟩ = some (.int .i64 PH) ∧ X.cell? ⟨w4.heap.size, 2, none⟩ = some (.slice a4 pts.length c4)) := ⟨fun X hX => ⟨(hX.cell (p := ⟨w4.heap.size, 0, none⟩) (by simp)).trans (by go_simp), (hX.cell (p := ⟨w4.heap.size, 1, none⟩) (by simp)).trans (by go_simp), (hX.cell (p := ⟨w4.heap.size, 2, none⟩) (by simp)).trans (by go_simp)⟩⟩; clear ho4 hb4; clear c0 c1 c2 c3; obtain ⟨c0, c1, c2, c3⟩ := HCX.out _ HB4.out) | (go_at_call 18; (with_reducible refine (rmparse_as PW PH pts E ax nx cx ys _ (HXX.out _ HB4.out) HBX.out.nc HBX.out.cm (by omega) HBX.out.an HM).mono ?_); rintro o w5 ⟨a5, c5, rfl, ho5, hb5⟩; have HO5 := Hk.mk ho5; have HB45 : Hk (Below (w4.alloc (.cells #[.int .i64 PW, .int .i64 PH, .slice a4 pts.length c4] 26)).heap.size (w4.alloc (.cells #[.int .i64 PW, .int .i64 PH, .slice a4 pts.length c4] 26)) (w5.alloc (.cells #[.int .i64 PW, .int .i64 PH, .slice a5 pts.length c5] 26))) := ⟨hb5.alloc hb5.size _⟩; have HB5 := Hk.mk (HB4.out.trans (HB45.out.mono HB4.out.size)); have HZ5 : Hk (w4.heap.size < w5.heap.size) := ⟨by have h1 := hb5.size; simp at h1; omega⟩; clear ho5 hb5; clear c0 c1 c2 c3; obtain ⟨c0, c1, c2, c3⟩ := HCX.out _ HB5.out; obtain ⟨u0, u1, u2⟩ := HG4.out _ HB45.out; have hx5 : w4.heap.size < w5.heap.size := HZ5.out) | (go_at_call 11; (with_reducible refine (lawnum7_any _ _).mono ?_); rintro e w' ⟨rfl, rfl⟩) | (go_at_call 14; (with_reducible refine (eqg_yes PW PH PW PH a4 a5 pts.length pts.length c4 c5 pts pts _ ?_ ?_ ⟨⟨rfl, rfl, rfl⟩⟩ ?_).mono ?_); (exact ((HO4.out.byS.below (((Below.refl _ _).alloc (Nat.le_refl _) (.cells #[.int .i64 PW, .int .i64 PH, .slice a4 pts.length c4] 26)).trans (HB45.out.mono (by simp))) (Nat.le_refl _)).mono (by have h1 := HB45.out.size; simp at h1 ⊢; omega))); (exact ((HO5.out.byS.below ((Below.refl _ _).alloc (Nat.le_refl _) _) (Nat.le_refl _)).mono (by simp))); (have := HPL.out; omega); rintro e w6 ⟨rfl, hb6⟩; have HB6' := Hk.mk hb6; have HB6 := Hk.mk (HB5.out.trans (hb6.mono HB5.out.size)); clear hb6; clear c0 c1 c2 c3; obtain ⟨c0, c1, c2, c3⟩ := HCX.out _ HB6.out; clear u0 u1 u2; obtain ⟨u0, u1, u2⟩ := HG4.out _ (HB45.out.trans (HB6'.out.mono HB45.out.size))) | (go_at_call 12; (with_reducible refine (eqb7 a3 ax nx nx c3' cx ys ys _ ?_ ?_ ⟨rfl⟩ ?_).mono ?_); (exact HY3X.out _ HB38.out); (exact HXX.out _ HB8.out); (omega); rintro e w7 ⟨rfl, mm, rfl⟩) | (go_at_call 12; (with_reducible refine (eqb7 a3 ax nx nx c3' cx ys ys _ ?_ ?_ ⟨rfl⟩ ?_).mono ?_); (exact HY3X.out _ (HB34.out.trans ((HB45.out.trans (HB6'.out.mono HB45.out.size)).mono HB34.out.size))); (exact HXX.out _ HB6.out); (omega); rintro e w7 ⟨rfl, mm, rfl⟩) | (go_at_call 19; (with_reducible refine (lawbytes_any w3 _ (.slice a4 pts.length c4) pts.length pts ?_ ?_ ?_).mono ?_); (exact ((HO4.out.below (((Below.refl _ _).alloc (Nat.le_refl _) (.cells #[.int .i64 PW, .int .i64 PH, .slice a4 pts.length c4] 26)).trans ((HB45.out.trans (HB6'.out.mono HB45.out.size)).mono (by simp)))).drewN mm)); (exact (HB34.out.trans ((HB45.out.trans (HB6'.out.mono HB45.out.size)).mono HB34.out.size)).size); (have := HPL.out; omega); rintro e w8 ⟨rfl, hb8⟩; have HB38 : Hk (Below w3.heap.size w3 w8) := ⟨(below_drewN (HB34.out.trans ((HB45.out.trans (HB6'.out.mono HB45.out.size)).mono HB34.out.size)) mm).trans hb8⟩; have HB8 := Hk.mk (HB3.out.trans (HB38.out.mono HB3.out.size)); clear hb8; clear c0 c1 c2 c3; obtain ⟨c0, c1, c2, c3⟩ := HCX.out _ HB8.out))
        exact ⟨⟨j + 1, by go_num, by omega, by omega, ⟨below_drewN (HB0.out.trans (HB8.out.mono hwz)) _⟩⟩, by simp [intOf]; omega⟩
    · go_wp2_with (go_at_call 15; (with_reducible refine (wakes7_any _).mono ?_); rintro e w' ⟨rfl, hb⟩)
      all_goals
        go_ret
        exact ⟨rfl, HB0.out.trans (hb.mono HB0.out.size)⟩

theorem mapcodeParses_own : ownKnob Try.prog.godebug = none := by kernel_rfl
theorem mapcodeParses_laidOut : laidOutB Try.prog = true := by kernel_rfl
set_option maxRecDepth 100000 in
theorem mapcodeParses_lifted (os : Os) (started : os.Started) (H : Type) (enc : TypeId × Value → H) :
    ReturnsInHanded {} Try.checked os 4 .any (Rows.mapcodeParsesSpec.pre6 enc Try.prog Try.f4 Rows.mapcodeParsesRow.domain false) (Rows.mapcodeParsesSpec.post enc Try.prog Try.f4 false true false false) := by
  refine returnsInHanded_of_change (C := Try.checked) mapcodeParses_own started (by kernel_rfl) Try.func4
    (ChangeSpec.witness6 (enc := enc) (C := Try.checked) false ⟨#[], #[.slice none 0 0], []⟩ 8 (by kernel_rfl) (by kernel_rfl) (by kernel_rfl) (by kernel_rfl)) ?_
  intro W base args ds gs before hval0 hW hcnd _
  have hval : ∀ (j : Nat) t v, Try.f4.params[j]? = some t → args[j]? = some v → Value.okWide Try.prog W .any base t v := hval0
  have hW' := hW
  obtain ⟨p, q, hA0, hV, rfl, hfz, hnd⟩ := hW
  have hA : DataW.TrodAll enc Try.prog W 0 (fun _ => true) true Try.f4.params.toList args.toList ds p := hA0
  rw [Try.params4] at hA hval
  obtain ⟨v0, vs0, d0, ds0, p0, q0, hargs, rfl, rfl, h0, r0⟩ := trodAll_cons hA
  obtain ⟨rfl, rfl, rfl⟩ := trodAll_nil r0
  obtain rfl : args = #[v0] := by cases args; simp_all
  obtain ⟨rfl, rfl⟩ := trodVars_none hV
  obtain ⟨a0, len0, cap0, rfl⟩ := okWide_slice Try.underlying22 (hval 0 22 v0 rfl rfl)
  have k0 := h0
  have lt0 : ∀ x ∈ p0, x.block < W.heap.size := by obtain ⟨m, hm⟩ := k0; exact DataW.trod_lt m _ _ _ hm
  have rows : Asks7 W a0 len0 cap0 := by obtain ⟨fuel, hf⟩ := h0; exact asks7_of hf
  clear hA0 hval0
  refine (mapcodeParses_walk a0 len0 cap0 W rows).mono fun e W' ⟨he, bel⟩ => ?_
  subst he
  exact ⟨_, rfl, _, _, _, [], _, [], hW', trodAll_mk1 (shut_bool Try.underlying4 _), (trodAll_cons_mk (Below.trod mapcodeParses_laidOut (by kernel_rfl) (of_decide_eq_true (by kernel_rfl)) k0 bel lt0) trodAll_mk0), rfl, bel.frame _, fun h => by cases h⟩
theorem mapcodeParses_over : Rows.mapcodeParsesRow.holds Try.pinned (OpenSpec.ofChange Rows.mapcodeParsesSpec) :=
  OpenClaim.holds_of_wide 4 Try.f4 rfl rfl rfl rfl rfl rfl rfl ⟨rfl, rfl, rfl, rfl, rfl⟩ rfl rfl rfl rfl rfl (by kernel_rfl) Try.func4 (by kernel_rfl)
    (of_decide_eq_true (by kernel_rfl)) (by unfold Func.isWrapper; first | (rw [if_pos (by decide +kernel)]; kernel_rfl) | (rw [if_neg (by decide +kernel)]; exact ⟨rfl, rfl⟩))
    (fun os started H enc _ => mapcodeParses_lifted os started H enc)
/-- The given statement of MapcodeParses. -/
theorem mapcodeParses_holds : Rows.MapcodeParsesSaid := mapcodeParses_over
end Go.Proofs.Ytmkehmeoglpkeaa
