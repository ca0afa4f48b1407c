/- For every list, VecSquares answers true and leaves its argument as it was: a small way's length is the root of its squares, rounded down. No condition. -/
import Derived.Test.YtdammgpflfoppabVecn
import Derived.Deep.QuietTactic
import Derived.BigQuiet
import Derived.Deep.RegionWith
import Derived.Deep.RegionHeld3
namespace Go.Proofs.Ytdammgpflfoppab
open Go.ChangeShapes Go.WideShapes Go.ChangeAt Go.RowKit Go.Deep
set_option linter.unusedVariables false
set_option maxRecDepth 100000 in
set_option maxHeartbeats 1600000 in
theorem vecSquares_walk (a : Option Addr) (len cap : Nat) (w : World) (rows : Asks2 w a len cap) :
    Calls Try.prog 6 #[.slice a len cap] w fun e w' => e = .returned (.bool true) ∧ Below w.heap.size w w' := by
  obtain ⟨hl, hm, hall⟩ := rows
  have HALL := Fx.Hd.mk hall
  clear hall
  go_enter Try.func6, Try.ntmps6
  go_wp2
  go_loopw [3, 4, 5, 6, 7, 8] (fun i _ _ _ _ _ wr => ∃ (k : Nat), i = .int .i64 k ∧ k ≤ len ∧ k ≤ 30 ∧ Fx.Hd (Below w.heap.size w wr)) (fun i _ _ _ _ _ _ => 30 - (intOf i).toNat)
  case atStart => exact ⟨0, rfl, by omega, by omega, ⟨Below.refl _ _⟩⟩
  case round =>
    obtain ⟨k, rfl, hk, hk2, HB⟩ := hrel
    by_cases hlt : k < len ∧ k < 30
    · obtain ⟨g1, g2⟩ := hlt
      obtain ⟨b, off, x, y, u, v, z, rfl, hbl, hx, hy, hu, hv, hz, c0, c1, c2, c3, c4⟩ := HALL.out k g1
      have d0 := (HB.out.cell (p := ⟨b, off + k * 5, none⟩) hbl).trans c0
      have d1 := (HB.out.cell (p := ⟨b, off + k * 5 + 1, none⟩) hbl).trans c1
      have d2 := (HB.out.cell (p := ⟨b, off + k * 5 + 2, none⟩) hbl).trans c2
      have d3 := (HB.out.cell (p := ⟨b, off + k * 5 + 3, none⟩) hbl).trans c3
      have d4 := (HB.out.cell (p := ⟨b, off + k * 5 + 4, none⟩) hbl).trans c4
      have hbw : b < wr.heap.size := Nat.lt_of_lt_of_le hbl HB.out.size
      have C4 := Fx.Hd.mk c4
      clear c0 c1 c2 c3 c4
      have bX := Fx.tmod_bd x 1073741824 (by omega)
      have bY := Fx.tmod_bd y 1073741824 (by omega)
      have bZ := Fx.tmod_bd z 1073741824 (by omega)
      go_wp2
      go_quiet (fail)
      rename_i nq
      replace HB : Fx.Hd (Below w.heap.size w (wr.drewN nq)) := ⟨below_drewN HB.out nq⟩
      generalize x.tmod 1073741824 = X at *
      generalize y.tmod 1073741824 = Y at *
      obtain ⟨Z, hZ⟩ : ∃ Z, z.tmod 1073741824 = Z := ⟨_, rfl⟩
      rw [hZ] at bZ
      obtain ⟨_, x0, x1⟩ := Fx.sz_sq bX
      obtain ⟨_, y0, y1⟩ := Fx.sz_sq bY
      obtain ⟨_, z0, z1⟩ := Fx.sz_sq bZ
      obtain ⟨n0, n1, n2, n3, n4, n5⟩ := Fx.small_len bX bY
      have sw := Fx.small_within (Z := Z) bX bY
      have iX : Fx.I64 X := Fx.i64_small bX (by omega)
      have iY : Fx.I64 Y := Fx.i64_small bY (by omega)
      have iZ : Fx.I64 Z := Fx.i64_small bZ (by omega)
      have j0 : Fx.I64 0 := by unfold Fx.I64; omega
      by_cases q1 : 0 ≤ Z
      · by_cases q2 : X * X + Y * Y < Z * Z
        · have G : Fx.Hd (Fx.withinS X 0 0 Y Z = true) := ⟨by rw [sw]; simp [q1, q2]⟩
          clear sw
          go_wp2_with (first | (go_at_call 20; (with_reducible refine (up (len_any X Y _ iX iY) HB).mono ?_); clear HB; rintro e w' ⟨rfl, HB⟩; have d4 := (HB.out.cell (p := ⟨b, off + k * 5 + 4, none⟩) hbl).trans C4.out) | (go_at_call 21; (with_reducible refine (up (within_as X 0 0 Y Z true _ iX j0 j0 iY iZ G) HB).mono ?_); clear HB; rintro e w' ⟨rfl, HB⟩))
          refine ⟨⟨k + 1, by go_num, by omega, by omega, HB⟩, by simp [intOf]; omega⟩

        · have G : Fx.Hd (Fx.withinS X 0 0 Y Z = false) := ⟨by rw [sw]; simp [q1, q2]⟩
          clear sw
          go_wp2_with (first | (go_at_call 20; (with_reducible refine (up (len_any X Y _ iX iY) HB).mono ?_); clear HB; rintro e w' ⟨rfl, HB⟩; have d4 := (HB.out.cell (p := ⟨b, off + k * 5 + 4, none⟩) hbl).trans C4.out) | (go_at_call 21; (with_reducible refine (up (within_as X 0 0 Y Z false _ iX j0 j0 iY iZ G) HB).mono ?_); clear HB; rintro e w' ⟨rfl, HB⟩))
          refine ⟨⟨k + 1, by go_num, by omega, by omega, HB⟩, by simp [intOf]; omega⟩

      · have G : Fx.Hd (Fx.withinS X 0 0 Y Z = false) := ⟨by rw [sw]; simp [q1]⟩
        clear sw
        go_wp2_with (first | (go_at_call 20; (with_reducible refine (up (len_any X Y _ iX iY) HB).mono ?_); clear HB; rintro e w' ⟨rfl, HB⟩; have d4 := (HB.out.cell (p := ⟨b, off + k * 5 + 4, none⟩) hbl).trans C4.out) | (go_at_call 21; (with_reducible refine (up (within_as X 0 0 Y Z false _ iX j0 j0 iY iZ G) HB).mono ?_); clear HB; rintro e w' ⟨rfl, HB⟩))
        refine ⟨⟨k + 1, by go_num, by omega, by omega, HB⟩, by simp [intOf]; omega⟩


    · go_wp2_with (first | (go_at_call 20; (first | (with_reducible refine (up (k_len1 _) HB).mono ?_) | (with_reducible refine (up (k_len2 _) HB).mono ?_)); clear HB; rintro e w' ⟨rfl, HB⟩) | (go_at_call 17; (with_reducible refine (up (wakes2_any _) HB).mono ?_); clear HB; rintro e w' ⟨rfl, HB⟩))
      all_goals
        go_ret
        exact ⟨rfl, HB.out⟩

theorem vecSquares_own : ownKnob Try.prog.godebug = none := by kernel_rfl
theorem vecSquares_laidOut : laidOutB Try.prog = true := by kernel_rfl
set_option maxRecDepth 100000 in
theorem vecSquares_lifted (os : Os) (started : os.Started) (H : Type) (enc : TypeId × Value → H) :
    ReturnsInHanded {} Try.checked os 6 .any (Rows.vecSquaresSpec.pre6 enc Try.prog Try.f6 Rows.vecSquaresRow.domain false) (Rows.vecSquaresSpec.post enc Try.prog Try.f6 false true false false) := by
  refine returnsInHanded_of_change (C := Try.checked) vecSquares_own started (by kernel_rfl) Try.func6
    (ChangeSpec.witness6 (enc := enc) (C := Try.checked) false ⟨#[], #[.slice none 0 0], []⟩ 8 (by kernel_rfl) (by kernel_rfl) (by kernel_rfl) (by kernel_rfl)) ?_
  intro W base args ds gs before hval0 hW hcnd _
  have hval : ∀ (j : Nat) t v, Try.f6.params[j]? = some t → args[j]? = some v → Value.okWide Try.prog W .any base t v := hval0
  have hW' := hW
  obtain ⟨p, q, hA0, hV, rfl, hfz, hnd⟩ := hW
  have hA : DataW.TrodAll enc Try.prog W 0 (fun _ => true) true Try.f6.params.toList args.toList ds p := hA0
  rw [Try.params6] at hA hval
  obtain ⟨v0, vs0, d0, ds0, p0, q0, hargs, rfl, rfl, h0, r0⟩ := trodAll_cons hA
  obtain ⟨rfl, rfl, rfl⟩ := trodAll_nil r0
  obtain rfl : args = #[v0] := by cases args; simp_all
  obtain ⟨rfl, rfl⟩ := trodVars_none hV
  obtain ⟨a0, len0, cap0, rfl⟩ := okWide_slice Try.underlying22 (hval 0 22 v0 rfl rfl)
  have k0 := h0
  have lt0 : ∀ x ∈ p0, x.block < W.heap.size := by obtain ⟨m, hm⟩ := k0; exact DataW.trod_lt m _ _ _ hm
  have rows : Asks2 W a0 len0 cap0 := by obtain ⟨fuel, hf⟩ := h0; exact asks2_of hf
  clear hA0 hval0
  refine (vecSquares_walk a0 len0 cap0 W rows).mono fun e W' ⟨he, bel⟩ => ?_
  subst he
  exact ⟨_, rfl, _, _, _, [], _, [], hW', trodAll_mk1 (shut_bool Try.underlying4 _), (trodAll_cons_mk (Below.trod vecSquares_laidOut (by kernel_rfl) (of_decide_eq_true (by kernel_rfl)) k0 bel lt0) trodAll_mk0), rfl, bel.frame _, fun h => by cases h⟩
theorem vecSquares_over : Rows.vecSquaresRow.holds Try.pinned (OpenSpec.ofChange Rows.vecSquaresSpec) :=
  OpenClaim.holds_of_wide 6 Try.f6 rfl rfl rfl rfl rfl rfl rfl ⟨rfl, rfl, rfl, rfl, rfl⟩ rfl rfl rfl rfl rfl (by kernel_rfl) Try.func6 (by kernel_rfl)
    (of_decide_eq_true (by kernel_rfl)) (by unfold Func.isWrapper; first | (rw [if_pos (by decide +kernel)]; kernel_rfl) | (rw [if_neg (by decide +kernel)]; exact ⟨rfl, rfl⟩))
    (fun os started H enc _ => vecSquares_lifted os started H enc)
/-- The given statement of VecSquares. -/
theorem vecSquares_holds : Rows.VecSquaresSaid := vecSquares_over
end Go.Proofs.Ytdammgpflfoppab
