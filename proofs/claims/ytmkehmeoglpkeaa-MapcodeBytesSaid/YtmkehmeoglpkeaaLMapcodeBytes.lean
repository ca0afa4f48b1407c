/- For every list, MapcodeBytes answers true and leaves its argument as it was: any ground's bytes are the page's, or refused. No condition. -/
import Derived.Test.YtmkehmeoglpkeaaMph
import Derived.Test.YtmkehmeoglpkeaaMpc
import Derived.Deep.RegionWith
import Derived.Deep.QuietTactic
import Derived.BigQuiet
import Derived.Deep.RegionWith
import Derived.Deep.RegionHeld3
namespace Go.Proofs.Ytmkehmeoglpkeaa
open Go.ChangeShapes Go.WideShapes Go.ChangeAt Go.RowKit Go.Deep
set_option linter.unusedVariables false
set_option maxRecDepth 100000 in
set_option maxHeartbeats 3200000 in
theorem mapcodeBytes_walk (a0 : Option Addr) (len cap : Nat) (w : World) (rows : Asks7 w a0 len cap) :
    Calls Try.prog 3 #[.slice a0 len cap] w fun e w' => e = .returned (.bool true) ∧ Below w.heap.size w w' := by
  obtain ⟨hl, hm, hall⟩ := rows
  have HALL := Hk.mk hall
  clear hall
  go_enter Try.func3, Try.ntmps3
  go_wp2
  go_loopw [3] (fun i wr => ∃ (j : Nat), i = .int .i64 j ∧ j ≤ len ∧ j ≤ 6 ∧ Hk (Below w.heap.size w wr)) (fun i _ => 6 - (intOf i).toNat)
  case atStart => exact ⟨0, rfl, by omega, by omega, ⟨Below.refl _ _⟩⟩
  case round =>
    obtain ⟨j, rfl, hj, hj2, HB0⟩ := hrel
    by_cases hlt : j < len ∧ j < 6
    · obtain ⟨g1, g2⟩ := hlt
      obtain ⟨b, off, W, H, ag, ng, cg, xs, ax, nx, cx, ys, rfl, hbl, hbg, hbx, k0, k1, k2, k3⟩ := HALL.out j (by omega)
      have hwz := HB0.out.size
      have hbr : b < wr.heap.size := by omega
      have HCX : Hk (∀ X, Below wr.heap.size wr X → X.cell? ⟨b, off + j * 4, none⟩ = some (.int .i64 W) ∧ X.cell? ⟨b, off + j * 4 + 1, none⟩ = some (.int .i64 H) ∧ X.cell? ⟨b, off + j * 4 + 2, none⟩ = some (.slice ag ng cg) ∧ X.cell? ⟨b, off + j * 4 + 3, none⟩ = some (.slice ax nx cx)) :=
        ⟨fun X hX => ⟨((HB0.out.trans (hX.mono hwz)).cell (p := ⟨b, off + j * 4, none⟩) hbl).trans k0, ((HB0.out.trans (hX.mono hwz)).cell (p := ⟨b, off + j * 4 + 1, none⟩) hbl).trans k1, ((HB0.out.trans (hX.mono hwz)).cell (p := ⟨b, off + j * 4 + 2, none⟩) hbl).trans k2, ((HB0.out.trans (hX.mono hwz)).cell (p := ⟨b, off + j * 4 + 3, none⟩) hbl).trans k3⟩⟩
      have HGX : Hk (∀ X, Below wr.heap.size wr X → By X X.heap.size ag ng xs) := ⟨fun X hX => hbg.all (HB0.out.trans (hX.mono hwz))⟩
      have HXX : Hk (∀ X, Below wr.heap.size wr X → By X X.heap.size ax nx ys) := ⟨fun X hX => hbx.all (HB0.out.trans (hX.mono hwz))⟩
      have HBG := Hk.mk hbg
      have HBX := Hk.mk hbx
      obtain ⟨c0, c1, c2, c3⟩ := HCX.out _ (Below.refl _ _)
      clear k0 k1 k2 k3 hbg hbx
      have i1 : (0 : Int) ≤ (j : Int) := by omega
      have i2 : (j : Int) < (len : Int) := by omega
      cases hv : decide (3000 < ng ∨ 5000 < nx)
      case true =>
        have HV := Hk.mk hv
        clear hv
        go_wp2_with (go_at_call 7; (with_reducible refine (heavy7_as true W H ag ax ng cg nx cx _ HV).mono ?_); rintro e w2 ⟨rfl, hb2⟩; have HB2 := Hk.mk hb2; clear hb2; clear c0 c1 c2 c3; obtain ⟨c0, c1, c2, c3⟩ := HCX.out _ HB2.out)
        go_ret
        exact ⟨rfl, HB0.out.trans (HB2.out.mono hwz)⟩
      case false =>
        have HV := Hk.mk hv
        obtain ⟨hng, hnx⟩ : ng ≤ 3000 ∧ nx ≤ 5000 := by simp at hv; omega
        clear hv
        by_cases hg : GOk W H ng xs
        · have HEB : Hk (gB W H ng xs = true) := ⟨gB_yes hg⟩
          have HG := Hk.mk hg
          clear hg
          go_wp2_with (first | (go_at_call 7; (with_reducible refine (heavy7_as false W H ag ax ng cg nx cx _ HV).mono ?_); rintro e w2 ⟨rfl, hb2⟩; have HB2 := Hk.mk hb2; clear hb2; clear c0 c1 c2 c3; obtain ⟨c0, c1, c2, c3⟩ := HCX.out _ HB2.out) | (go_at_call 8; (with_reducible refine (copyg_any W H ag ng cg xs _ (HGX.out _ HB2.out) (by omega)).mono ?_); rintro e w3 ⟨a3, c3', rfl, ho3, hb3⟩; have HO3 := Hk.mk ho3; have HB3 := Hk.mk (HB2.out.trans (hb3.mono HB2.out.size)); have HB3' : Hk (Below wr.heap.size wr (w3.alloc (.cells #[.int .i64 W, .int .i64 H, .slice a3 ng c3'] 26))) := ⟨HB3.out.alloc HB3.out.size _⟩; have HY3 : Hk (By (w3.alloc (.cells #[.int .i64 W, .int .i64 H, .slice a3 ng c3'] 26)) (w3.alloc (.cells #[.int .i64 W, .int .i64 H, .slice a3 ng c3'] 26)).heap.size a3 ng xs) := ⟨(ho3.byS.below ((Below.refl _ _).alloc (Nat.le_refl _) _) (Nat.le_refl _)).mono (by simp)⟩; have hx3 : w3.heap.size < (w3.alloc (.cells #[.int .i64 W, .int .i64 H, .slice a3 ng c3'] 26)).heap.size := (by simp); clear ho3 hb3; clear c0 c1 c2 c3; obtain ⟨c0, c1, c2, c3⟩ := HCX.out _ HB3'.out) | (go_at_call 9; (with_reducible refine (mbytes_yes W H a3 ng c3' xs _ HY3.out HO3.out.anm HG).mono ?_); rintro e w4 ⟨v4, rfl, ho4, hb4⟩; obtain ⟨a4, c4, rfl, -, hby4, -⟩ := ho4.by_; have HY4 := Hk.mk hby4; have HB4' := Hk.mk hb4; have HB4 := Hk.mk (HB3'.out.trans (hb4.mono HB3'.out.size)); clear ho4 hb4 hby4; clear c0 c1 c2 c3; obtain ⟨c0, c1, c2, c3⟩ := HCX.out _ HB4.out) | (go_at_call 10; (with_reducible refine (rgr_as true W H ag ng cg _ xs _ (HGX.out _ HB4.out) (Nat.le_refl _) (by omega) HEB).mono ?_); rintro e w5 ⟨rfl, hb5⟩; have HB5' := Hk.mk hb5; have HB5 := Hk.mk (HB4.out.trans (hb5.mono HB4.out.size)); clear hb5; clear c0 c1 c2 c3; obtain ⟨c0, c1, c2, c3⟩ := HCX.out _ HB5.out))
          have HD5 : Hk (Below (w3.alloc (.cells #[.int .i64 W, .int .i64 H, .slice a3 ng c3'] 26)).heap.size (w3.alloc (.cells #[.int .i64 W, .int .i64 H, .slice a3 ng c3'] 26)) w5) := ⟨HB4'.out.trans (HB5'.out.mono HB4'.out.size)⟩
          have HY5 : Hk (By w5 w5.heap.size a4 (Mp.mapL W H xs).length (Mp.mapL W H xs)) := ⟨(HY4.out.below HB5'.out (Nat.le_refl _)).mono HB5'.out.size⟩
          have HDX : Hk (∀ X, Below (w3.alloc (.cells #[.int .i64 W, .int .i64 H, .slice a3 ng c3'] 26)).heap.size (w3.alloc (.cells #[.int .i64 W, .int .i64 H, .slice a3 ng c3'] 26)) X → X.cell? ⟨w3.heap.size, 0, none⟩ = some (.int .i64 W) ∧ X.cell? ⟨w3.heap.size, 1, none⟩ = some (.int .i64 H) ∧ X.cell? ⟨w3.heap.size, 2, none⟩ = some (.slice a3 ng c3')) :=
            ⟨fun X hX => ⟨(hX.cell (p := ⟨w3.heap.size, 0, none⟩) (by simp)).trans (by go_simp), (hX.cell (p := ⟨w3.heap.size, 1, none⟩) (by simp)).trans (by go_simp), (hX.cell (p := ⟨w3.heap.size, 2, none⟩) (by simp)).trans (by go_simp)⟩⟩
          obtain ⟨y0, y1, y2⟩ := HDX.out _ HD5.out
          have HLN : Hk ((Mp.mapL W H xs).length ≤ 1099511627776) := ⟨mapL_bd HG.out (by have := HY3.out.len; omega)⟩
          clear HB4' HB5' HB2 HB3 HB3' HB4 HY4 HO3
          go_region_with (first | (go_at_call 11; (with_reducible refine (lawnum7_any _ _).mono ?_); rintro e w' ⟨rfl, rfl⟩) | (go_at_call 13; (with_reducible refine (rbytes_map W H ag ng cg xs _ ?_ HBG.out.an HG).mono ?_); (exact HGX.out _ (HB5.out.drew)); rintro e w6 ⟨v6, rfl, ho6, hb6⟩; obtain ⟨a6, c6, rfl, -, hby6, -⟩ := ho6.by_; have HY6 := Hk.mk hby6; have HB6 := Hk.mk (HB5.out.drew.trans (hb6.mono HB5.out.drew.size)); have HD6 := Hk.mk (HD5.out.drew.trans (hb6.mono HD5.out.drew.size)); have HY46 : Hk (By w6 w6.heap.size a4 (Mp.mapL W H xs).length (Mp.mapL W H xs)) := ⟨(HY5.out.drew.below hb6 (Nat.le_refl _)).mono hb6.size⟩; clear ho6 hb6 hby6; obtain ⟨q0, q1, q2, q3⟩ := HCX.out _ HB6.out; obtain ⟨y0, y1, y2⟩ := HDX.out _ HD6.out) | (go_at_call 12; (with_reducible refine (eqb7 a4 a6 _ _ c4 c6 (Mp.mapL W H xs) (Mp.mapL W H xs) _ HY46.out HY6.out ⟨rfl⟩ ?_).mono ?_); (exact HLN.out); rintro e w7 ⟨rfl, m7, rfl⟩) | (go_at_call 14; (with_reducible refine (eqg_yes W H W H a3 ag ng ng c3' cg xs xs _ ?_ ?_ ⟨⟨rfl, rfl, rfl⟩⟩ ?_).mono ?_); (exact ((HY3.out.below HD6.out (Nat.le_refl _)).mono HD6.out.size).drewN m7); (exact (HGX.out _ HB6.out).drewN m7); (omega); rintro e w8 ⟨rfl, hb8⟩; have HB8 := Hk.mk ((below_drewN HB6.out m7).trans (hb8.mono HB6.out.size)); clear hb8))
          all_goals
            go_wp2
            exact ⟨⟨j + 1, by go_num, by omega, by omega, ⟨HB0.out.trans (HB8.out.mono hwz)⟩⟩, by simp [intOf]; omega⟩
        · have HEB : Hk (gB W H ng xs = false) := ⟨gB_no hg⟩
          have HE : Hk (gE W H ng xs = 1) := ⟨gE_no hg⟩
          clear hg
          go_wp2_with (first | (go_at_call 7; (with_reducible refine (heavy7_as false W H ag ax ng cg nx cx _ HV).mono ?_); rintro e w2 ⟨rfl, hb2⟩; have HB2 := Hk.mk hb2; clear hb2; clear c0 c1 c2 c3; obtain ⟨c0, c1, c2, c3⟩ := HCX.out _ HB2.out) | (go_at_call 8; (with_reducible refine (copyg_any W H ag ng cg xs _ (HGX.out _ HB2.out) (by omega)).mono ?_); rintro e w3 ⟨a3, c3', rfl, ho3, hb3⟩; have HO3 := Hk.mk ho3; have HB3 := Hk.mk (HB2.out.trans (hb3.mono HB2.out.size)); have HB3' : Hk (Below wr.heap.size wr (w3.alloc (.cells #[.int .i64 W, .int .i64 H, .slice a3 ng c3'] 26))) := ⟨HB3.out.alloc HB3.out.size _⟩; have HY3 : Hk (By (w3.alloc (.cells #[.int .i64 W, .int .i64 H, .slice a3 ng c3'] 26)) (w3.alloc (.cells #[.int .i64 W, .int .i64 H, .slice a3 ng c3'] 26)).heap.size a3 ng xs) := ⟨(ho3.byS.below ((Below.refl _ _).alloc (Nat.le_refl _) _) (Nat.le_refl _)).mono (by simp)⟩; have hx3 : w3.heap.size < (w3.alloc (.cells #[.int .i64 W, .int .i64 H, .slice a3 ng c3'] 26)).heap.size := (by simp); clear ho3 hb3; clear c0 c1 c2 c3; obtain ⟨c0, c1, c2, c3⟩ := HCX.out _ HB3'.out) | (go_at_call 9; (with_reducible refine (mbytes_no W H a3 ng c3' xs _ HY3.out (by omega) HE).mono ?_); rintro e w4 ⟨rfl, hb4⟩; have HB4' := Hk.mk hb4; have HB4 := Hk.mk (HB3'.out.trans (hb4.mono HB3'.out.size)); clear hb4; clear c0 c1 c2 c3; obtain ⟨c0, c1, c2, c3⟩ := HCX.out _ HB4.out) | (go_at_call 10; (with_reducible refine (rgr_as false W H ag ng cg _ xs _ (HGX.out _ HB4.out) (Nat.le_refl _) (by omega) HEB).mono ?_); rintro e w5 ⟨rfl, hb5⟩; have HB5' := Hk.mk hb5; have HB5 := Hk.mk (HB4.out.trans (hb5.mono HB4.out.size)); clear hb5; clear c0 c1 c2 c3; obtain ⟨c0, c1, c2, c3⟩ := HCX.out _ HB5.out) | (go_at_call 11; (with_reducible refine (lawnum7_any _ _).mono ?_); rintro e w' ⟨rfl, rfl⟩))
          exact ⟨⟨j + 1, by go_num, by omega, by omega, ⟨HB0.out.trans (HB5.out.mono hwz)⟩⟩, by simp [intOf]; omega⟩
    · go_wp2_with (go_at_call 15; (with_reducible refine (wakes7_any _).mono ?_); rintro e w' ⟨rfl, hb⟩)
      all_goals
        go_ret
        exact ⟨rfl, HB0.out.trans (hb.mono HB0.out.size)⟩

theorem mapcodeBytes_own : ownKnob Try.prog.godebug = none := by kernel_rfl
theorem mapcodeBytes_laidOut : laidOutB Try.prog = true := by kernel_rfl
set_option maxRecDepth 100000 in
theorem mapcodeBytes_lifted (os : Os) (started : os.Started) (H : Type) (enc : TypeId × Value → H) :
    ReturnsInHanded {} Try.checked os 3 .any (Rows.mapcodeBytesSpec.pre6 enc Try.prog Try.f3 Rows.mapcodeBytesRow.domain false) (Rows.mapcodeBytesSpec.post enc Try.prog Try.f3 false true false false) := by
  refine returnsInHanded_of_change (C := Try.checked) mapcodeBytes_own started (by kernel_rfl) Try.func3
    (ChangeSpec.witness6 (enc := enc) (C := Try.checked) false ⟨#[], #[.slice none 0 0], []⟩ 8 (by kernel_rfl) (by kernel_rfl) (by kernel_rfl) (by kernel_rfl)) ?_
  intro W base args ds gs before hval0 hW hcnd _
  have hval : ∀ (j : Nat) t v, Try.f3.params[j]? = some t → args[j]? = some v → Value.okWide Try.prog W .any base t v := hval0
  have hW' := hW
  obtain ⟨p, q, hA0, hV, rfl, hfz, hnd⟩ := hW
  have hA : DataW.TrodAll enc Try.prog W 0 (fun _ => true) true Try.f3.params.toList args.toList ds p := hA0
  rw [Try.params3] at hA hval
  obtain ⟨v0, vs0, d0, ds0, p0, q0, hargs, rfl, rfl, h0, r0⟩ := trodAll_cons hA
  obtain ⟨rfl, rfl, rfl⟩ := trodAll_nil r0
  obtain rfl : args = #[v0] := by cases args; simp_all
  obtain ⟨rfl, rfl⟩ := trodVars_none hV
  obtain ⟨a0, len0, cap0, rfl⟩ := okWide_slice Try.underlying22 (hval 0 22 v0 rfl rfl)
  have k0 := h0
  have lt0 : ∀ x ∈ p0, x.block < W.heap.size := by obtain ⟨m, hm⟩ := k0; exact DataW.trod_lt m _ _ _ hm
  have rows : Asks7 W a0 len0 cap0 := by obtain ⟨fuel, hf⟩ := h0; exact asks7_of hf
  clear hA0 hval0
  refine (mapcodeBytes_walk a0 len0 cap0 W rows).mono fun e W' ⟨he, bel⟩ => ?_
  subst he
  exact ⟨_, rfl, _, _, _, [], _, [], hW', trodAll_mk1 (shut_bool Try.underlying4 _), (trodAll_cons_mk (Below.trod mapcodeBytes_laidOut (by kernel_rfl) (of_decide_eq_true (by kernel_rfl)) k0 bel lt0) trodAll_mk0), rfl, bel.frame _, fun h => by cases h⟩
theorem mapcodeBytes_over : Rows.mapcodeBytesRow.holds Try.pinned (OpenSpec.ofChange Rows.mapcodeBytesSpec) :=
  OpenClaim.holds_of_wide 3 Try.f3 rfl rfl rfl rfl rfl rfl rfl ⟨rfl, rfl, rfl, rfl, rfl⟩ rfl rfl rfl rfl rfl (by kernel_rfl) Try.func3 (by kernel_rfl)
    (of_decide_eq_true (by kernel_rfl)) (by unfold Func.isWrapper; first | (rw [if_pos (by decide +kernel)]; kernel_rfl) | (rw [if_neg (by decide +kernel)]; exact ⟨rfl, rfl⟩))
    (fun os started H enc _ => mapcodeBytes_lifted os started H enc)
/-- The given statement of MapcodeBytes. -/
theorem mapcodeBytes_holds : Rows.MapcodeBytesSaid := mapcodeBytes_over
end Go.Proofs.Ytmkehmeoglpkeaa
