/- For every list, CommandParses answers true and leaves its argument as it was: the command with which any bytes begin is the page's, or the error is. No condition. -/
import Derived.Test.YtkffleclofkjmaaCmy
import Derived.Test.YtkffleclofkjmaaCmw
import Derived.ChangeSame
import Derived.Deep.QuietTactic
import Derived.BigQuiet
import Derived.Deep.RegionWith
import Derived.Deep.RegionHeld3
namespace Go.Proofs.Ytkffleclofkjmaa
open Go.ChangeShapes Go.WideShapes Go.ChangeAt Go.RowKit Go.Deep
set_option linter.unusedVariables false
theorem OwnB.cap23 {w : World} {base n c : Nat} {a : Option Addr} {xs : List Int} (h : OwnB w base (.slice a n c) n xs) : c ≤ 9223372036854775807 := by
  rcases h.2.2.2 with ⟨e, _⟩ | ⟨g, cap, cur, e, _, _, _, hm, _⟩
  · injection e with e1 e2 e3; omega
  · injection e with e1 e2 e3; unfold maxLen at hm; omega
theorem OwnB.an23 {w : World} {base n c : Nat} {a : Option Addr} {xs : List Int} (h : OwnB w base (.slice a n c) n xs) : a = none → c = 0 := by
  intro ha
  rcases h.2.2.2 with ⟨e, _⟩ | ⟨g, cap, cur, e, _⟩
  · injection e with e1 e2 e3
  · injection e with e1 e2 e3; rw [ha] at e1; cases e1
theorem own_len {w : World} {base n : Nat} {v : Value} {xs : List Int} (h : OwnI w base v n xs) : xs.length = n := h.1
theorem nq4 {w w' : World} {base m c : Nat} {a : Option Addr} {u : List Int} (h : OwnI w base (.slice a m c) m u) (hb : Below w.heap.size w w') : Nq w' w'.heap.size a m u := by
  obtain ⟨a9, c9, e9, h9, hn9⟩ := h.nq
  injection e9 with e1 e2 e3
  subst e1
  exact (hn9.below hb (Nat.le_refl _)).mono hb.size
set_option maxRecDepth 100000 in
set_option maxHeartbeats 3200000 in
theorem commandParses_walk (a0 : Option Addr) (len cap : Nat) (w : World) (rows : Asks22 w a0 len cap) :
    Calls Try.prog 4 #[.slice a0 len cap] w fun e w' => e = .returned (.bool true) ∧ Below w.heap.size w w' := by
  obtain ⟨hl, hm, hall⟩ := rows
  have HALL := Hk.mk hall
  clear hall
  go_enter Try.func4, Try.ntmps4
  go_wp2
  go_loopw [3] (fun i wr => ∃ (j : Nat), i = .int .i64 j ∧ j ≤ len ∧ j ≤ 10 ∧ Hk (Below w.heap.size w wr)) (fun i _ => 10 - (intOf i).toNat)
  case atStart => exact ⟨0, rfl, by omega, by omega, ⟨Below.refl _ _⟩⟩
  case round =>
    obtain ⟨j, rfl, hj, hj2, HB0⟩ := hrel
    by_cases hlt : j < len ∧ j < 10
    · obtain ⟨g1, g2⟩ := hlt
      obtain ⟨b, off, p, s, k, n, a, m, c, u, t, wd, h, x, y, ax, nx, cx, ys, rfl, hbl, hmm, hnq, ⟨hnx, hcx, hax, hbx⟩, k0, k1, k2, k3, k4, k5, k6, k7, k8, k9, k10⟩ := HALL.out j (by omega)
      have c0 := (HB0.out.cell (p := ⟨b, off + j * 11, none⟩) hbl).trans k0
      have c1 := (HB0.out.cell (p := ⟨b, off + j * 11 + 1, none⟩) hbl).trans k1
      have c2 := (HB0.out.cell (p := ⟨b, off + j * 11 + 2, none⟩) hbl).trans k2
      have c3 := (HB0.out.cell (p := ⟨b, off + j * 11 + 3, none⟩) hbl).trans k3
      have c4 := (HB0.out.cell (p := ⟨b, off + j * 11 + 4, none⟩) hbl).trans k4
      have c5 := (HB0.out.cell (p := ⟨b, off + j * 11 + 5, none⟩) hbl).trans k5
      have c6 := (HB0.out.cell (p := ⟨b, off + j * 11 + 6, none⟩) hbl).trans k6
      have c7 := (HB0.out.cell (p := ⟨b, off + j * 11 + 7, none⟩) hbl).trans k7
      have c8 := (HB0.out.cell (p := ⟨b, off + j * 11 + 8, none⟩) hbl).trans k8
      have c9 := (HB0.out.cell (p := ⟨b, off + j * 11 + 9, none⟩) hbl).trans k9
      have c10 := (HB0.out.cell (p := ⟨b, off + j * 11 + 10, none⟩) hbl).trans k10
      have hsz : wr.heap.size ≤ wr.heap.size := Nat.le_refl _
      have hwz := HB0.out.size
      have hbr : b < wr.heap.size := by omega
      have HB : Hk (Below wr.heap.size wr wr) := ⟨Below.refl _ _⟩
      have hc10 := c10
      have HX10 : Hk (∀ X, Below wr.heap.size wr X → X.cell? ⟨b, off + j * 11 + 10, none⟩ = some (.slice ax nx cx)) := ⟨fun X hX => (hX.cell (p := ⟨b, off + j * 11 + 10, none⟩) hbr).trans hc10⟩
      have HYX : Hk (∀ X, Below wr.heap.size wr X → By X X.heap.size ax nx ys) := ⟨fun X hX => by
        have h1 : Below w.heap.size w X := HB0.out.trans (hX.mono hwz)
        exact (hbx.below h1 (Nat.le_refl _)).mono h1.size⟩
      have HAX := Hk.mk hax
      have hbyt := hbx.byt
      have HBYT := Hk.mk hbyt
      clear k0 k1 k2 k3 k4 k5 k6 k7 k8 k9 k10 hnq hbx hax hc10 hbyt
      have i1 : (0 : Int) ≤ (j : Int) := by omega
      have i2 : (j : Int) < (len : Int) := by omega
      cases hv : decide (300 < m ∨ 3000 < nx)
      case true =>
        have HV := Hk.mk hv
        clear hv
        go_wp2_with (go_at_call 13; (with_reducible refine (heavy22_as true p s k n a m c t wd h x y ax nx cx _ HV).mono ?_); rintro e w2 ⟨rfl, hb2⟩; have HB2 := Hk.mk (HB.out.trans (hb2.mono hsz)); clear hb2; have d10 := HX10.out _ HB2.out)
        go_ret
        exact ⟨rfl, HB0.out.trans (HB2.out.mono hwz)⟩
      case false =>
        have HV := Hk.mk hv
        have hx3 : nx ≤ 3000 := by simp at hv; omega
        clear hv
        obtain ⟨RR, hRR⟩ : ∃ RR, normC (parC ys) = RR := ⟨_, rfl⟩
        obtain ⟨K, P, S, ⟨N, U, T, W, H, X, Y⟩, AT, E⟩ := RR
        have HUL : Hk (U.length ≤ 64) := ⟨parC_len HBYT.out hRR⟩
        have HN := Hk.mk hRR
        clear hRR
        go_wp2_with (first | (go_at_call 13; (with_reducible refine (heavy22_as false p s k n a m c t wd h x y ax nx cx _ HV).mono ?_); rintro e w2 ⟨rfl, hb2⟩; have HB2 := Hk.mk (HB.out.trans (hb2.mono hsz)); clear hb2; have d10 := HX10.out _ HB2.out) | (go_at_call 23; (with_reducible refine (copy_any ax nx cx ys _ (HYX.out _ HB2.out) (by omega)).mono ?_); rintro e w3 ⟨v3, rfl, ho3, hb3⟩; obtain ⟨a3, c3, rfl, hnc3, hby3, -⟩ := ho3.by_; have hcm3 := ho3.cap23; have han3 := ho3.an23; have HAN3 := Hk.mk han3; have HY3 := Hk.mk hby3; have HB3 := Hk.mk (HB2.out.trans (hb3.mono HB2.out.size)); clear ho3 hby3 hb3 han3 d10; have d10 := HX10.out _ HB3.out) | (go_at_call 24; (with_reducible refine (parse_any a3 nx c3 ys _ HY3.out hnc3 hcm3 (by omega) HAN3.out).mono ?_); intro o w4 hp4; obtain ⟨a4, m4, c4, rfl, ho4, hmc4, hb4⟩ := parseN_of hp4 HN; have HO4 := Hk.mk ho4; have HB4 := Hk.mk hb4; have HB4' := Hk.mk (HB3.out.trans (hb4.mono HB3.out.size)); clear hp4 ho4 hb4 d10; have d10 := HX10.out _ (HB4'.out.alloc HB4'.out.size (.cells #[.int .i64 P, .int .i64 S, .int .i64 K, .int .i64 N, .slice a4 m4 c4, .int .i64 T, .int .i64 W, .int .i64 H, .int .i64 X, .int .i64 Y] 28))) | (go_at_call 25; (with_reducible refine (rparse_any ax nx cx ys _ (HYX.out _ (HB4'.out.alloc HB4'.out.size (.cells #[.int .i64 P, .int .i64 S, .int .i64 K, .int .i64 N, .slice a4 m4 c4, .int .i64 T, .int .i64 W, .int .i64 H, .int .i64 X, .int .i64 Y] 28))) hnx hcx (by omega) HAX.out).mono ?_); intro o w5 hp5; obtain ⟨a5, m5, c5, rfl, ho5, hmc5, hb5⟩ := parseN_of hp5 HN; have HO5 := Hk.mk ho5; have HB5 := Hk.mk hb5; have HB5' := Hk.mk ((HB4'.out.alloc HB4'.out.size (.cells #[.int .i64 P, .int .i64 S, .int .i64 K, .int .i64 N, .slice a4 m4 c4, .int .i64 T, .int .i64 W, .int .i64 H, .int .i64 X, .int .i64 Y] 28)).trans (hb5.mono (by simp; have := HB4'.out.size; omega))); have hX5 : w4.heap.size < w5.heap.size := (by have := hb5.size; simp at this; omega); obtain ⟨q0, q1, q2, q3, q4, q5, q6, q7, q8, q9, -⟩ := (CmB.box w4 P S K N a4 m4 c4 T W H X Y).below hb5 (by simp); clear hp5 ho5 hb5 d10; have d10 := HX10.out _ (HB5'.out.alloc HB5'.out.size (.cells #[.int .i64 P, .int .i64 S, .int .i64 K, .int .i64 N, .slice a5 m5 c5, .int .i64 T, .int .i64 W, .int .i64 H, .int .i64 X, .int .i64 Y] 28))) | (go_at_call 17; (with_reducible refine (lawnum22_any _ _).mono ?_); rintro e w' ⟨rfl, rfl⟩) | (go_at_call 21; (with_reducible refine (eqc_as true P S K N a4 m4 c4 U T W H X Y P S K N a5 m5 c5 U T W H X Y _ (nq4 HO4.out (((Below.refl _ _).alloc (Nat.le_refl _) (.cells #[.int .i64 P, .int .i64 S, .int .i64 K, .int .i64 N, .slice a4 m4 c4, .int .i64 T, .int .i64 W, .int .i64 H, .int .i64 X, .int .i64 Y] 28)).trans (((HB5.out).alloc HB5.out.size (.cells #[.int .i64 P, .int .i64 S, .int .i64 K, .int .i64 N, .slice a5 m5 c5, .int .i64 T, .int .i64 W, .int .i64 H, .int .i64 X, .int .i64 Y] 28)).mono (by simp)))) (by have := own_len HO4.out; have := HUL.out; omega) (nq4 HO5.out ((Below.refl _ _).alloc (Nat.le_refl _) (.cells #[.int .i64 P, .int .i64 S, .int .i64 K, .int .i64 N, .slice a5 m5 c5, .int .i64 T, .int .i64 W, .int .i64 H, .int .i64 X, .int .i64 Y] 28))) (by have := own_len HO5.out; have := HUL.out; omega) ⟨by simp [eqcB]⟩).mono ?_); rintro e w6 ⟨rfl, hb6⟩; have HB6 := Hk.mk hb6; have HB6' := Hk.mk ((HB5'.out.alloc HB5'.out.size (.cells #[.int .i64 P, .int .i64 S, .int .i64 K, .int .i64 N, .slice a5 m5 c5, .int .i64 T, .int .i64 W, .int .i64 H, .int .i64 X, .int .i64 Y] 28)).trans (hb6.mono (by simp; have := HB5'.out.size; omega))); obtain ⟨q0, q1, q2, q3, q4, q5, q6, q7, q8, q9, -⟩ := ((CmB.box w4 P S K N a4 m4 c4 T W H X Y).below HB5.out (by simp)).below (((Below.refl _ _).alloc (Nat.le_refl _) (.cells #[.int .i64 P, .int .i64 S, .int .i64 K, .int .i64 N, .slice a5 m5 c5, .int .i64 T, .int .i64 W, .int .i64 H, .int .i64 X, .int .i64 Y] 28)).trans (hb6.mono (by simp))) hX5; clear hb6 d10; have d10 := HX10.out _ HB6'.out) | (go_at_call 19; (with_reducible refine (eqb_yes a3 ax nx c3 cx ys _ ((HY3.out.below (HB4.out.trans ((((Below.refl _ _).alloc (Nat.le_refl _) (.cells #[.int .i64 P, .int .i64 S, .int .i64 K, .int .i64 N, .slice a4 m4 c4, .int .i64 T, .int .i64 W, .int .i64 H, .int .i64 X, .int .i64 Y] 28)).trans ((HB5.out.alloc HB5.out.size (.cells #[.int .i64 P, .int .i64 S, .int .i64 K, .int .i64 N, .slice a5 m5 c5, .int .i64 T, .int .i64 W, .int .i64 H, .int .i64 X, .int .i64 Y] 28)).mono (by simp))).trans (HB6.out.mono (by simp; have := HB5.out.size; simp at this; omega)) |>.mono HB4.out.size)) (Nat.le_refl _)).mono (by have h1 := HB4.out.size; have h2 := HB5.out.size; have h3 := HB6.out.size; simp at h2 h3; omega)) (HYX.out _ HB6'.out) (by omega)).mono ?_); rintro e w' ⟨rfl, mm, rfl⟩) | (go_at_call 26; (with_reducible refine (lawnums_any wr.heap.size _ (.slice a4 m4 c4) m4 U ?_ ?_ ?_).mono ?_); (exact ((HO4.out.below (((Below.refl _ _).alloc (Nat.le_refl _) (.cells #[.int .i64 P, .int .i64 S, .int .i64 K, .int .i64 N, .slice a4 m4 c4, .int .i64 T, .int .i64 W, .int .i64 H, .int .i64 X, .int .i64 Y] 28)).trans ((HB5.out.alloc HB5.out.size (.cells #[.int .i64 P, .int .i64 S, .int .i64 K, .int .i64 N, .slice a5 m5 c5, .int .i64 T, .int .i64 W, .int .i64 H, .int .i64 X, .int .i64 Y] 28)).mono (by simp)) |>.trans (HB6.out.mono (by have := HB5.out.size; simp at this ⊢; omega)))).drewN mm).weak (by have := HB3.out.size; omega)); (have := HB6'.out.size; simp; omega); (have := own_len HO4.out; have := HUL.out; omega); rintro e w7 ⟨rfl, hb7⟩; have HB7 := Hk.mk (HB6'.out.trans (((Below.refl _ _ : Below wr.heap.size w6 w6) |> fun h => below_drewN h mm).trans hb7 |> fun h => h)); clear hb7))
        exact ⟨⟨j + 1, by go_num, by omega, by omega, ⟨HB0.out.trans (HB7.out.mono hwz)⟩⟩, by simp [intOf]; omega⟩
    · go_wp2_with (go_at_call 22; (with_reducible refine (wakes22_any _).mono ?_); rintro e w' ⟨rfl, hb⟩)
      all_goals
        go_ret
        exact ⟨rfl, HB0.out.trans (hb.mono HB0.out.size)⟩

theorem commandParses_own : ownKnob Try.prog.godebug = none := by kernel_rfl
theorem commandParses_laidOut : laidOutB Try.prog = true := by kernel_rfl
set_option maxRecDepth 100000 in
theorem commandParses_lifted (os : Os) (started : os.Started) (H : Type) (enc : TypeId × Value → H) :
    ReturnsInHanded {} Try.checked os 4 .any (Rows.commandParsesSpec.pre6 enc Try.prog Try.f4 Rows.commandParsesRow.domain false) (Rows.commandParsesSpec.post enc Try.prog Try.f4 false true false false) := by
  refine returnsInHanded_of_change (C := Try.checked) commandParses_own started (by kernel_rfl) Try.func4
    (ChangeSpec.witness6 (enc := enc) (C := Try.checked) false ⟨#[], #[.slice none 0 0], []⟩ 8 (by kernel_rfl) (by kernel_rfl) (by kernel_rfl) (by kernel_rfl)) ?_
  intro W base args ds gs before hval0 hW hcnd _
  have hval : ∀ (j : Nat) t v, Try.f4.params[j]? = some t → args[j]? = some v → Value.okWide Try.prog W .any base t v := hval0
  have hW' := hW
  obtain ⟨p, q, hA0, hV, rfl, hfz, hnd⟩ := hW
  have hA : DataW.TrodAll enc Try.prog W 0 (fun _ => true) true Try.f4.params.toList args.toList ds p := hA0
  rw [Try.params4] at hA hval
  obtain ⟨v0, vs0, d0, ds0, p0, q0, hargs, rfl, rfl, h0, r0⟩ := trodAll_cons hA
  obtain ⟨rfl, rfl, rfl⟩ := trodAll_nil r0
  obtain rfl : args = #[v0] := by cases args; simp_all
  obtain ⟨rfl, rfl⟩ := trodVars_none hV
  obtain ⟨a0, len0, cap0, rfl⟩ := okWide_slice Try.underlying22 (hval 0 22 v0 rfl rfl)
  have k0 := h0
  have lt0 : ∀ x ∈ p0, x.block < W.heap.size := by obtain ⟨m, hm⟩ := k0; exact DataW.trod_lt m _ _ _ hm
  have rows : Asks22 W a0 len0 cap0 := by obtain ⟨fuel, hf⟩ := h0; exact asks22_of hf
  clear hA0 hval0
  refine (commandParses_walk a0 len0 cap0 W rows).mono fun e W' ⟨he, bel⟩ => ?_
  subst he
  exact ⟨_, rfl, _, _, _, [], _, [], hW', trodAll_mk1 (shut_bool Try.underlying4 _), (trodAll_cons_mk (Below.trod commandParses_laidOut (by kernel_rfl) (of_decide_eq_true (by kernel_rfl)) k0 bel lt0) trodAll_mk0), rfl, bel.frame _, fun h => by cases h⟩
theorem commandParses_over : Rows.commandParsesRow.holds Try.pinned (OpenSpec.ofChange Rows.commandParsesSpec) :=
  OpenClaim.holds_of_wide 4 Try.f4 rfl rfl rfl rfl rfl rfl rfl ⟨rfl, rfl, rfl, rfl, rfl⟩ rfl rfl rfl rfl rfl (by kernel_rfl) Try.func4 (by kernel_rfl)
    (of_decide_eq_true (by kernel_rfl)) (by unfold Func.isWrapper; first | (rw [if_pos (by decide +kernel)]; kernel_rfl) | (rw [if_neg (by decide +kernel)]; exact ⟨rfl, rfl⟩))
    (fun os started H enc _ => commandParses_lifted os started H enc)
/-- The given statement of CommandParses. -/
theorem commandParses_holds : Rows.CommandParsesSaid := commandParses_over
end Go.Proofs.Ytkffleclofkjmaa
