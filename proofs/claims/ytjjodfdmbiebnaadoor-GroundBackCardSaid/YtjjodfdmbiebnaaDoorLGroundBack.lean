/- For every argument, GroundBack answers true and leaves its argument as it was: a tile's place and number undo each other; its centre, and its corners, lie in it; who is beside another one has it beside itself. No condition; the table of package tiles is tied to the program's text. -/
import Derived.Test.YtjjodfdmbiebnaaDoorGte
import Derived.Test.YtjjodfdmbiebnaaDoorAsk6
import Derived.Deep.QuietTactic
import Derived.BigQuiet
import Derived.Deep.RegionWith
import Derived.Deep.RegionHeld3
import Derived.Deep.DeepCutAuto
import Derived.Deep.DeepFit
import Derived.Outline
import Derived.Test.YtjjodfdmbiebnaaDoorCards
import Derived.Test.YtjjodfdmbiebnaaDoorTie
import Derived.SevenTiedAt
import Derived.ProofKit
import Derived.LaidMore
import Derived.OpenShut
import Derived.Stop.Joined
namespace Go.Proofs.YtjjodfdmbiebnaaDoor
open Go.ChangeShapes Go.WideShapes Go.ChangeAt Go.RowKit Go.Deep
set_option linter.unusedVariables false
set_option maxRecDepth 100000 in
set_option maxHeartbeats 1600000 in
theorem groundBack_out (W H : Int) (a : Option Addr) (n c : Nat) (xs : List Int) (ta : Option Addr) (tn tc : Nat) (pa : Option Addr) (pn pc : Nat) (w : World) (hby : By w w.heap.size a n xs) (sm1 : n ≤ 20000) (sm2 : tn ≤ 60) (sm3 : pn ≤ 60) (HV : Hk (heavyB n tn pn = false)) (HG : Hk (¬ (GOk W H n xs ∧ n ≤ 400))) :
    Calls Tryd.prog 3 #[.agg #[.int .i64 W, .int .i64 H, .slice a n c, .slice ta tn tc, .slice pa pn pc]] w fun e w' => e = .returned (.bool true) ∧ Below w.heap.size w w' := by
  have HWB : Hk (Below w.heap.size w (w.alloc (.cells #[.int .i64 W, .int .i64 H, .slice a n c, .slice ta tn tc, .slice pa pn pc] 28))) := ⟨(Below.refl _ _).alloc (Nat.le_refl _) _⟩
  have HTR : Hk (∀ X, Below (w.heap.size + 1) (w.alloc (.cells #[.int .i64 W, .int .i64 H, .slice a n c, .slice ta tn tc, .slice pa pn pc] 28)) X → Below w.heap.size w X) := ⟨fun X hX => HWB.out.trans (hX.mono (by omega))⟩
  have HBY := Hk.mk (fun (X : World) (hX : Below (w.heap.size + 1) (w.alloc (.cells #[.int .i64 W, .int .i64 H, .slice a n c, .slice ta tn tc, .slice pa pn pc] 28)) X) => hby.below (HTR.out X hX) (Nat.le_refl _))
  have HB : Hk (Below (w.heap.size + 1) (w.alloc (.cells #[.int .i64 W, .int .i64 H, .slice a n c, .slice ta tn tc, .slice pa pn pc] 28)) (w.alloc (.cells #[.int .i64 W, .int .i64 H, .slice a n c, .slice ta tn tc, .slice pa pn pc] 28))) := ⟨Below.refl _ _⟩
  have hNW : w.heap.size + 1 ≤ (w.alloc (.cells #[.int .i64 W, .int .i64 H, .slice a n c, .slice ta tn tc, .slice pa pn pc] 28)).heap.size := by simp
  clear hby
  by_cases hg : GOk W H n xs
  · have hn4 : 400 < n := by
      rcases Nat.lt_or_ge 400 n with h | h
      · exact h
      · exact absurd ⟨hg, h⟩ HG.out
    have EQC : Hk (gE W H n xs = 0) := ⟨gE_yes hg⟩
    clear hg
    go_enter Tryd.func3, Tryd.ntmps3
    go_wp2_with (first | (go_at_call 13; (with_reducible refine (heavy6_as false W H a ta pa n c tn tc pn pc _ (by omega) (by omega) (by omega) HV).mono ?_); rintro e x1 ⟨rfl, hb⟩; replace HB := Hk.mk (kw_step HB.out hNW hb); obtain ⟨hc, hf, hl, hn, hm⟩ := kw_rules HB.out hNW) | (go_at_call 15; (with_reducible refine (check_as 0 W H a n c w.heap.size xs _ ?_ ?_ ?_ EQC).mono ?_); (exact HBY.out _ HB.out); (exact hsz_le HB.out); (omega); rintro e x2 ⟨rfl, hb⟩; replace HB := Hk.mk (kw_step HB.out hNW hb); clear hc hf hl hn hm; obtain ⟨hc, hf, hl, hn, hm⟩ := kw_rules HB.out hNW) | (go_at_call 14; (with_reducible refine (num6_any _ _).mono ?_); rintro e w' ⟨rfl, rfl⟩))
    go_ret
    exact ⟨rfl, HTR.out _ HB.out⟩
  · have EQC : Hk (gE W H n xs = 1) := ⟨gE_no hg⟩
    clear hg
    go_enter Tryd.func3, Tryd.ntmps3
    go_wp2_with (first | (go_at_call 13; (with_reducible refine (heavy6_as false W H a ta pa n c tn tc pn pc _ (by omega) (by omega) (by omega) HV).mono ?_); rintro e x1 ⟨rfl, hb⟩; replace HB := Hk.mk (kw_step HB.out hNW hb); obtain ⟨hc, hf, hl, hn, hm⟩ := kw_rules HB.out hNW) | (go_at_call 15; (with_reducible refine (check_as 1 W H a n c w.heap.size xs _ ?_ ?_ ?_ EQC).mono ?_); (exact HBY.out _ HB.out); (exact hsz_le HB.out); (omega); rintro e x2 ⟨rfl, hb⟩; replace HB := Hk.mk (kw_step HB.out hNW hb); clear hc hf hl hn hm; obtain ⟨hc, hf, hl, hn, hm⟩ := kw_rules HB.out hNW) | (go_at_call 14; (with_reducible refine (num6_any _ _).mono ?_); rintro e w' ⟨rfl, rfl⟩))
    go_ret
    exact ⟨rfl, HTR.out _ HB.out⟩
set_option maxRecDepth 100000 in
set_option maxHeartbeats 1600000 in
theorem groundBack_walk (v : Value) (w : World) (hL : LT w) (rows : Asks6 w v) :
    Calls Tryd.prog 3 #[v] w fun e w' => e = .returned (.bool true) ∧ Below w.heap.size w w' := by
  obtain ⟨W, H, a, n, c, xs, ta, tn, tc, ts, pa, pn, pc, f, g, rfl, hW, hH, hn, htn, hpn, hby, hnq, hvq⟩ := rows
  cases hhv : heavyB n tn pn
  case true =>
    have HWB : Hk (Below w.heap.size w (w.alloc (.cells #[.int .i64 W, .int .i64 H, .slice a n c, .slice ta tn tc, .slice pa pn pc] 28))) := ⟨(Below.refl _ _).alloc (Nat.le_refl _) _⟩
    have HV := Hk.mk hhv
    clear hhv hby hnq hvq hL
    go_enter Tryd.func3, Tryd.ntmps3
    go_wp2_with (go_at_call 13; (with_reducible refine (heavy6_as true W H a ta pa n c tn tc pn pc _ hn htn hpn HV).mono ?_); rintro e w1 ⟨rfl, hb1⟩; have HB1 := Hk.mk hb1; clear hb1)
    go_ret
    exact ⟨rfl, HWB.out.trans (HB1.out.mono (by simp))⟩
  case false =>
    have HV := Hk.mk hhv
    have hsm : n ≤ 20000 ∧ tn ≤ 60 ∧ pn ≤ 60 := by unfold heavyB at hhv; simp at hhv; omega
    obtain ⟨sm1, sm2, sm3⟩ := hsm
    by_cases hg : GOk W H n xs ∧ n ≤ 400
    · exact groundBack_go W H a n c xs ta tn tc pa pn pc w hL hby hg.2 sm2 sm3 HV ⟨hg.1⟩
    · exact groundBack_out W H a n c xs ta tn tc pa pn pc w hby sm1 sm2 sm3 HV ⟨hg⟩


theorem groundBack_own : ownKnob Tryd.prog.godebug = none := by kernel_rfl
theorem groundBack_laidOut : laidOutB Tryd.prog = true := by kernel_rfl
theorem groundBack_door (os : Os) (args : Array Value) : laidMetH Tryd.prog [("throng/tiles.offsets", Rows.laid_throng_tiles_offsets)] ((World.doorLaid Tryd.prog 400 os).forCall (fun _ _ => 0) ⟨#[], args, []⟩).memory :=
  laidMetH_of_parts3 (fuel := 8) (laidMet_of_run' 8 (by kernel_rfl) (by kernel_rfl)) (by kernel_rfl) (by kernel_rfl)
set_option maxRecDepth 100000 in
theorem groundBack_lifted (os : Os) (started : os.Started) (H : Type) (enc : TypeId × Value → H) :
    ReturnsInHanded {} Tryd.checked os 3 .any (fun w args => (Rows.groundBackSpec.pre enc Tryd.prog Tryd.f3 [] false w args ∧ laidMetH Tryd.prog [("throng/tiles.offsets", Rows.laid_throng_tiles_offsets)] w) ∧ sizedMet enc Tryd.prog Tryd.f3 (OpenSpec.ofChange Rows.groundBackSpec) false w args)
      (Rows.groundBackSpec.post enc Tryd.prog Tryd.f3 false true false false) := by
  refine returnsInHanded_of_change_and (C := Tryd.checked) (X := fun w _ => laidMetH Tryd.prog [("throng/tiles.offsets", Rows.laid_throng_tiles_offsets)] w) (fun _ _ _ hh h => h.of_heap hh) groundBack_own started (by kernel_rfl) Tryd.func3
    (ChangeSpec.witness_shaped (enc := enc) (C := Tryd.checked) (os := os) (X := fun w _ => laidMetH Tryd.prog [("throng/tiles.offsets", Rows.laid_throng_tiles_offsets)] w) false (World.doorLaid Tryd.prog 400 os) #[.agg #[.int .i64 0, .int .i64 0, .slice none 0 0, .slice none 0 0, .slice none 0 0]] 8 rfl (World.shaped_of_RefB (by kernel_rfl) (by kernel_rfl)) (by kernel_rfl) (by kernel_rfl) (by kernel_rfl) (groundBack_door os _)) ?_
  intro W base args ds gs before hval0 hW _ _ hL _
  have hval : ∀ (j : Nat) t v, Tryd.f3.params[j]? = some t → args[j]? = some v → Value.okWide Tryd.prog W .any base t v := hval0
  have hW' := hW
  obtain ⟨p, q, hA0, hV, rfl, hfz, hnd⟩ := hW
  have hA : DataW.TrodAll enc Tryd.prog W 0 (fun _ => true) true Tryd.f3.params.toList args.toList ds p := hA0
  rw [Tryd.params3] at hA hval
  obtain ⟨v0, vs0, d0, ds0, p0, q0, hargs, rfl, rfl, h0, r0⟩ := trodAll_cons hA
  obtain ⟨rfl, rfl, rfl⟩ := trodAll_nil r0
  obtain rfl : args = #[v0] := by cases args; simp_all
  obtain ⟨rfl, rfl⟩ := trodVars_none hV
  obtain ⟨cs0, rfl, hcs0⟩ := okWide_struct Tryd.underlying28 (hval 0 28 v0 rfl rfl)
  have k0 := h0
  have lt0 : ∀ x ∈ p0, x.block < W.heap.size := by obtain ⟨m, hm⟩ := k0; exact DataW.trod_lt m _ _ _ hm
  have rows : Asks6 W (.agg cs0) := by obtain ⟨fuel, hf⟩ := h0; exact asks6_of hcs0 hf
  clear hA0 hval0
  refine (groundBack_walk (.agg cs0) W (of_laidT hL) rows).mono fun e W' ⟨he, bel⟩ => ?_
  subst he
  exact ⟨_, rfl, _, _, _, [], _, [], hW', trodAll_mk1 (shut_bool Tryd.underlying4 _), (trodAll_cons_mk (Below.trod groundBack_laidOut (by kernel_rfl) (of_decide_eq_true (by kernel_rfl)) k0 bel lt0) trodAll_mk0), rfl, bel.frame _, fun h => by cases h⟩
theorem groundBack_over : Rows.GroundBackSaid :=
  OpenClaim.holds_of_wide 3 Tryd.f3 rfl rfl rfl rfl rfl rfl rfl ⟨rfl, rfl, rfl, rfl, rfl⟩ rfl rfl rfl rfl rfl (by kernel_rfl) Tryd.func3 (by kernel_rfl)
    (of_decide_eq_true (by kernel_rfl)) (by unfold Func.isWrapper; first | (rw [if_pos (by decide +kernel)]; kernel_rfl) | (rw [if_neg (by decide +kernel)]; exact ⟨rfl, rfl⟩))
    (fun os started H enc _ => groundBack_lifted os started H enc)
/-- The given card of GroundBack. -/
theorem groundBack_card : Rows.GroundBackCardSaid :=
  Claim7.holds_tied_plain_at .later [] [.data] true (true, "2c4bcf7ec666a06e3a39b6c766dcfdcece0d58204668e437dfc8163f308f0d77") false
    groundBack_over (fun _ h => by cases h) (by kernel_rfl) (fun _ h => by cases h) groundBack_row_tie rfl ⟨rfl, rfl⟩ (by kernel_rfl) rfl
    (fun f fn hf hfn => by
      obtain rfl : f = 3 := Option.some.inj ((show Tryd.prog.funcNamed "throng/thronglaw6.GroundBack" = some 3 by kernel_rfl).symm.trans hf) |>.symm
      obtain rfl : fn = Tryd.f3 := (Option.some.inj (Tryd.func3.symm.trans hfn)).symm
      exact ⟨by kernel_rfl, fun j t ht => by
        rw [Tryd.params3] at ht
        have hm : t ∈ [28] := by simpa using Array.mem_of_getElem? ht
        have hall : ([28].all fun u => !Tryd.prog.wantsStandIn u) = true := by kernel_rfl
        exact (show Tryd.prog.wantsStandIn t = false by simpa using List.all_eq_true.1 hall t hm)⟩)
    (by kernel_rfl)
end Go.Proofs.YtjjodfdmbiebnaaDoor

