/- For every argument, ClearGrids answers true and leaves its argument as it was: how far the way is free. No condition; the table of package kind is tied to the program's text. -/
import Derived.Test.YtjjodfdmbiebnaaDoorClw
import Derived.Deep.QuietTactic
import Derived.BigQuiet
import Derived.Deep.RegionWith
import Derived.Deep.RegionHeld3
import Derived.Deep.DeepCutAuto
import Derived.Deep.DeepFit
import Derived.Outline
import Derived.Test.YtjjodfdmbiebnaaDoorCards
import Derived.Test.YtjjodfdmbiebnaaDoorTie
import Derived.SevenTiedAt
import Derived.ProofKit
import Derived.LaidMore
import Derived.OpenShut
import Derived.Stop.Joined
namespace Go.Proofs.YtjjodfdmbiebnaaDoor
open Go.ChangeShapes Go.WideShapes Go.ChangeAt Go.RowKit Go.Deep
set_option linter.unusedVariables false
set_option linter.unusedSimpArgs false
theorem clearGrids_big (W H : Int) (a : Option Addr) (n c : Nat) (xs : List Int) (la : Option Addr) (ln lc : Nat) (bs : List Bd) (x : Int) (w : World) (hL : LC w) (h : By w w.heap.size a n xs) (hb0 : Bq w w.heap.size la ln bs) (hn : n ≤ 9223372036854775807) (hln : ln ≤ 9223372036854775807) (HV : Hk (gtP n ln = true)) :
    Calls Tryd.prog 6 #[.agg #[.int .i64 W, .int .i64 H, .slice a n c, .slice la ln lc, .int .i64 x]] w fun e w' => e = .returned (.bool true) ∧ Below w.heap.size w w' := by
  have HWB : Hk (Below w.heap.size w (w.alloc (.cells #[.int .i64 W, .int .i64 H, .slice a n c, .slice la ln lc, .int .i64 x] 48))) := ⟨(Below.refl _ _).alloc (Nat.le_refl _) _⟩
  have hNW : w.heap.size + 1 ≤ (w.alloc (.cells #[.int .i64 W, .int .i64 H, .slice a n c, .slice la ln lc, .int .i64 x] 48)).heap.size := by simp
  have HB : Hk (Below (w.heap.size + 1) (w.alloc (.cells #[.int .i64 W, .int .i64 H, .slice a n c, .slice la ln lc, .int .i64 x] 48)) (w.alloc (.cells #[.int .i64 W, .int .i64 H, .slice a n c, .slice la ln lc, .int .i64 x] 48))) := ⟨Below.refl _ _⟩
  have HTR : Hk (∀ X, Below (w.heap.size + 1) (w.alloc (.cells #[.int .i64 W, .int .i64 H, .slice a n c, .slice la ln lc, .int .i64 x] 48)) X → Below w.heap.size w X) := ⟨fun X hX => HWB.out.trans (hX.mono (by omega))⟩
  have HBY := Hk.mk (fun (X : World) (hX : Below (w.heap.size + 1) (w.alloc (.cells #[.int .i64 W, .int .i64 H, .slice a n c, .slice la ln lc, .int .i64 x] 48)) X) => h.below (HTR.out X hX) (Nat.le_refl _))
  have HBQ := Hk.mk (fun (X : World) (hX : Below (w.heap.size + 1) (w.alloc (.cells #[.int .i64 W, .int .i64 H, .slice a n c, .slice la ln lc, .int .i64 x] 48)) X) => hb0.below (HTR.out X hX) (Nat.le_refl _))
  have HLC := Hk.mk (fun (X : World) (hX : Below (w.heap.size + 1) (w.alloc (.cells #[.int .i64 W, .int .i64 H, .slice a n c, .slice la ln lc, .int .i64 x] 48)) X) => hL.below (HTR.out X hX) (Nat.le_refl _))
  clear h hb0 hL
  obtain ⟨hc, hf, hl, hn', hm⟩ := kw_rules HB.out hNW
  go_enter Tryd.func6, Tryd.ntmps6
  go_wp2_with (go_at_call 23; (with_reducible refine (heavy9_as true W H a n c _ ln lc _ _ (by omega) (by omega) HV).mono ?_); rintro e z ⟨rfl, hb⟩; replace HB := Hk.mk (kw_step HB.out hNW hb); clear hb; clear hc hf hl hn' hm; obtain ⟨hc, hf, hl, hn', hm⟩ := kw_rules HB.out hNW)
  go_ret
  exact ⟨rfl, HTR.out _ HB.out⟩
theorem clearGrids_yes (W H : Int) (a : Option Addr) (n c : Nat) (xs : List Int) (la : Option Addr) (ln lc : Nat) (bs : List Bd) (cl : Nat) (w : World) (hL : LC w) (h : By w w.heap.size a n xs) (hb0 : Bq w w.heap.size la ln bs) (hn : n ≤ 700) (hln : ln ≤ 30) (hlc : ln ≤ lc) (HV : Hk (gtP n ln = false)) (hc3 : cl < 3) (MM : Hk (MOk W H n xs bs)) :
    Calls Tryd.prog 6 #[.agg #[.int .i64 W, .int .i64 H, .slice a n c, .slice la ln lc, .int .i64 cl]] w fun e w' => e = .returned (.bool true) ∧ Below w.heap.size w w' := by
  have M9 : Hk (MOk W H n xs bs ∧ 0 ≤ (cl : Int) ∧ (cl : Int) ≤ 2) := ⟨⟨MM.out, by omega, by omega⟩⟩
  have HWB : Hk (Below w.heap.size w (w.alloc (.cells #[.int .i64 W, .int .i64 H, .slice a n c, .slice la ln lc, .int .i64 cl] 48))) := ⟨(Below.refl _ _).alloc (Nat.le_refl _) _⟩
  have hNW : w.heap.size + 1 ≤ (w.alloc (.cells #[.int .i64 W, .int .i64 H, .slice a n c, .slice la ln lc, .int .i64 cl] 48)).heap.size := by simp
  have HB : Hk (Below (w.heap.size + 1) (w.alloc (.cells #[.int .i64 W, .int .i64 H, .slice a n c, .slice la ln lc, .int .i64 cl] 48)) (w.alloc (.cells #[.int .i64 W, .int .i64 H, .slice a n c, .slice la ln lc, .int .i64 cl] 48))) := ⟨Below.refl _ _⟩
  have HTR : Hk (∀ X, Below (w.heap.size + 1) (w.alloc (.cells #[.int .i64 W, .int .i64 H, .slice a n c, .slice la ln lc, .int .i64 cl] 48)) X → Below w.heap.size w X) := ⟨fun X hX => HWB.out.trans (hX.mono (by omega))⟩
  have HBY := Hk.mk (fun (X : World) (hX : Below (w.heap.size + 1) (w.alloc (.cells #[.int .i64 W, .int .i64 H, .slice a n c, .slice la ln lc, .int .i64 cl] 48)) X) => h.below (HTR.out X hX) (Nat.le_refl _))
  have HBQ := Hk.mk (fun (X : World) (hX : Below (w.heap.size + 1) (w.alloc (.cells #[.int .i64 W, .int .i64 H, .slice a n c, .slice la ln lc, .int .i64 cl] 48)) X) => hb0.below (HTR.out X hX) (Nat.le_refl _))
  have HLC := Hk.mk (fun (X : World) (hX : Below (w.heap.size + 1) (w.alloc (.cells #[.int .i64 W, .int .i64 H, .slice a n c, .slice la ln lc, .int .i64 cl] 48)) X) => hL.below (HTR.out X hX) (Nat.le_refl _))
  clear h hb0 hL
  obtain ⟨hc, hf, hl, hn', hm⟩ := kw_rules HB.out hNW
  go_enter Tryd.func6, Tryd.ntmps6
  go_wp2_with (first
    | (go_at_call 23; (with_reducible refine (heavy9_as false W H a n c _ ln lc _ _ (by omega) (by omega) HV).mono ?_); rintro e z ⟨rfl, hb⟩; replace HB := Hk.mk (kw_step HB.out hNW hb); clear hb; clear hc hf hl hn' hm; obtain ⟨hc, hf, hl, hn', hm⟩ := kw_rules HB.out hNW)
    | (go_at_call 24; (with_reducible refine (may9_yes W H a n c xs la ln lc bs cl _ ?_ ?_ (by omega) (by omega) M9).mono ?_); (exact (HBY.out _ HB.out).mono (hsz1 HB.out)); (exact (HBQ.out _ HB.out).mono (hsz1 HB.out)); rintro e z ⟨rfl, hb⟩; replace HB := Hk.mk (kw_step HB.out hNW hb); clear hb; clear hc hf hl hn' hm; obtain ⟨hc, hf, hl, hn', hm⟩ := kw_rules HB.out hNW)
    | (go_at_call 31; (refine (rgrid_any W H a n c xs la ln lc bs _ ?_ ?_ cl hc3 MM).mono ?_); (exact (HBY.out _ HB.out).mono (hsz1 HB.out)); (exact (HBQ.out _ HB.out).mono (hsz1 HB.out)); rintro e z ⟨I, rfl, hg1, hA1, hb⟩; have HA1 := Hk.mk hA1; clear hA1 hg1; replace HB := Hk.mk (kw_step HB.out hNW hb); clear hb; clear hc hf hl hn' hm; obtain ⟨hc, hf, hl, hn', hm⟩ := kw_rules HB.out hNW)
    | (go_at_call 32; (refine (grid_yes W H a n c xs la ln lc bs _ ?_ ?_ (by omega) (by omega) cl (HLC.out _ HB.out) hc3 MM).mono ?_); (exact (HBY.out _ HB.out).mono (hsz1 HB.out)); (exact (HBQ.out _ HB.out).mono (hsz1 HB.out)); rintro e z ⟨J, rfl, hg2, hA2, hb⟩; replace HA1 := Hk.mk (HA1.out.later hb); have HA2 := Hk.mk hA2; have HJ : Hk (w.heap.size + 1 ≤ J) := ⟨by have := kw_size HB.out hNW; omega⟩; clear hA2 hg2; replace HB := Hk.mk (kw_step HB.out hNW hb); clear hb; clear hc hf hl hn' hm; obtain ⟨hc, hf, hl, hn', hm⟩ := kw_rules HB.out hNW)
    | (go_at_call 27; (with_reducible refine (num9_any _ _).mono ?_); rintro e z ⟨rfl, rfl⟩)
    | (go_at_call 33; (with_reducible refine (eqn_yes _ _ n _ _ (J + 1) (I + 1) _ _ (HA2.out.nq (Nat.lt_succ_self J)) (HA1.out.nq (Nat.lt_succ_self I)) (by omega)).mono ?_); rintro e z ⟨rfl, mm, rfl⟩; replace HA2 := Hk.mk (HA2.out.drewN mm); replace HB := Hk.mk (below_drewN HB.out mm); clear hc hf hl hn' hm; obtain ⟨hc, hf, hl, hn', hm⟩ := kw_rules HB.out hNW)
    | (go_at_call 34; (with_reducible refine (numbers_as n J _ _ HA2.out (by omega)).mono ?_); rintro e z ⟨rfl, hb⟩; replace HB := Hk.mk (HB.out.trans (hb.mono HJ.out)); clear hb; clear hc hf hl hn' hm; obtain ⟨hc, hf, hl, hn', hm⟩ := kw_rules HB.out hNW)
    | (go_at_call 30; (with_reducible refine (wakes9_any _ (HLC.out _ HB.out)).mono ?_); rintro e z ⟨rfl, hb⟩; replace HB := Hk.mk (kw_step HB.out hNW hb); clear hb; clear hc hf hl hn' hm; obtain ⟨hc, hf, hl, hn', hm⟩ := kw_rules HB.out hNW))
  go_ret
  exact ⟨rfl, HTR.out _ HB.out⟩
theorem clearGrids_no (W H : Int) (a : Option Addr) (n c : Nat) (xs : List Int) (la : Option Addr) (ln lc : Nat) (bs : List Bd) (x : Int) (w : World) (hL : LC w) (h : By w w.heap.size a n xs) (hb0 : Bq w w.heap.size la ln bs) (hn : n ≤ 700) (hln : ln ≤ 30) (HV : Hk (gtP n ln = false)) (MM : Hk (¬ (MOk W H n xs bs ∧ 0 ≤ x ∧ x ≤ 2))) :
    Calls Tryd.prog 6 #[.agg #[.int .i64 W, .int .i64 H, .slice a n c, .slice la ln lc, .int .i64 x]] w fun e w' => e = .returned (.bool true) ∧ Below w.heap.size w w' := by
  have HWB : Hk (Below w.heap.size w (w.alloc (.cells #[.int .i64 W, .int .i64 H, .slice a n c, .slice la ln lc, .int .i64 x] 48))) := ⟨(Below.refl _ _).alloc (Nat.le_refl _) _⟩
  have hNW : w.heap.size + 1 ≤ (w.alloc (.cells #[.int .i64 W, .int .i64 H, .slice a n c, .slice la ln lc, .int .i64 x] 48)).heap.size := by simp
  have HB : Hk (Below (w.heap.size + 1) (w.alloc (.cells #[.int .i64 W, .int .i64 H, .slice a n c, .slice la ln lc, .int .i64 x] 48)) (w.alloc (.cells #[.int .i64 W, .int .i64 H, .slice a n c, .slice la ln lc, .int .i64 x] 48))) := ⟨Below.refl _ _⟩
  have HTR : Hk (∀ X, Below (w.heap.size + 1) (w.alloc (.cells #[.int .i64 W, .int .i64 H, .slice a n c, .slice la ln lc, .int .i64 x] 48)) X → Below w.heap.size w X) := ⟨fun X hX => HWB.out.trans (hX.mono (by omega))⟩
  have HBY := Hk.mk (fun (X : World) (hX : Below (w.heap.size + 1) (w.alloc (.cells #[.int .i64 W, .int .i64 H, .slice a n c, .slice la ln lc, .int .i64 x] 48)) X) => h.below (HTR.out X hX) (Nat.le_refl _))
  have HBQ := Hk.mk (fun (X : World) (hX : Below (w.heap.size + 1) (w.alloc (.cells #[.int .i64 W, .int .i64 H, .slice a n c, .slice la ln lc, .int .i64 x] 48)) X) => hb0.below (HTR.out X hX) (Nat.le_refl _))
  have HLC := Hk.mk (fun (X : World) (hX : Below (w.heap.size + 1) (w.alloc (.cells #[.int .i64 W, .int .i64 H, .slice a n c, .slice la ln lc, .int .i64 x] 48)) X) => hL.below (HTR.out X hX) (Nat.le_refl _))
  clear h hb0 hL
  obtain ⟨hc, hf, hl, hn', hm⟩ := kw_rules HB.out hNW
  go_enter Tryd.func6, Tryd.ntmps6
  go_wp2_with (first
    | (go_at_call 23; (with_reducible refine (heavy9_as false W H a n c _ ln lc _ _ (by omega) (by omega) HV).mono ?_); rintro e z ⟨rfl, hb⟩; replace HB := Hk.mk (kw_step HB.out hNW hb); clear hb; clear hc hf hl hn' hm; obtain ⟨hc, hf, hl, hn', hm⟩ := kw_rules HB.out hNW)
    | (go_at_call 24; (with_reducible refine (may9_no W H a n c xs la ln lc bs x _ ?_ ?_ (by omega) (by omega) MM).mono ?_); (exact (HBY.out _ HB.out).mono (hsz1 HB.out)); (exact (HBQ.out _ HB.out).mono (hsz1 HB.out)); rintro e z ⟨rfl, hb⟩; replace HB := Hk.mk (kw_step HB.out hNW hb); clear hb; clear hc hf hl hn' hm; obtain ⟨hc, hf, hl, hn', hm⟩ := kw_rules HB.out hNW)
    | (go_at_call 32; (refine (grid_no W H a n c xs la ln lc bs _ ?_ ?_ (by omega) (by omega) x MM).mono ?_); (exact (HBY.out _ HB.out).mono (hsz1 HB.out)); (exact (HBQ.out _ HB.out).mono (hsz1 HB.out)); rintro e z ⟨rfl, hb⟩; replace HB := Hk.mk (kw_step HB.out hNW hb); clear hb; clear hc hf hl hn' hm; obtain ⟨hc, hf, hl, hn', hm⟩ := kw_rules HB.out hNW)
    | (go_at_call 27; (with_reducible refine (num9_any _ _).mono ?_); rintro e z ⟨rfl, rfl⟩)
    | (go_at_call 33; (with_reducible refine (eqn_yes _ _ 0 _ _ 0 0 [] _ (Nq.nil _ _ _) (Nq.nil _ _ _) (by omega)).mono ?_); rintro e z ⟨rfl, mm, rfl⟩; replace HB := Hk.mk (below_drewN HB.out mm); clear hc hf hl hn' hm; obtain ⟨hc, hf, hl, hn', hm⟩ := kw_rules HB.out hNW)
    | (go_at_call 34; (with_reducible refine (numbers0 _ _ _ (Below.refl _ _) (Nat.le_refl _)).mono ?_); rintro e z ⟨rfl, hb⟩; replace HB := Hk.mk (kw_step HB.out hNW hb); clear hb; clear hc hf hl hn' hm; obtain ⟨hc, hf, hl, hn', hm⟩ := kw_rules HB.out hNW)
    | (go_at_call 30; (with_reducible refine (wakes9_any _ (HLC.out _ HB.out)).mono ?_); rintro e z ⟨rfl, hb⟩; replace HB := Hk.mk (kw_step HB.out hNW hb); clear hb; clear hc hf hl hn' hm; obtain ⟨hc, hf, hl, hn', hm⟩ := kw_rules HB.out hNW))
  go_ret
  exact ⟨rfl, HTR.out _ HB.out⟩
theorem clearGrids_walk (v : Value) (w : World) (hL : LC w) (rows : Asks9 w v) :
    Calls Tryd.prog 6 #[v] w fun e w' => e = .returned (.bool true) ∧ Below w.heap.size w w' := by
  obtain ⟨W, H, a, n, c, xs, la, ln, lc, bs, x, rfl, hW, hH, hx, hn, hlc, hcc, hby, hbq, hi⟩ := rows
  by_cases g : gtP n ln = true
  · exact clearGrids_big W H a n c xs la ln lc bs x w hL hby hbq hn (by omega) ⟨g⟩
  · have g' : gtP n ln = false := by simpa using g
    have hs : n ≤ 700 ∧ ln ≤ 30 := by unfold gtP at g'; simp at g'; exact g'
    by_cases M : MOk W H n xs bs ∧ 0 ≤ x ∧ x ≤ 2
    · obtain ⟨cl, rfl⟩ : ∃ cl : Nat, x = cl := ⟨x.toNat, by omega⟩
      exact clearGrids_yes W H a n c xs la ln lc bs cl w hL hby hbq hs.1 hs.2 hlc ⟨g'⟩ (by omega) ⟨M.1⟩
    · exact clearGrids_no W H a n c xs la ln lc bs x w hL hby hbq hs.1 hs.2 ⟨g'⟩ ⟨M⟩

theorem clearGrids_own : ownKnob Tryd.prog.godebug = none := by kernel_rfl
theorem clearGrids_laidOut : laidOutB Tryd.prog = true := by kernel_rfl
theorem clearGrids_door (os : Os) (args : Array Value) : laidMetH Tryd.prog [("throng/kind.costs", Rows.laid_throng_kind_costs)] ((World.doorLaid Tryd.prog 400 os).forCall (fun _ _ => 0) ⟨#[], args, []⟩).memory :=
  laidMetH_of_parts3 (fuel := 8) (laidMet_of_run' 8 (by kernel_rfl) (by kernel_rfl)) (by kernel_rfl) (by kernel_rfl)
set_option maxRecDepth 100000 in
theorem clearGrids_lifted (os : Os) (started : os.Started) (H : Type) (enc : TypeId × Value → H) :
    ReturnsInHanded {} Tryd.checked os 6 .any (fun w args => (Rows.clearGridsSpec.pre enc Tryd.prog Tryd.f6 [] false w args ∧ laidMetH Tryd.prog [("throng/kind.costs", Rows.laid_throng_kind_costs)] w) ∧ sizedMet enc Tryd.prog Tryd.f6 (OpenSpec.ofChange Rows.clearGridsSpec) false w args)
      (Rows.clearGridsSpec.post enc Tryd.prog Tryd.f6 false true false false) := by
  refine returnsInHanded_of_change_and (C := Tryd.checked) (X := fun w _ => laidMetH Tryd.prog [("throng/kind.costs", Rows.laid_throng_kind_costs)] w) (fun _ _ _ hh h => h.of_heap hh) clearGrids_own started (by kernel_rfl) Tryd.func6
    (ChangeSpec.witness_shaped (enc := enc) (C := Tryd.checked) (os := os) (X := fun w _ => laidMetH Tryd.prog [("throng/kind.costs", Rows.laid_throng_kind_costs)] w) false (World.doorLaid Tryd.prog 400 os) #[.agg #[.int .i64 0, .int .i64 0, .slice none 0 0, .slice none 0 0, .int .i64 0]] 8 rfl (World.shaped_of_RefB (by kernel_rfl) (by kernel_rfl)) (by kernel_rfl) (by kernel_rfl) (by kernel_rfl) (clearGrids_door os _)) ?_
  intro W base args ds gs before hval0 hW _ _ hL _
  have hval : ∀ (j : Nat) t v, Tryd.f6.params[j]? = some t → args[j]? = some v → Value.okWide Tryd.prog W .any base t v := hval0
  have hW' := hW
  obtain ⟨p, q, hA0, hV, rfl, hfz, hnd⟩ := hW
  have hA : DataW.TrodAll enc Tryd.prog W 0 (fun _ => true) true Tryd.f6.params.toList args.toList ds p := hA0
  rw [Tryd.params6] at hA hval
  obtain ⟨v0, vs0, d0, ds0, p0, q0, hargs, rfl, rfl, h0, r0⟩ := trodAll_cons hA
  obtain ⟨rfl, rfl, rfl⟩ := trodAll_nil r0
  obtain rfl : args = #[v0] := by cases args; simp_all
  obtain ⟨rfl, rfl⟩ := trodVars_none hV
  obtain ⟨cs0, rfl, hcs0⟩ := okWide_struct Tryd.underlying48 (hval 0 48 v0 rfl rfl)
  have k0 := h0
  have lt0 : ∀ x ∈ p0, x.block < W.heap.size := by obtain ⟨m, hm⟩ := k0; exact DataW.trod_lt m _ _ _ hm
  have rows : Asks9 W (.agg cs0) := by obtain ⟨fuel, hf⟩ := h0; exact asks9_of hcs0 hf
  clear hA0 hval0
  refine (clearGrids_walk (.agg cs0) W (of_laidC hL) rows).mono fun e W' ⟨he, bel⟩ => ?_
  subst he
  exact ⟨_, rfl, _, _, _, [], _, [], hW', trodAll_mk1 (shut_bool Tryd.underlying4 _), (trodAll_cons_mk (Below.trod clearGrids_laidOut (by kernel_rfl) (of_decide_eq_true (by kernel_rfl)) k0 bel lt0) trodAll_mk0), rfl, bel.frame _, fun h => by cases h⟩
theorem clearGrids_over : Rows.ClearGridsSaid :=
  OpenClaim.holds_of_wide 6 Tryd.f6 rfl rfl rfl rfl rfl rfl rfl ⟨rfl, rfl, rfl, rfl, rfl⟩ rfl rfl rfl rfl rfl (by kernel_rfl) Tryd.func6 (by kernel_rfl)
    (of_decide_eq_true (by kernel_rfl)) (by unfold Func.isWrapper; first | (rw [if_pos (by decide +kernel)]; kernel_rfl) | (rw [if_neg (by decide +kernel)]; exact ⟨rfl, rfl⟩))
    (fun os started H enc _ => clearGrids_lifted os started H enc)
/-- The given card of ClearGrids. -/
theorem clearGrids_card : Rows.ClearGridsCardSaid :=
  Claim7.holds_tied_plain_at .later [] [.data] true (true, "2c4bcf7ec666a06e3a39b6c766dcfdcece0d58204668e437dfc8163f308f0d77") false
    clearGrids_over (fun _ h => by cases h) (by kernel_rfl) (fun _ h => by cases h) clearGrids_row_tie rfl ⟨rfl, rfl⟩ (by kernel_rfl) rfl
    (fun f fn hf hfn => by
      obtain rfl : f = 6 := Option.some.inj ((show Tryd.prog.funcNamed "throng/thronglaw9.ClearGrids" = some 6 by kernel_rfl).symm.trans hf) |>.symm
      obtain rfl : fn = Tryd.f6 := (Option.some.inj (Tryd.func6.symm.trans hfn)).symm
      exact ⟨by kernel_rfl, fun j t ht => by
        rw [Tryd.params6] at ht
        have hm : t ∈ [48] := by simpa using Array.mem_of_getElem? ht
        have hall : ([48].all fun u => !Tryd.prog.wantsStandIn u) = true := by kernel_rfl
        exact (show Tryd.prog.wantsStandIn t = false by simpa using List.all_eq_true.1 hall t hm)⟩)
    (by kernel_rfl)
end Go.Proofs.YtjjodfdmbiebnaaDoor

