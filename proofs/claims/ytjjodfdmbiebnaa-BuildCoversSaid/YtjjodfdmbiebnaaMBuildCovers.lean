import Derived.Deep.QuietTactic
import Derived.BigQuiet
import Derived.Deep.RegionWith
import Derived.Deep.RegionHeld3
import Derived.Deep.DeepCutAuto
import Derived.Deep.DeepFit
import Derived.Outline
import Derived.Test.YtjjodfdmbiebnaaRk
/- For every argument, BuildCovers answers true and leaves its argument as it was: which tiles any buildings cover is the page's, or refused. No condition. -/
namespace Go.Proofs.Ytjjodfdmbiebnaa
open Go.ChangeShapes Go.WideShapes Go.ChangeAt Go.RowKit Go.Deep
set_option linter.unusedVariables false
set_option linter.unusedSimpArgs false
set_option maxRecDepth 100000 in
theorem buildCovers_big (W H : Int) (a : Option Addr) (n c : Nat) (xs : List Int) (la : Option Addr) (ln lc : Nat) (bs : List Bd) (ma : Option Addr) (mn mc : Nat) (ia : Option Addr) (im ic : Nat) (w : World) (h : By w w.heap.size a n xs) (hb0 : Bq w w.heap.size la ln bs) (hn : n ≤ 9223372036854775807) (hln : ln ≤ 9223372036854775807) (HV : Hk (gtA n ln mn im = true)) :
    Calls Try.prog 5 #[.agg #[.int .i64 W, .int .i64 H, .slice a n c, .slice la ln lc, .slice ma mn mc, .slice ia im ic]] w fun e w' => e = .returned (.bool true) ∧ Below w.heap.size w w' := by
  have HWB : Hk (Below w.heap.size w (w.alloc (.cells #[.int .i64 W, .int .i64 H, .slice a n c, .slice la ln lc, .slice ma mn mc, .slice ia im ic] 28))) := ⟨(Below.refl _ _).alloc (Nat.le_refl _) _⟩
  have hNW : w.heap.size + 1 ≤ (w.alloc (.cells #[.int .i64 W, .int .i64 H, .slice a n c, .slice la ln lc, .slice ma mn mc, .slice ia im ic] 28)).heap.size := by simp
  have HB : Hk (Below (w.heap.size + 1) (w.alloc (.cells #[.int .i64 W, .int .i64 H, .slice a n c, .slice la ln lc, .slice ma mn mc, .slice ia im ic] 28)) (w.alloc (.cells #[.int .i64 W, .int .i64 H, .slice a n c, .slice la ln lc, .slice ma mn mc, .slice ia im ic] 28))) := ⟨Below.refl _ _⟩
  have HTR : Hk (∀ X, Below (w.heap.size + 1) (w.alloc (.cells #[.int .i64 W, .int .i64 H, .slice a n c, .slice la ln lc, .slice ma mn mc, .slice ia im ic] 28)) X → Below w.heap.size w X) := ⟨fun X hX => HWB.out.trans (hX.mono (by omega))⟩
  clear h hb0
  obtain ⟨hc, hf, hl, hn', hm⟩ := kw_rules HB.out hNW
  go_enter Try.func5, Try.ntmps5
  go_wp2_with (go_at_call 14; (with_reducible refine (heavy8_as true W H a n c la ln lc ma mn mc ia im ic _ (by omega) (by omega) HV).mono ?_); rintro e z ⟨rfl, hb⟩; replace HB := Hk.mk (kw_step HB.out hNW hb); clear hb; clear hc hf hl hn' hm; obtain ⟨hc, hf, hl, hn', hm⟩ := kw_rules HB.out hNW)
  go_ret
  exact ⟨rfl, HTR.out _ HB.out⟩
set_option maxRecDepth 100000 in
theorem buildCovers_yes (W H : Int) (a : Option Addr) (n c : Nat) (xs : List Int) (la : Option Addr) (ln lc : Nat) (bs : List Bd) (ma : Option Addr) (mn mc : Nat) (ia : Option Addr) (im ic : Nat) (w : World) (h : By w w.heap.size a n xs) (hb0 : Bq w w.heap.size la ln bs) (hn : n ≤ 700) (hln : ln ≤ 30) (HV : Hk (gtA n ln mn im = false)) (MM : Hk (MOk W H n xs bs)) :
    Calls Try.prog 5 #[.agg #[.int .i64 W, .int .i64 H, .slice a n c, .slice la ln lc, .slice ma mn mc, .slice ia im ic]] w fun e w' => e = .returned (.bool true) ∧ Below w.heap.size w w' := by
  have HCK : Hk (ckE W H n xs bs = 0) := ⟨by unfold ckE; rw [if_pos MM.out]⟩
  have HWB : Hk (Below w.heap.size w (w.alloc (.cells #[.int .i64 W, .int .i64 H, .slice a n c, .slice la ln lc, .slice ma mn mc, .slice ia im ic] 28))) := ⟨(Below.refl _ _).alloc (Nat.le_refl _) _⟩
  have hNW : w.heap.size + 1 ≤ (w.alloc (.cells #[.int .i64 W, .int .i64 H, .slice a n c, .slice la ln lc, .slice ma mn mc, .slice ia im ic] 28)).heap.size := by simp
  have HB : Hk (Below (w.heap.size + 1) (w.alloc (.cells #[.int .i64 W, .int .i64 H, .slice a n c, .slice la ln lc, .slice ma mn mc, .slice ia im ic] 28)) (w.alloc (.cells #[.int .i64 W, .int .i64 H, .slice a n c, .slice la ln lc, .slice ma mn mc, .slice ia im ic] 28))) := ⟨Below.refl _ _⟩
  have HTR : Hk (∀ X, Below (w.heap.size + 1) (w.alloc (.cells #[.int .i64 W, .int .i64 H, .slice a n c, .slice la ln lc, .slice ma mn mc, .slice ia im ic] 28)) X → Below w.heap.size w X) := ⟨fun X hX => HWB.out.trans (hX.mono (by omega))⟩
  have HBY := Hk.mk (fun (X : World) (hX : Below (w.heap.size + 1) (w.alloc (.cells #[.int .i64 W, .int .i64 H, .slice a n c, .slice la ln lc, .slice ma mn mc, .slice ia im ic] 28)) X) => h.below (HTR.out X hX) (Nat.le_refl _))
  have HBQ := Hk.mk (fun (X : World) (hX : Below (w.heap.size + 1) (w.alloc (.cells #[.int .i64 W, .int .i64 H, .slice a n c, .slice la ln lc, .slice ma mn mc, .slice ia im ic] 28)) X) => hb0.below (HTR.out X hX) (Nat.le_refl _))
  clear h hb0
  obtain ⟨hc, hf, hl, hn', hm⟩ := kw_rules HB.out hNW
  go_enter Try.func5, Try.ntmps5
  go_wp2_with (first
    | (go_at_call 14; (with_reducible refine (heavy8_as false W H a n c la ln lc ma mn mc ia im ic _ (by omega) (by omega) HV).mono ?_); rintro e z ⟨rfl, hb⟩; replace HB := Hk.mk (kw_step HB.out hNW hb); clear hb; clear hc hf hl hn' hm; obtain ⟨hc, hf, hl, hn', hm⟩ := kw_rules HB.out hNW)
    | (go_at_call 16; (with_reducible refine (check8_as 0 W H a n c xs la ln lc bs _ ?_ ?_ (by omega) (by omega) HCK).mono ?_); (exact (HBY.out _ HB.out).mono (hsz1 HB.out)); (exact (HBQ.out _ HB.out).mono (hsz1 HB.out)); rintro e z ⟨rfl, hb⟩; replace HB := Hk.mk (kw_step HB.out hNW hb); clear hb; clear hc hf hl hn' hm; obtain ⟨hc, hf, hl, hn', hm⟩ := kw_rules HB.out hNW)
    | (go_at_call 27; (with_reducible refine (rcov_any W H a n c xs la ln lc bs _ ?_ MM).mono ?_); (exact (HBQ.out _ HB.out).mono (hsz1 HB.out)); rintro e z ⟨I, rfl, hg1, hA1, hb⟩; have HA1 := Hk.mk hA1; clear hA1 hg1; replace HB := Hk.mk (kw_step HB.out hNW hb); clear hb; clear hc hf hl hn' hm; obtain ⟨hc, hf, hl, hn', hm⟩ := kw_rules HB.out hNW)
    | (go_at_call 28; (with_reducible refine (cov_yes W H a n c xs la ln lc bs _ ?_ ?_ (by omega) (by omega) MM).mono ?_); (exact (HBY.out _ HB.out).mono (hsz1 HB.out)); (exact (HBQ.out _ HB.out).mono (hsz1 HB.out)); rintro e z ⟨J, rfl, hg2, hA2, hb⟩; replace HA1 := Hk.mk (HA1.out.later hb); have HA2 := Hk.mk hA2; have HJ : Hk (w.heap.size + 1 ≤ J) := ⟨by have := kw_size HB.out hNW; omega⟩; clear hA2 hg2; replace HB := Hk.mk (kw_step HB.out hNW hb); clear hb; clear hc hf hl hn' hm; obtain ⟨hc, hf, hl, hn', hm⟩ := kw_rules HB.out hNW)
    | (go_at_call 19; (with_reducible refine (num8_any _ _).mono ?_); rintro e z ⟨rfl, rfl⟩)
    | (go_at_call 29; (with_reducible refine (eqbl_yes _ _ n _ _ (J + 1) (I + 1) (fun k => cvB W bs k) _ HA2.out.rd0 HA1.out.rd0 (by omega)).mono ?_); rintro e z ⟨rfl, mm, rfl⟩; replace HA2 := Hk.mk (HA2.out.drewN mm); replace HB := Hk.mk (below_drewN HB.out mm); clear hc hf hl hn' hm; obtain ⟨hc, hf, hl, hn', hm⟩ := kw_rules HB.out hNW)
    | (go_at_call 30; (with_reducible refine (bools_as n J (fun k => cvB W bs k) _ HA2.out (by omega)).mono ?_); rintro e z ⟨rfl, hb⟩; replace HB := Hk.mk (HB.out.trans (hb.mono HJ.out)); clear hb; clear hc hf hl hn' hm; obtain ⟨hc, hf, hl, hn', hm⟩ := kw_rules HB.out hNW)
    | (go_at_call 23; (with_reducible refine (wakes8_any _).mono ?_); rintro e z ⟨rfl, hb⟩; replace HB := Hk.mk (kw_step HB.out hNW hb); clear hb; clear hc hf hl hn' hm; obtain ⟨hc, hf, hl, hn', hm⟩ := kw_rules HB.out hNW))
  go_ret
  exact ⟨rfl, HTR.out _ HB.out⟩
set_option maxRecDepth 100000 in
theorem buildCovers_no (W H : Int) (a : Option Addr) (n c : Nat) (xs : List Int) (la : Option Addr) (ln lc : Nat) (bs : List Bd) (ma : Option Addr) (mn mc : Nat) (ia : Option Addr) (im ic : Nat) (w : World) (h : By w w.heap.size a n xs) (hb0 : Bq w w.heap.size la ln bs) (hn : n ≤ 700) (hln : ln ≤ 30) (HV : Hk (gtA n ln mn im = false)) (MM : Hk (¬ MOk W H n xs bs)) :
    Calls Try.prog 5 #[.agg #[.int .i64 W, .int .i64 H, .slice a n c, .slice la ln lc, .slice ma mn mc, .slice ia im ic]] w fun e w' => e = .returned (.bool true) ∧ Below w.heap.size w w' := by
  have HCK : Hk (ckE W H n xs bs = 1) := ⟨by unfold ckE; rw [if_neg MM.out]⟩
  have HWB : Hk (Below w.heap.size w (w.alloc (.cells #[.int .i64 W, .int .i64 H, .slice a n c, .slice la ln lc, .slice ma mn mc, .slice ia im ic] 28))) := ⟨(Below.refl _ _).alloc (Nat.le_refl _) _⟩
  have hNW : w.heap.size + 1 ≤ (w.alloc (.cells #[.int .i64 W, .int .i64 H, .slice a n c, .slice la ln lc, .slice ma mn mc, .slice ia im ic] 28)).heap.size := by simp
  have HB : Hk (Below (w.heap.size + 1) (w.alloc (.cells #[.int .i64 W, .int .i64 H, .slice a n c, .slice la ln lc, .slice ma mn mc, .slice ia im ic] 28)) (w.alloc (.cells #[.int .i64 W, .int .i64 H, .slice a n c, .slice la ln lc, .slice ma mn mc, .slice ia im ic] 28))) := ⟨Below.refl _ _⟩
  have HTR : Hk (∀ X, Below (w.heap.size + 1) (w.alloc (.cells #[.int .i64 W, .int .i64 H, .slice a n c, .slice la ln lc, .slice ma mn mc, .slice ia im ic] 28)) X → Below w.heap.size w X) := ⟨fun X hX => HWB.out.trans (hX.mono (by omega))⟩
  have HBY := Hk.mk (fun (X : World) (hX : Below (w.heap.size + 1) (w.alloc (.cells #[.int .i64 W, .int .i64 H, .slice a n c, .slice la ln lc, .slice ma mn mc, .slice ia im ic] 28)) X) => h.below (HTR.out X hX) (Nat.le_refl _))
  have HBQ := Hk.mk (fun (X : World) (hX : Below (w.heap.size + 1) (w.alloc (.cells #[.int .i64 W, .int .i64 H, .slice a n c, .slice la ln lc, .slice ma mn mc, .slice ia im ic] 28)) X) => hb0.below (HTR.out X hX) (Nat.le_refl _))
  clear h hb0
  obtain ⟨hc, hf, hl, hn', hm⟩ := kw_rules HB.out hNW
  go_enter Try.func5, Try.ntmps5
  go_wp2_with (first
    | (go_at_call 14; (with_reducible refine (heavy8_as false W H a n c la ln lc ma mn mc ia im ic _ (by omega) (by omega) HV).mono ?_); rintro e z ⟨rfl, hb⟩; replace HB := Hk.mk (kw_step HB.out hNW hb); clear hb; clear hc hf hl hn' hm; obtain ⟨hc, hf, hl, hn', hm⟩ := kw_rules HB.out hNW)
    | (go_at_call 16; (with_reducible refine (check8_as 1 W H a n c xs la ln lc bs _ ?_ ?_ (by omega) (by omega) HCK).mono ?_); (exact (HBY.out _ HB.out).mono (hsz1 HB.out)); (exact (HBQ.out _ HB.out).mono (hsz1 HB.out)); rintro e z ⟨rfl, hb⟩; replace HB := Hk.mk (kw_step HB.out hNW hb); clear hb; clear hc hf hl hn' hm; obtain ⟨hc, hf, hl, hn', hm⟩ := kw_rules HB.out hNW)
    | (go_at_call 28; (with_reducible refine (cov_no W H a n c xs la ln lc bs _ ?_ ?_ (by omega) (by omega) MM).mono ?_); (exact (HBY.out _ HB.out).mono (hsz1 HB.out)); (exact (HBQ.out _ HB.out).mono (hsz1 HB.out)); rintro e z ⟨rfl, hb⟩; replace HB := Hk.mk (kw_step HB.out hNW hb); clear hb; clear hc hf hl hn' hm; obtain ⟨hc, hf, hl, hn', hm⟩ := kw_rules HB.out hNW)
    | (go_at_call 19; (with_reducible refine (num8_any _ _).mono ?_); rintro e z ⟨rfl, rfl⟩)
    | (go_at_call 29; (with_reducible refine (eqbl_yes _ _ 0 _ _ 0 0 (fun _ => true) _ (rd_nil _ _ _ _) (rd_nil _ _ _ _) (by omega)).mono ?_); rintro e z ⟨rfl, mm, rfl⟩; replace HB := Hk.mk (below_drewN HB.out mm); clear hc hf hl hn' hm; obtain ⟨hc, hf, hl, hn', hm⟩ := kw_rules HB.out hNW)
    | (go_at_call 30; (with_reducible refine (bools_nil _).mono ?_); rintro e z ⟨rfl, hb⟩; replace HB := Hk.mk (kw_step HB.out hNW hb); clear hb; clear hc hf hl hn' hm; obtain ⟨hc, hf, hl, hn', hm⟩ := kw_rules HB.out hNW)
    | (go_at_call 23; (with_reducible refine (wakes8_any _).mono ?_); rintro e z ⟨rfl, hb⟩; replace HB := Hk.mk (kw_step HB.out hNW hb); clear hb; clear hc hf hl hn' hm; obtain ⟨hc, hf, hl, hn', hm⟩ := kw_rules HB.out hNW))
  go_ret
  exact ⟨rfl, HTR.out _ HB.out⟩
theorem buildCovers_walk (v : Value) (w : World) (rows : Asks8 w v) :
    Calls Try.prog 5 #[v] w fun e w' => e = .returned (.bool true) ∧ Below w.heap.size w w' := by
  obtain ⟨W, H, a, n, c, xs, la, ln, lc, bs, ma, mn, mc, ms, ia, im, ic, js, rfl, hW, hH, hn, hlc, hcc, hby, hbq, hi, hmc, hc2, hmq, hj, him, hnq⟩ := rows
  by_cases g : gtA n ln mn im = true
  · exact buildCovers_big W H a n c xs la ln lc bs ma mn mc ia im ic w hby hbq hn (by omega) ⟨g⟩
  · have g' : gtA n ln mn im = false := by simpa using g
    have hs : n ≤ 700 ∧ ln ≤ 30 := by unfold gtA at g'; simp at g'; omega
    by_cases M : MOk W H n xs bs
    · exact buildCovers_yes W H a n c xs la ln lc bs ma mn mc ia im ic w hby hbq hs.1 hs.2 ⟨g'⟩ ⟨M⟩
    · exact buildCovers_no W H a n c xs la ln lc bs ma mn mc ia im ic w hby hbq hs.1 hs.2 ⟨g'⟩ ⟨M⟩

theorem buildCovers_own : ownKnob Try.prog.godebug = none := by kernel_rfl
theorem buildCovers_laidOut : laidOutB Try.prog = true := by kernel_rfl
set_option maxRecDepth 100000 in
theorem buildCovers_lifted (os : Os) (started : os.Started) (H : Type) (enc : TypeId × Value → H) :
    ReturnsInHanded {} Try.checked os 5 .any (Rows.buildCoversSpec.pre6 enc Try.prog Try.f5 Rows.buildCoversRow.domain false) (Rows.buildCoversSpec.post enc Try.prog Try.f5 false true false false) := by
  refine returnsInHanded_of_change (C := Try.checked) buildCovers_own started (by kernel_rfl) Try.func5
    (ChangeSpec.witness6 (enc := enc) (C := Try.checked) false ⟨#[], #[.agg #[.int .i64 0, .int .i64 0, .slice none 0 0, .slice none 0 0, .slice none 0 0, .slice none 0 0]], []⟩ 8 (by kernel_rfl) (by kernel_rfl) (by kernel_rfl) (by kernel_rfl)) ?_
  intro W base args ds gs before hval0 hW hcnd _
  have hval : ∀ (j : Nat) t v, Try.f5.params[j]? = some t → args[j]? = some v → Value.okWide Try.prog W .any base t v := hval0
  have hW' := hW
  obtain ⟨p, q, hA0, hV, rfl, hfz, hnd⟩ := hW
  have hA : DataW.TrodAll enc Try.prog W 0 (fun _ => true) true Try.f5.params.toList args.toList ds p := hA0
  rw [Try.params5] at hA hval
  obtain ⟨v0, vs0, d0, ds0, p0, q0, hargs, rfl, rfl, h0, r0⟩ := trodAll_cons hA
  obtain ⟨rfl, rfl, rfl⟩ := trodAll_nil r0
  obtain rfl : args = #[v0] := by cases args; simp_all
  obtain ⟨rfl, rfl⟩ := trodVars_none hV
  obtain ⟨cs0, rfl, hcs0⟩ := okWide_struct Try.underlying28 (hval 0 28 v0 rfl rfl)
  have k0 := h0
  have lt0 : ∀ x ∈ p0, x.block < W.heap.size := by obtain ⟨m, hm⟩ := k0; exact DataW.trod_lt m _ _ _ hm
  have rows : Asks8 W (.agg cs0) := by obtain ⟨fuel, hf⟩ := h0; exact asks8_of hcs0 hf
  clear hA0 hval0
  refine (buildCovers_walk (.agg cs0) W rows).mono fun e W' ⟨he, bel⟩ => ?_
  subst he
  exact ⟨_, rfl, _, _, _, [], _, [], hW', trodAll_mk1 (shut_bool Try.underlying4 _), (trodAll_cons_mk (Below.trod buildCovers_laidOut (by kernel_rfl) (of_decide_eq_true (by kernel_rfl)) k0 bel lt0) trodAll_mk0), rfl, bel.frame _, fun h => by cases h⟩
theorem buildCovers_over : Rows.buildCoversRow.holds Try.pinned (OpenSpec.ofChange Rows.buildCoversSpec) :=
  OpenClaim.holds_of_wide 5 Try.f5 rfl rfl rfl rfl rfl rfl rfl ⟨rfl, rfl, rfl, rfl, rfl⟩ rfl rfl rfl rfl rfl (by kernel_rfl) Try.func5 (by kernel_rfl)
    (of_decide_eq_true (by kernel_rfl)) (by unfold Func.isWrapper; first | (rw [if_pos (by decide +kernel)]; kernel_rfl) | (rw [if_neg (by decide +kernel)]; exact ⟨rfl, rfl⟩))
    (fun os started H enc _ => buildCovers_lifted os started H enc)
/-- The given statement of BuildCovers. -/
theorem buildCovers_holds : Rows.BuildCoversSaid := buildCovers_over
end Go.Proofs.Ytjjodfdmbiebnaa

