import Derived.Deep.QuietTactic
import Derived.BigQuiet
import Derived.Deep.RegionWith
import Derived.Deep.RegionHeld3
import Derived.Deep.DeepCutAuto
import Derived.Deep.DeepFit
import Derived.Outline
import Derived.ProofKit
import Derived.OpenShut
import Derived.ChangeSame
import Derived.Test.YtcgilmjhbdehpaaZbs
/- For every argument, PortalJoins answers true and leaves its argument as it was: two free tiles of two sectors that stand side by side belong to parts that some portal joins. No condition. -/
namespace Go.Proofs.Ytcgilmjhbdehpaa
open Go.ChangeShapes Go.WideShapes Go.ChangeAt Go.RowKit Go.Deep
set_option linter.unusedVariables false
set_option linter.unusedSimpArgs false
set_option maxRecDepth 100000 in
theorem portalJoins_big (W H : Int) (fa : Option Addr) (fn fc : Nat) (fr : Nat → Bool) (ta : Option Addr) (tn tc : Nat) (ts : List Int) (pa : Option Addr) (pn pc : Nat) (ps : List Int) (w : World) (hfn : fn ≤ 9223372036854775807) (htn : tn ≤ 9223372036854775807) (hpn : pn ≤ 9223372036854775807) (hfr : Rd w w.heap.size fa fn (fun k => .bool (fr k))) (hts : Nq w w.heap.size (ta) tn ts) (hps : Nq w w.heap.size (pa) pn ps) (hv : 900 < fn) :
    Calls Try.prog 5 #[.agg #[.int .i64 W, .int .i64 H, .slice fa fn fc, .slice (ta) tn tc, .slice (pa) pn pc]] w fun e w' => e = .returned (.bool true) ∧ Below w.heap.size w w' := by
  have HWB : Hk (Below w.heap.size w (w.alloc (.cells #[.int .i64 W, .int .i64 H, .slice fa fn fc, .slice (ta) tn tc, .slice (pa) pn pc] 25))) := ⟨(Below.refl _ _).alloc (Nat.le_refl _) _⟩
  have hNW : (w.heap.size + 1) ≤ (w.alloc (.cells #[.int .i64 W, .int .i64 H, .slice fa fn fc, .slice (ta) tn tc, .slice (pa) pn pc] 25)).heap.size := by simp
  have HB : Hk (Below (w.heap.size + 1) (w.alloc (.cells #[.int .i64 W, .int .i64 H, .slice fa fn fc, .slice (ta) tn tc, .slice (pa) pn pc] 25)) (w.alloc (.cells #[.int .i64 W, .int .i64 H, .slice fa fn fc, .slice (ta) tn tc, .slice (pa) pn pc] 25))) := ⟨Below.refl _ _⟩
  have HTR : Hk (∀ X, Below (w.heap.size + 1) (w.alloc (.cells #[.int .i64 W, .int .i64 H, .slice fa fn fc, .slice (ta) tn tc, .slice (pa) pn pc] 25)) X → Below w.heap.size w X) := ⟨fun X hX => HWB.out.trans (hX.mono (by omega))⟩
  clear hfr hts hps
  obtain ⟨hc, hf, hl, hn', hm⟩ := kw_rules HB.out hNW
  go_enter Try.func5, Try.ntmps5
  go_wp2_with (go_at_call 8; (with_reducible refine (heavy11_any W H fa ta pa fn fc tn tc pn pc _ true (decide_eq_true hv)).mono ?_); rintro e z ⟨rfl, hb⟩; replace HB := Hk.mk (kw_step HB.out hNW hb); clear hb; clear hc hf hl hn' hm; obtain ⟨hc, hf, hl, hn', hm⟩ := kw_rules HB.out hNW)
  go_ret
  exact ⟨rfl, HTR.out _ HB.out⟩
set_option maxRecDepth 100000 in
theorem portalJoins_no (W H : Int) (fa : Option Addr) (fn fc : Nat) (fr : Nat → Bool) (ta : Option Addr) (tn tc : Nat) (ts : List Int) (pa : Option Addr) (pn pc : Nat) (ps : List Int) (w : World) (hfn : fn ≤ 9223372036854775807) (htn : tn ≤ 9223372036854775807) (hpn : pn ≤ 9223372036854775807) (hfr : Rd w w.heap.size fa fn (fun k => .bool (fr k))) (hts : Nq w w.heap.size (ta) tn ts) (hps : Nq w w.heap.size (pa) pn ps) (hv : ¬ 900 < fn) (MM : Hk (mayS W H fn = false)) :
    Calls Try.prog 5 #[.agg #[.int .i64 W, .int .i64 H, .slice fa fn fc, .slice (ta) tn tc, .slice (pa) pn pc]] w fun e w' => e = .returned (.bool true) ∧ Below w.heap.size w w' := by
  have HWB : Hk (Below w.heap.size w (w.alloc (.cells #[.int .i64 W, .int .i64 H, .slice fa fn fc, .slice (ta) tn tc, .slice (pa) pn pc] 25))) := ⟨(Below.refl _ _).alloc (Nat.le_refl _) _⟩
  have hNW : (w.heap.size + 1) ≤ (w.alloc (.cells #[.int .i64 W, .int .i64 H, .slice fa fn fc, .slice (ta) tn tc, .slice (pa) pn pc] 25)).heap.size := by simp
  have HB : Hk (Below (w.heap.size + 1) (w.alloc (.cells #[.int .i64 W, .int .i64 H, .slice fa fn fc, .slice (ta) tn tc, .slice (pa) pn pc] 25)) (w.alloc (.cells #[.int .i64 W, .int .i64 H, .slice fa fn fc, .slice (ta) tn tc, .slice (pa) pn pc] 25))) := ⟨Below.refl _ _⟩
  have HTR : Hk (∀ X, Below (w.heap.size + 1) (w.alloc (.cells #[.int .i64 W, .int .i64 H, .slice fa fn fc, .slice (ta) tn tc, .slice (pa) pn pc] 25)) X → Below w.heap.size w X) := ⟨fun X hX => HWB.out.trans (hX.mono (by omega))⟩
  clear hfr hts hps
  obtain ⟨hc, hf, hl, hn', hm⟩ := kw_rules HB.out hNW
  go_enter Try.func5, Try.ntmps5
  go_wp2_with (first
    | (go_at_call 8; (with_reducible refine (heavy11_any W H fa ta pa fn fc tn tc pn pc _ false (decide_eq_false hv)).mono ?_); rintro e z ⟨rfl, hb⟩; replace HB := Hk.mk (kw_step HB.out hNW hb); clear hb; clear hc hf hl hn' hm; obtain ⟨hc, hf, hl, hn', hm⟩ := kw_rules HB.out hNW)
    | (go_at_call 12; (with_reducible refine (find_no W H fa fn fc _ MM).mono ?_); rintro e z ⟨rfl, hb⟩; replace HB := Hk.mk (kw_step HB.out hNW hb); clear hb; clear hc hf hl hn' hm; obtain ⟨hc, hf, hl, hn', hm⟩ := kw_rules HB.out hNW)
    | (go_at_call 19; (with_reducible refine (sparts_no W H fa fn fc _ MM).mono ?_); rintro e z ⟨rfl, hb⟩; replace HB := Hk.mk (kw_step HB.out hNW hb); clear hb; clear hc hf hl hn' hm; obtain ⟨hc, hf, hl, hn', hm⟩ := kw_rules HB.out hNW)
    | (go_at_call 13; (with_reducible refine (num11_any _ _).mono ?_); rintro e z2 ⟨rfl, hz⟩; rw [hz]; clear hz z2))
  go_ret
  exact ⟨rfl, HTR.out _ HB.out⟩
theorem portalJoins_walk (v : Value) (w : World) (rows : Asks10b w v) :
    Calls Try.prog 5 #[v] w fun e w' => e = .returned (.bool true) ∧ Below w.heap.size w w' := by
  obtain ⟨W, H, fa, fn, fc, fr, ta, tn, tc, ts, pa, pn, pc, ps, rfl, hfn, htn, hpn, hfr, hts, hps⟩ := rows
  by_cases hv : 900 < fn
  · exact portalJoins_big W H fa fn fc fr ta tn tc ts pa pn pc ps w hfn htn hpn hfr hts hps hv
  · cases hm : mayS W H fn
    · exact portalJoins_no W H fa fn fc fr ta tn tc ts pa pn pc ps w hfn htn hpn hfr hts hps hv ⟨hm⟩
    · obtain ⟨⟨w1, w2, h1, h2⟩, hn⟩ := mayS_yes hm
      have hp : 1 * 1 ≤ W * H := Int.mul_le_mul w1 h1 (by omega) (by omega)
      have hn0 : 0 < fn := by omega
      obtain ⟨fb, fo, rfl, hfl, hF⟩ := hfr hn0
      exact portalJoins_yes W H W.toNat H.toNat (by omega) (by omega) fb fo fc fn fr ta tn tc pa pn pc w (by omega) hfl hF w1 w2 h1 h2 hn

theorem portalJoins_own : ownKnob Try.prog.godebug = none := by kernel_rfl
theorem portalJoins_laidOut : laidOutB Try.prog = true := by kernel_rfl
set_option maxRecDepth 100000 in
theorem portalJoins_lifted (os : Os) (started : os.Started) (H : Type) (enc : TypeId × Value → H) :
    ReturnsInHanded {} Try.checked os 5 .any (Rows.portalJoinsSpec.pre6 enc Try.prog Try.f5 Rows.portalJoinsRow.domain false) (Rows.portalJoinsSpec.post enc Try.prog Try.f5 false true false false) := by
  refine returnsInHanded_of_change (C := Try.checked) portalJoins_own started (by kernel_rfl) Try.func5
    (ChangeSpec.witness6 (enc := enc) (C := Try.checked) false ⟨#[], #[.agg #[.int .i64 0, .int .i64 0, .slice none 0 0, .slice none 0 0, .slice none 0 0]], []⟩ 8 (by kernel_rfl) (by kernel_rfl) (by kernel_rfl) (by kernel_rfl)) ?_
  intro W base args ds gs before hval0 hW hcnd _
  have hval : ∀ (j : Nat) t v, Try.f5.params[j]? = some t → args[j]? = some v → Value.okWide Try.prog W .any base t v := hval0
  have hW' := hW
  obtain ⟨p, q, hA0, hV, rfl, hfz, hnd⟩ := hW
  have hA : DataW.TrodAll enc Try.prog W 0 (fun _ => true) true Try.f5.params.toList args.toList ds p := hA0
  rw [Try.params5] at hA hval
  obtain ⟨v0, vs0, d0, ds0, p0, q0, hargs, rfl, rfl, h0, r0⟩ := trodAll_cons hA
  obtain ⟨rfl, rfl, rfl⟩ := trodAll_nil r0
  obtain rfl : args = #[v0] := by cases args; simp_all
  obtain ⟨rfl, rfl⟩ := trodVars_none hV
  obtain ⟨cs0, rfl, hcs0⟩ := okWide_struct Try.underlying25 (hval 0 25 v0 rfl rfl)
  have k0 := h0
  have lt0 : ∀ x ∈ p0, x.block < W.heap.size := by obtain ⟨m, hm⟩ := k0; exact DataW.trod_lt m _ _ _ hm
  have rows : Asks10b W (.agg cs0) := by obtain ⟨fuel, hf⟩ := h0; exact asks10b_of hcs0 hf
  clear hA0 hval0
  refine (portalJoins_walk (.agg cs0) W rows).mono fun e W' ⟨he, bel⟩ => ?_
  subst he
  exact ⟨_, rfl, _, _, _, [], _, [], hW', trodAll_mk1 (shut_bool Try.underlying4 _), (trodAll_cons_mk (Below.trod portalJoins_laidOut (by kernel_rfl) (of_decide_eq_true (by kernel_rfl)) k0 bel lt0) trodAll_mk0), rfl, bel.frame _, fun h => by cases h⟩
theorem portalJoins_over : Rows.portalJoinsRow.holds Try.pinned (OpenSpec.ofChange Rows.portalJoinsSpec) :=
  OpenClaim.holds_of_wide 5 Try.f5 rfl rfl rfl rfl rfl rfl rfl ⟨rfl, rfl, rfl, rfl, rfl⟩ rfl rfl rfl rfl rfl (by kernel_rfl) Try.func5 (by kernel_rfl)
    (of_decide_eq_true (by kernel_rfl)) (by unfold Func.isWrapper; first | (rw [if_pos (by decide +kernel)]; kernel_rfl) | (rw [if_neg (by decide +kernel)]; exact ⟨rfl, rfl⟩))
    (fun os started H enc _ => portalJoins_lifted os started H enc)
/-- The given statement of PortalJoins. -/
theorem portalJoins_holds : Rows.PortalJoinsSaid := portalJoins_over
end Go.Proofs.Ytcgilmjhbdehpaa

