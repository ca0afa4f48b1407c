import Derived.Deep.QuietTactic
import Derived.BigQuiet
import Derived.Deep.RegionWith
import Derived.Deep.RegionHeld3
import Derived.Deep.DeepCutAuto
import Derived.Deep.DeepFit
import Derived.Outline
import Derived.ProofKit
import Derived.OpenShut
import Derived.ChangeSame
import Derived.Test.YtdpblimhfmfbnaaGreatZvam
import Derived.Test.YtdpblimhfmfbnaaGreatZvat
import Derived.Test.YtdpblimhfmfbnaaGreatZvau
/- For every argument, PeerSays answers true and leaves its argument as it was: what any peer is when it says something is the reference's, or it is refused. No condition. -/
namespace Go.Proofs.YtdpblimhfmfbnaaGreat
open Go.ChangeShapes Go.WideShapes Go.ChangeAt Go.RowKit Go.Deep
set_option linter.unusedVariables false
set_option linter.unusedSimpArgs false
/-- Of a peer that may be nobody's input of the turn that it says waits. -/
theorem say_put {p : Pm} (h : OkP p) (c : List Cm) : ∃ M, putN (sayI p c) p.l = some M := by
  refine put_total fun a ha => ?_
  obtain ⟨h1, h2, h3⟩ := h.w.all a ha
  apply Classical.byContradiction
  intro hn
  have e : a.t = p.s + 1 ∧ a.p = p.i := by
    unfold cmpN ltB sayI at hn
    rw [decide_eq_true_iff, decide_eq_true_iff] at hn
    simp only at hn
    omega
  rw [e.1, e.2, h.k.h2] at h3
  omega
theorem step0_any (p : Pv) (q : Av) (X : World) (h : PvD X X.heap.size p) (hs : PvS p) (hmn : p.mn ≤ 2000 ∧ p.ln ≤ 2000) (hq : AvD X X.heap.size q) (hsq : SmC q.ll) : Calls Tryz.prog 15 #[.agg (jjP p), .agg #[.int .i64 0, .slice q.la q.ln q.lc, .int .i64 q.e.f, .int .i64 q.e.t, .int .i64 q.e.q.t, .int .i64 q.e.q.p, .slice q.e.q.a q.e.q.n q.e.q.c, .int .i64 q.e.d, .int .u64 q.e.h, .int .i64 q.e.v, .bool q.b, .int .u64 q.h]] X fun e z => (∃ u : Pv, e = .returned (.tuple #[.agg (jjP u), .bool true])) ∧ Below X.heap.size X z := by
  have hq2 : AvD X X.heap.size { q with o := 0 } := by obtain ⟨a1, a2, a3, a4, a5, a6⟩ := hq; exact ⟨a1, a2, a3, a4, a5, a6⟩
  by_cases hk : OkP p.ab
  · by_cases E : p.s = p.t + p.d - 1 ∨ p.s = 1099511627776
    · exact step0_state p { q with o := 0 } X within_zero h hs hk hq2 hsq E
    · cases EM : okN (sayI p.ab (abC q.ll))
      · exact step0_form p { q with o := 0 } X within_zero h hs hk hq2 hsq E EM
      · obtain ⟨M, hM⟩ := say_put hk (abC q.ll)
        exact step0_yes p { q with o := 0 } M X within_zero h hs hk hq2 hsq E EM hM (by omega) (by omega)
  · exact step0_no p { q with o := 0 } X within_zero h hs hq2 hsq hk
set_option maxRecDepth 100000 in
set_option maxHeartbeats 3200000 in
theorem peerSays_walk (v : Value) (w : World) (rows : Asks28z w v) :
    Calls Tryz.prog 4 #[v] w fun e w' => e = .returned (.bool true) ∧ Below w.heap.size w w' := by
  obtain ⟨p, la, ln, lc, l, rfl, ⟨hp, hb⟩, hl, ha⟩ := rows
  have HBW : Hk (Below w.heap.size w (w.alloc (.cells #[.int .i64 p.i, .int .i64 p.n, .int .i64 p.d, .int .i64 p.t, .int .i64 p.s, .slice p.ma p.mn p.mc, .slice p.la p.ln p.lc, .slice p.ha p.hn p.hc, .slice p.aa p.an p.ac, .slice p.xa p.xn p.xc, .bool p.b, .slice la ln lc] 29))) := ⟨(Below.refl _ _).alloc (Nat.le_refl _) _⟩
  have HD := Hk.mk (hp.later HBW.out)
  have HA := Hk.mk (ha.later HBW.out)
  have HB := Hk.mk hb
  have HL := Hk.mk hl
  clear hp hb hl ha
  go_enter Tryz.func4, Tryz.ntmps4
  go_wp2_with (go_at_call 17; (with_reducible refine (only28s_any 0 p la ln lc l _ HD.out HB.out HL.out HA.out ⟨fun q X h1 h2 h3 h4 h5 _ => step0_any p q X h1 h2 h3 h4 h5⟩).mono ?_); rintro e z ⟨rfl, hz⟩; have HZ := Hk.mk hz; clear hz)
  go_ret
  exact ⟨rfl, HBW.out.trans (HZ.out.mono HBW.out.size)⟩

theorem peerSays_own : ownKnob Tryz.prog.godebug = none := by kernel_rfl
theorem peerSays_laidOut : laidOutB Tryz.prog = true := by kernel_rfl
set_option maxRecDepth 100000 in
theorem peerSays_lifted (os : Os) (started : os.Started) (H : Type) (enc : TypeId × Value → H) :
    ReturnsInHanded {} Tryz.checked os 4 .any (Rows.peerSaysSpec.pre6 enc Tryz.prog Tryz.f4 Rows.peerSaysRow.domain false) (Rows.peerSaysSpec.post enc Tryz.prog Tryz.f4 false true false false) := by
  refine returnsInHanded_of_change_sized (C := Tryz.checked) peerSays_own started (by kernel_rfl) Tryz.func4
    (ChangeSpec.witness6 (enc := enc) (C := Tryz.checked) false ⟨#[], #[.agg #[.int .i64 0, .int .i64 0, .int .i64 0, .int .i64 0, .int .i64 0, .slice none 0 0, .slice none 0 0, .slice none 0 0, .slice none 0 0, .slice none 0 0, .bool false, .slice none 0 0]], []⟩ 8 (by kernel_rfl) (by kernel_rfl) (by kernel_rfl) (by kernel_rfl)) ?_
  intro W base args ds gs before hval0 hW hcnd hsz0 _
  have hval : ∀ (j : Nat) t v, Tryz.f4.params[j]? = some t → args[j]? = some v → Value.okWide Tryz.prog W .any base t v := hval0
  have hW' := hW
  obtain ⟨p, q, hA0, hV, rfl, hfz, hnd⟩ := hW
  have hA : DataW.TrodAll enc Tryz.prog W 0 (fun _ => true) true Tryz.f4.params.toList args.toList ds p := hA0
  rw [Tryz.params4] at hA hval
  obtain ⟨v0, vs0, d0, ds0, p0, q0, hargs, rfl, rfl, h0, r0⟩ := trodAll_cons hA
  obtain ⟨rfl, rfl, rfl⟩ := trodAll_nil r0
  obtain rfl : args = #[v0] := by cases args; simp_all
  obtain ⟨rfl, rfl⟩ := trodVars_none hV
  obtain ⟨cs0, rfl, hcs0⟩ := okWide_struct Tryz.underlying29 (hval 0 29 v0 rfl rfl)
  have k0 := h0
  have lt0 : ∀ x ∈ p0, x.block < W.heap.size := by obtain ⟨m, hm⟩ := k0; exact DataW.trod_lt m _ _ _ hm
  have hz0 : Szd 29 d0 := fun n hn => of_decide_eq_true (List.all_eq_true.1 hsz0 n (DataW.weights_mem_each (j := 0) (t := 29) (d := d0) rfl rfl n hn))
  have rows : Asks28z W (.agg cs0) := by obtain ⟨fuel, hf⟩ := h0; exact asks28z_of hcs0 hf hz0
  clear hA0 hval0
  refine (peerSays_walk (.agg cs0) W rows).mono fun e W' ⟨he, bel⟩ => ?_
  subst he
  exact ⟨_, rfl, _, _, _, [], _, [], hW', trodAll_mk1 (shut_bool Tryz.underlying4 _), (trodAll_cons_mk (Below.trod peerSays_laidOut (by kernel_rfl) (of_decide_eq_true (by kernel_rfl)) k0 bel lt0) trodAll_mk0), rfl, bel.frame _, fun h => by cases h⟩
theorem peerSays_over : Rows.peerSaysRow.holds Tryz.pinned (OpenSpec.ofChange Rows.peerSaysSpec) :=
  OpenClaim.holds_of_wide 4 Tryz.f4 rfl rfl rfl rfl rfl rfl rfl ⟨rfl, rfl, rfl, rfl, rfl⟩ rfl rfl rfl rfl rfl (by kernel_rfl) Tryz.func4 (by kernel_rfl)
    (of_decide_eq_true (by kernel_rfl)) (by unfold Func.isWrapper; first | (rw [if_pos (by decide +kernel)]; kernel_rfl) | (rw [if_neg (by decide +kernel)]; exact ⟨rfl, rfl⟩))
    (fun os started H enc _ => peerSays_lifted os started H enc)
/-- The given statement of PeerSays. -/
theorem peerSays_holds : Rows.PeerSaysSaid := peerSays_over
end Go.Proofs.YtdpblimhfmfbnaaGreat

