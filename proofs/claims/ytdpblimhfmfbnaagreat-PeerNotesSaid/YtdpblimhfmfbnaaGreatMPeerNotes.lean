import Derived.Deep.QuietTactic
import Derived.BigQuiet
import Derived.Deep.RegionWith
import Derived.Deep.RegionHeld3
import Derived.Deep.DeepCutAuto
import Derived.Deep.DeepFit
import Derived.Outline
import Derived.ProofKit
import Derived.OpenShut
import Derived.ChangeSame
import Derived.Test.YtdpblimhfmfbnaaGreatZvam
import Derived.Test.YtdpblimhfmfbnaaGreatZvaq
/- For every argument, PeerNotes answers true and leaves its argument as it was: what any peer has to say to the others is the reference's. No condition. -/
namespace Go.Proofs.YtdpblimhfmfbnaaGreat
open Go.ChangeShapes Go.WideShapes Go.ChangeAt Go.RowKit Go.Deep
set_option linter.unusedVariables false
set_option linter.unusedSimpArgs false
theorem step5_any (p : Pv) (q : Av) (X : World) (h : PvD X X.heap.size p) (hs : PvS p) : Calls Tryz.prog 15 #[.agg #[.int .i64 p.i, .int .i64 p.n, .int .i64 p.d, .int .i64 p.t, .int .i64 p.s, .slice p.ma p.mn p.mc, .slice p.la p.ln p.lc, .slice p.ha p.hn p.hc, .slice p.aa p.an p.ac, .slice p.xa p.xn p.xc, .bool p.b], .agg #[.int .i64 5, .slice q.la q.ln q.lc, .int .i64 q.e.f, .int .i64 q.e.t, .int .i64 q.e.q.t, .int .i64 q.e.q.p, .slice q.e.q.a q.e.q.n q.e.q.c, .int .i64 q.e.d, .int .u64 q.e.h, .int .i64 q.e.v, .bool q.b, .int .u64 q.h]] X fun e z => (∃ u : Pv, e = .returned (.tuple #[.agg #[.int .i64 u.i, .int .i64 u.n, .int .i64 u.d, .int .i64 u.t, .int .i64 u.s, .slice u.ma u.mn u.mc, .slice u.la u.ln u.lc, .slice u.ha u.hn u.hc, .slice u.aa u.an u.ac, .slice u.xa u.xn u.xc, .bool u.b], .bool true])) ∧ Below X.heap.size X z := by
  by_cases hk : OkP p.ab
  · exact (step5_yes p { q with o := 5 } X within_five h hs hk).mono fun e z ⟨h1, h2⟩ => ⟨⟨p, h1⟩, h2⟩
  · exact (step5_no p { q with o := 5 } X within_five h hs hk).mono fun e z ⟨h1, h2⟩ => ⟨⟨p, h1⟩, h2⟩
set_option maxRecDepth 100000 in
set_option maxHeartbeats 3200000 in
theorem peerNotes_walk (v : Value) (w : World) (rows : Asks28z w v) :
    Calls Tryz.prog 6 #[v] w fun e w' => e = .returned (.bool true) ∧ Below w.heap.size w w' := by
  obtain ⟨p, la, ln, lc, l, rfl, ⟨hp, hb⟩, hl, ha⟩ := rows
  have HBW : Hk (Below w.heap.size w (w.alloc (.cells #[.int .i64 p.i, .int .i64 p.n, .int .i64 p.d, .int .i64 p.t, .int .i64 p.s, .slice p.ma p.mn p.mc, .slice p.la p.ln p.lc, .slice p.ha p.hn p.hc, .slice p.aa p.an p.ac, .slice p.xa p.xn p.xc, .bool p.b, .slice la ln lc] 29))) := ⟨(Below.refl _ _).alloc (Nat.le_refl _) _⟩
  have HD := Hk.mk (hp.later HBW.out)
  have HA := Hk.mk (ha.later HBW.out)
  have HB := Hk.mk hb
  have HL := Hk.mk hl
  clear hp hb hl ha
  go_enter Tryz.func6, Tryz.ntmps6
  go_wp2_with (go_at_call 17; (with_reducible refine (only28_any 5 p la ln lc l _ HD.out HB.out HL.out HA.out ⟨fun q X h1 h2 _ _ _ => step5_any p q X h1 h2⟩).mono ?_); rintro e z ⟨rfl, hz⟩; have HZ := Hk.mk hz; clear hz)
  go_ret
  exact ⟨rfl, HBW.out.trans (HZ.out.mono HBW.out.size)⟩

theorem peerNotes_own : ownKnob Tryz.prog.godebug = none := by kernel_rfl
theorem peerNotes_laidOut : laidOutB Tryz.prog = true := by kernel_rfl
set_option maxRecDepth 100000 in
theorem peerNotes_lifted (os : Os) (started : os.Started) (H : Type) (enc : TypeId × Value → H) :
    ReturnsInHanded {} Tryz.checked os 6 .any (Rows.peerNotesSpec.pre6 enc Tryz.prog Tryz.f6 Rows.peerNotesRow.domain false) (Rows.peerNotesSpec.post enc Tryz.prog Tryz.f6 false true false false) := by
  refine returnsInHanded_of_change_sized (C := Tryz.checked) peerNotes_own started (by kernel_rfl) Tryz.func6
    (ChangeSpec.witness6 (enc := enc) (C := Tryz.checked) false ⟨#[], #[.agg #[.int .i64 0, .int .i64 0, .int .i64 0, .int .i64 0, .int .i64 0, .slice none 0 0, .slice none 0 0, .slice none 0 0, .slice none 0 0, .slice none 0 0, .bool false, .slice none 0 0]], []⟩ 8 (by kernel_rfl) (by kernel_rfl) (by kernel_rfl) (by kernel_rfl)) ?_
  intro W base args ds gs before hval0 hW hcnd hsz0 _
  have hval : ∀ (j : Nat) t v, Tryz.f6.params[j]? = some t → args[j]? = some v → Value.okWide Tryz.prog W .any base t v := hval0
  have hW' := hW
  obtain ⟨p, q, hA0, hV, rfl, hfz, hnd⟩ := hW
  have hA : DataW.TrodAll enc Tryz.prog W 0 (fun _ => true) true Tryz.f6.params.toList args.toList ds p := hA0
  rw [Tryz.params6] at hA hval
  obtain ⟨v0, vs0, d0, ds0, p0, q0, hargs, rfl, rfl, h0, r0⟩ := trodAll_cons hA
  obtain ⟨rfl, rfl, rfl⟩ := trodAll_nil r0
  obtain rfl : args = #[v0] := by cases args; simp_all
  obtain ⟨rfl, rfl⟩ := trodVars_none hV
  obtain ⟨cs0, rfl, hcs0⟩ := okWide_struct Tryz.underlying29 (hval 0 29 v0 rfl rfl)
  have k0 := h0
  have lt0 : ∀ x ∈ p0, x.block < W.heap.size := by obtain ⟨m, hm⟩ := k0; exact DataW.trod_lt m _ _ _ hm
  have hz0 : Szd 29 d0 := fun n hn => of_decide_eq_true (List.all_eq_true.1 hsz0 n (DataW.weights_mem_each (j := 0) (t := 29) (d := d0) rfl rfl n hn))
  have rows : Asks28z W (.agg cs0) := by obtain ⟨fuel, hf⟩ := h0; exact asks28z_of hcs0 hf hz0
  clear hA0 hval0
  refine (peerNotes_walk (.agg cs0) W rows).mono fun e W' ⟨he, bel⟩ => ?_
  subst he
  exact ⟨_, rfl, _, _, _, [], _, [], hW', trodAll_mk1 (shut_bool Tryz.underlying4 _), (trodAll_cons_mk (Below.trod peerNotes_laidOut (by kernel_rfl) (of_decide_eq_true (by kernel_rfl)) k0 bel lt0) trodAll_mk0), rfl, bel.frame _, fun h => by cases h⟩
theorem peerNotes_over : Rows.peerNotesRow.holds Tryz.pinned (OpenSpec.ofChange Rows.peerNotesSpec) :=
  OpenClaim.holds_of_wide 6 Tryz.f6 rfl rfl rfl rfl rfl rfl rfl ⟨rfl, rfl, rfl, rfl, rfl⟩ rfl rfl rfl rfl rfl (by kernel_rfl) Tryz.func6 (by kernel_rfl)
    (of_decide_eq_true (by kernel_rfl)) (by unfold Func.isWrapper; first | (rw [if_pos (by decide +kernel)]; kernel_rfl) | (rw [if_neg (by decide +kernel)]; exact ⟨rfl, rfl⟩))
    (fun os started H enc _ => peerNotes_lifted os started H enc)
/-- The given statement of PeerNotes. -/
theorem peerNotes_holds : Rows.PeerNotesSaid := peerNotes_over
end Go.Proofs.YtdpblimhfmfbnaaGreat

