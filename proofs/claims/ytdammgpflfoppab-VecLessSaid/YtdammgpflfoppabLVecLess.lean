/- For every list, VecLess answers true and leaves its argument as it was: which of any two comes first is the page's; of two unlike ones just one does. No condition. -/
import Derived.Test.YtdammgpflfoppabVech
import Derived.Deep.QuietTactic
import Derived.BigQuiet
import Derived.Deep.RegionWith
import Derived.Deep.RegionHeld3
namespace Go.Proofs.Ytdammgpflfoppab
open Go.ChangeShapes Go.WideShapes Go.ChangeAt Go.RowKit Go.Deep
set_option linter.unusedVariables false
set_option maxRecDepth 100000 in
set_option maxHeartbeats 1600000 in
theorem vecLess_walk (a : Option Addr) (len cap : Nat) (w : World) (rows : Asks2 w a len cap) :
    Calls Try.prog 4 #[.slice a len cap] w fun e w' => e = .returned (.bool true) ∧ Below w.heap.size w w' := by
  obtain ⟨hl, hm, hall⟩ := rows
  have HALL := Fx.Hd.mk hall
  clear hall
  go_enter Try.func4, Try.ntmps4
  go_wp2
  go_loopw [3, 6, 7] (fun i _ _ wr => ∃ (k : Nat), i = .int .i64 k ∧ k ≤ len ∧ k ≤ 30 ∧ Fx.Hd (Below w.heap.size w wr)) (fun i _ _ _ => 30 - (intOf i).toNat)
  case atStart => exact ⟨0, rfl, by omega, by omega, ⟨Below.refl _ _⟩⟩
  case round =>
    obtain ⟨k, rfl, hk, hk2, HB⟩ := hrel
    by_cases hlt : k < len ∧ k < 30
    · obtain ⟨g1, g2⟩ := hlt
      obtain ⟨b, off, x, y, u, v, z, rfl, hbl, hx, hy, hu, hv, hz, c0, c1, c2, c3, c4⟩ := HALL.out k g1
      have d0 := (HB.out.cell (p := ⟨b, off + k * 5, none⟩) hbl).trans c0
      have d1 := (HB.out.cell (p := ⟨b, off + k * 5 + 1, none⟩) hbl).trans c1
      have d2 := (HB.out.cell (p := ⟨b, off + k * 5 + 2, none⟩) hbl).trans c2
      have d3 := (HB.out.cell (p := ⟨b, off + k * 5 + 3, none⟩) hbl).trans c3
      have d4 := (HB.out.cell (p := ⟨b, off + k * 5 + 4, none⟩) hbl).trans c4
      have hbw : b < wr.heap.size := Nat.lt_of_lt_of_le hbl HB.out.size
      clear c0 c1 c2 c3 c4
      have vs := Fx.vless_self x y
      have vn := Fx.vless_not x y u v
      cases hp : Fx.vlessS x y u v <;> cases hq : Fx.vlessS u v x y
      case true.true => exact absurd (vn hp) (by rw [hq]; decide)
      all_goals
        clear vn
        go_wp2
        go_region
      all_goals
        have eb := ((((HB.out.alloc HB.out.size (.cells #[.int .i64 x, .int .i64 y] 24)).alloc (by simp; have := HB.out.size; omega) (.cells #[.int .i64 u, .int .i64 v] 24)).drew))
        have eb2 := ((((HB.out.alloc HB.out.size (.cells #[.int .i64 u, .int .i64 v] 24)).alloc (by simp; have := HB.out.size; omega) (.cells #[.int .i64 x, .int .i64 y] 24)).drew))
        go_wp2
        first
          | (go_region_held3 (fun w' => w'.cell? ⟨wr.heap.size, 0, none⟩ = some (.int .i64 x) ∧ w'.cell? ⟨wr.heap.size, 1, none⟩ = some (.int .i64 y) ∧ w'.cell? ⟨(wr.heap.size + 1), 0, none⟩ = some (.int .i64 u) ∧ w'.cell? ⟨(wr.heap.size + 1), 1, none⟩ = some (.int .i64 v) ∧ Below w.heap.size w w') (first | exact ⟨e0, e1, e2, e3, eb⟩ | (refine ⟨?_, ?_, ?_, ?_, ?_⟩ <;> first | assumption | (refine Below.drew ?_; assumption) | (go_simp; done))) (first | (go_at_call 18; (first | (with_reducible refine (held4 (w0 := w) (p := wr.heap.size) (q := (wr.heap.size + 1)) (x := .int .i64 x) (y := .int .i64 y) (u := .int .i64 u) (v := .int .i64 v) (vless_any x y u v _ hx hy hu hv) ?_ ?_ ?_ ?_ ?_).mono ?_) | (with_reducible refine (held4 (w0 := w) (p := wr.heap.size) (q := (wr.heap.size + 1)) (x := .int .i64 x) (y := .int .i64 y) (u := .int .i64 u) (v := .int .i64 v) (vless_any u v x y _ hu hv hx hy) ?_ ?_ ?_ ?_ ?_).mono ?_) | (with_reducible refine (held4 (w0 := w) (p := wr.heap.size) (q := (wr.heap.size + 1)) (x := .int .i64 x) (y := .int .i64 y) (u := .int .i64 u) (v := .int .i64 v) (vless_any x y x y _ hx hy hx hy) ?_ ?_ ?_ ?_ ?_).mono ?_)); (first | assumption | go_simp); (first | assumption | go_simp); (first | assumption | go_simp); (first | assumption | go_simp); (first | assumption | (refine Below.drew ?_; assumption)); rintro e w' ⟨rfl, e0, e1, e2, e3, eb⟩) | (go_at_call 19; (first | (with_reducible refine (held4 (w0 := w) (p := wr.heap.size) (q := (wr.heap.size + 1)) (x := .int .i64 x) (y := .int .i64 y) (u := .int .i64 u) (v := .int .i64 v) (rvless_any x y u v _ hx hy hu hv) ?_ ?_ ?_ ?_ ?_).mono ?_) | (with_reducible refine (held4 (w0 := w) (p := wr.heap.size) (q := (wr.heap.size + 1)) (x := .int .i64 x) (y := .int .i64 y) (u := .int .i64 u) (v := .int .i64 v) (rvless_any u v x y _ hu hv hx hy) ?_ ?_ ?_ ?_ ?_).mono ?_)); (first | assumption | go_simp); (first | assumption | go_simp); (first | assumption | go_simp); (first | assumption | go_simp); (first | assumption | (refine Below.drew ?_; assumption)); rintro e w' ⟨rfl, e0, e1, e2, e3, eb⟩))
             go_wp2_with (first | (go_at_call 18; (first | (with_reducible refine (held4 (w0 := w) (p := wr.heap.size) (q := (wr.heap.size + 1)) (x := .int .i64 x) (y := .int .i64 y) (u := .int .i64 u) (v := .int .i64 v) (vless_any x y u v _ hx hy hu hv) ?_ ?_ ?_ ?_ ?_).mono ?_) | (with_reducible refine (held4 (w0 := w) (p := wr.heap.size) (q := (wr.heap.size + 1)) (x := .int .i64 x) (y := .int .i64 y) (u := .int .i64 u) (v := .int .i64 v) (vless_any u v x y _ hu hv hx hy) ?_ ?_ ?_ ?_ ?_).mono ?_) | (with_reducible refine (held4 (w0 := w) (p := wr.heap.size) (q := (wr.heap.size + 1)) (x := .int .i64 x) (y := .int .i64 y) (u := .int .i64 u) (v := .int .i64 v) (vless_any x y x y _ hx hy hx hy) ?_ ?_ ?_ ?_ ?_).mono ?_)); (first | assumption | go_simp); (first | assumption | go_simp); (first | assumption | go_simp); (first | assumption | go_simp); (first | assumption | (refine Below.drew ?_; assumption)); rintro e w' ⟨rfl, e0, e1, e2, e3, eb⟩) | (go_at_call 19; (first | (with_reducible refine (held4 (w0 := w) (p := wr.heap.size) (q := (wr.heap.size + 1)) (x := .int .i64 x) (y := .int .i64 y) (u := .int .i64 u) (v := .int .i64 v) (rvless_any x y u v _ hx hy hu hv) ?_ ?_ ?_ ?_ ?_).mono ?_) | (with_reducible refine (held4 (w0 := w) (p := wr.heap.size) (q := (wr.heap.size + 1)) (x := .int .i64 x) (y := .int .i64 y) (u := .int .i64 u) (v := .int .i64 v) (rvless_any u v x y _ hu hv hx hy) ?_ ?_ ?_ ?_ ?_).mono ?_)); (first | assumption | go_simp); (first | assumption | go_simp); (first | assumption | go_simp); (first | assumption | go_simp); (first | assumption | (refine Below.drew ?_; assumption)); rintro e w' ⟨rfl, e0, e1, e2, e3, eb⟩)))
          | (go_region_held3 (fun w' => w'.cell? ⟨(wr.heap.size + 1), 0, none⟩ = some (.int .i64 x) ∧ w'.cell? ⟨(wr.heap.size + 1), 1, none⟩ = some (.int .i64 y) ∧ w'.cell? ⟨wr.heap.size, 0, none⟩ = some (.int .i64 u) ∧ w'.cell? ⟨wr.heap.size, 1, none⟩ = some (.int .i64 v) ∧ Below w.heap.size w w') (first | exact ⟨e0, e1, e2, e3, eb⟩ | (refine ⟨?_, ?_, ?_, ?_, ?_⟩ <;> first | assumption | (refine Below.drew ?_; assumption) | (go_simp; done))) (first | (go_at_call 18; (first | (with_reducible refine (held4 (w0 := w) (p := (wr.heap.size + 1)) (q := wr.heap.size) (x := .int .i64 x) (y := .int .i64 y) (u := .int .i64 u) (v := .int .i64 v) (vless_any x y u v _ hx hy hu hv) ?_ ?_ ?_ ?_ ?_).mono ?_) | (with_reducible refine (held4 (w0 := w) (p := (wr.heap.size + 1)) (q := wr.heap.size) (x := .int .i64 x) (y := .int .i64 y) (u := .int .i64 u) (v := .int .i64 v) (vless_any u v x y _ hu hv hx hy) ?_ ?_ ?_ ?_ ?_).mono ?_) | (with_reducible refine (held4 (w0 := w) (p := (wr.heap.size + 1)) (q := wr.heap.size) (x := .int .i64 x) (y := .int .i64 y) (u := .int .i64 u) (v := .int .i64 v) (vless_any x y x y _ hx hy hx hy) ?_ ?_ ?_ ?_ ?_).mono ?_)); (first | assumption | go_simp); (first | assumption | go_simp); (first | assumption | go_simp); (first | assumption | go_simp); (first | assumption | (refine Below.drew ?_; assumption)); rintro e w' ⟨rfl, e0, e1, e2, e3, eb⟩) | (go_at_call 19; (first | (with_reducible refine (held4 (w0 := w) (p := (wr.heap.size + 1)) (q := wr.heap.size) (x := .int .i64 x) (y := .int .i64 y) (u := .int .i64 u) (v := .int .i64 v) (rvless_any x y u v _ hx hy hu hv) ?_ ?_ ?_ ?_ ?_).mono ?_) | (with_reducible refine (held4 (w0 := w) (p := (wr.heap.size + 1)) (q := wr.heap.size) (x := .int .i64 x) (y := .int .i64 y) (u := .int .i64 u) (v := .int .i64 v) (rvless_any u v x y _ hu hv hx hy) ?_ ?_ ?_ ?_ ?_).mono ?_)); (first | assumption | go_simp); (first | assumption | go_simp); (first | assumption | go_simp); (first | assumption | go_simp); (first | assumption | (refine Below.drew ?_; assumption)); rintro e w' ⟨rfl, e0, e1, e2, e3, eb⟩))
             go_wp2_with (first | (go_at_call 18; (first | (with_reducible refine (held4 (w0 := w) (p := (wr.heap.size + 1)) (q := wr.heap.size) (x := .int .i64 x) (y := .int .i64 y) (u := .int .i64 u) (v := .int .i64 v) (vless_any x y u v _ hx hy hu hv) ?_ ?_ ?_ ?_ ?_).mono ?_) | (with_reducible refine (held4 (w0 := w) (p := (wr.heap.size + 1)) (q := wr.heap.size) (x := .int .i64 x) (y := .int .i64 y) (u := .int .i64 u) (v := .int .i64 v) (vless_any u v x y _ hu hv hx hy) ?_ ?_ ?_ ?_ ?_).mono ?_) | (with_reducible refine (held4 (w0 := w) (p := (wr.heap.size + 1)) (q := wr.heap.size) (x := .int .i64 x) (y := .int .i64 y) (u := .int .i64 u) (v := .int .i64 v) (vless_any x y x y _ hx hy hx hy) ?_ ?_ ?_ ?_ ?_).mono ?_)); (first | assumption | go_simp); (first | assumption | go_simp); (first | assumption | go_simp); (first | assumption | go_simp); (first | assumption | (refine Below.drew ?_; assumption)); rintro e w' ⟨rfl, e0, e1, e2, e3, eb⟩) | (go_at_call 19; (first | (with_reducible refine (held4 (w0 := w) (p := (wr.heap.size + 1)) (q := wr.heap.size) (x := .int .i64 x) (y := .int .i64 y) (u := .int .i64 u) (v := .int .i64 v) (rvless_any x y u v _ hx hy hu hv) ?_ ?_ ?_ ?_ ?_).mono ?_) | (with_reducible refine (held4 (w0 := w) (p := (wr.heap.size + 1)) (q := wr.heap.size) (x := .int .i64 x) (y := .int .i64 y) (u := .int .i64 u) (v := .int .i64 v) (rvless_any u v x y _ hu hv hx hy) ?_ ?_ ?_ ?_ ?_).mono ?_)); (first | assumption | go_simp); (first | assumption | go_simp); (first | assumption | go_simp); (first | assumption | go_simp); (first | assumption | (refine Below.drew ?_; assumption)); rintro e w' ⟨rfl, e0, e1, e2, e3, eb⟩)))
        replace HB := Fx.Hd.mk eb
        refine ⟨⟨k + 1, by go_num, by omega, by omega, HB⟩, by simp [intOf]; omega⟩

    · go_wp2_with (go_at_call 17; (with_reducible refine (up (wakes2_any _) HB).mono ?_); clear HB; rintro e w' ⟨rfl, HB⟩)
      all_goals
        go_ret
        exact ⟨rfl, HB.out⟩

theorem vecLess_own : ownKnob Try.prog.godebug = none := by kernel_rfl
theorem vecLess_laidOut : laidOutB Try.prog = true := by kernel_rfl
set_option maxRecDepth 100000 in
theorem vecLess_lifted (os : Os) (started : os.Started) (H : Type) (enc : TypeId × Value → H) :
    ReturnsInHanded {} Try.checked os 4 .any (Rows.vecLessSpec.pre6 enc Try.prog Try.f4 Rows.vecLessRow.domain false) (Rows.vecLessSpec.post enc Try.prog Try.f4 false true false false) := by
  refine returnsInHanded_of_change (C := Try.checked) vecLess_own started (by kernel_rfl) Try.func4
    (ChangeSpec.witness6 (enc := enc) (C := Try.checked) false ⟨#[], #[.slice none 0 0], []⟩ 8 (by kernel_rfl) (by kernel_rfl) (by kernel_rfl) (by kernel_rfl)) ?_
  intro W base args ds gs before hval0 hW hcnd _
  have hval : ∀ (j : Nat) t v, Try.f4.params[j]? = some t → args[j]? = some v → Value.okWide Try.prog W .any base t v := hval0
  have hW' := hW
  obtain ⟨p, q, hA0, hV, rfl, hfz, hnd⟩ := hW
  have hA : DataW.TrodAll enc Try.prog W 0 (fun _ => true) true Try.f4.params.toList args.toList ds p := hA0
  rw [Try.params4] at hA hval
  obtain ⟨v0, vs0, d0, ds0, p0, q0, hargs, rfl, rfl, h0, r0⟩ := trodAll_cons hA
  obtain ⟨rfl, rfl, rfl⟩ := trodAll_nil r0
  obtain rfl : args = #[v0] := by cases args; simp_all
  obtain ⟨rfl, rfl⟩ := trodVars_none hV
  obtain ⟨a0, len0, cap0, rfl⟩ := okWide_slice Try.underlying22 (hval 0 22 v0 rfl rfl)
  have k0 := h0
  have lt0 : ∀ x ∈ p0, x.block < W.heap.size := by obtain ⟨m, hm⟩ := k0; exact DataW.trod_lt m _ _ _ hm
  have rows : Asks2 W a0 len0 cap0 := by obtain ⟨fuel, hf⟩ := h0; exact asks2_of hf
  clear hA0 hval0
  refine (vecLess_walk a0 len0 cap0 W rows).mono fun e W' ⟨he, bel⟩ => ?_
  subst he
  exact ⟨_, rfl, _, _, _, [], _, [], hW', trodAll_mk1 (shut_bool Try.underlying4 _), (trodAll_cons_mk (Below.trod vecLess_laidOut (by kernel_rfl) (of_decide_eq_true (by kernel_rfl)) k0 bel lt0) trodAll_mk0), rfl, bel.frame _, fun h => by cases h⟩
theorem vecLess_over : Rows.vecLessRow.holds Try.pinned (OpenSpec.ofChange Rows.vecLessSpec) :=
  OpenClaim.holds_of_wide 4 Try.f4 rfl rfl rfl rfl rfl rfl rfl ⟨rfl, rfl, rfl, rfl, rfl⟩ rfl rfl rfl rfl rfl (by kernel_rfl) Try.func4 (by kernel_rfl)
    (of_decide_eq_true (by kernel_rfl)) (by unfold Func.isWrapper; first | (rw [if_pos (by decide +kernel)]; kernel_rfl) | (rw [if_neg (by decide +kernel)]; exact ⟨rfl, rfl⟩))
    (fun os started H enc _ => vecLess_lifted os started H enc)
/-- The given statement of VecLess. -/
theorem vecLess_holds : Rows.VecLessSaid := vecLess_over
end Go.Proofs.Ytdammgpflfoppab
