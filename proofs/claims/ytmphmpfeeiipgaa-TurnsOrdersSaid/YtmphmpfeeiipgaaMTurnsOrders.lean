import Derived.Deep.QuietTactic
import Derived.BigQuiet
import Derived.Deep.RegionWith
import Derived.Deep.RegionHeld3
import Derived.Deep.DeepCutAuto
import Derived.Deep.DeepFit
import Derived.Outline
import Derived.ProofKit
import Derived.OpenShut
import Derived.ChangeSame
import Derived.Test.YtmphmpfeeiipgaaZtaa
/- For every argument, TurnsOrders answers true and leaves its argument as it was: in whatever order inputs come they are merged alike; each player's commands come in its own order, those of the lesser player first, none is lost. No condition. -/
namespace Go.Proofs.Ytmphmpfeeiipgaa
open Go.ChangeShapes Go.WideShapes Go.ChangeAt Go.RowKit Go.Deep
set_option linter.unusedVariables false
set_option linter.unusedSimpArgs false
theorem abI_rev (m : List Iv) : (abI m.reverse).Perm (abI m) := abI_perm (List.reverse_perm m)
set_option maxRecDepth 1000000 in
set_option maxHeartbeats 6400000 in
theorem turnsOrders_go (la : Option Addr) (ln lc : Nat) (l : List Iv) (ma : Option Addr) (mn mc : Nat) (m : List Iv) (ta : Option Addr) (tn tc : Nat) (ts : List Int) (w : World) (hl : ln ≤ 17592186044416 ∧ InD w w.heap.size la ln l ∧ BdI l) (hm : mn ≤ 17592186044416 ∧ InD w w.heap.size ma mn m ∧ BdI m) (ht : tn ≤ 17592186044416 ∧ Nq w w.heap.size ta tn ts) :
    Calls Try.prog 7 #[.agg #[.slice la ln lc, .slice ma mn mc, .slice ta tn tc]] w fun e w' => e = .returned (.bool true) ∧ Below w.heap.size w w' := by
  obtain ⟨i0, hi, hz0, hz1, hz2⟩ := info_parts info_in
  have HWB : Hk (Below w.heap.size w (w.alloc (.cells #[.slice la ln lc, .slice ma mn mc, .slice ta tn tc] 25))) := ⟨(Below.refl _ _).alloc (Nat.le_refl _) _⟩
  have hNW : (w.heap.size + 1) ≤ (w.alloc (.cells #[.slice la ln lc, .slice ma mn mc, .slice ta tn tc] 25)).heap.size := by simp
  have HB : Hk (Below (w.heap.size + 1) (w.alloc (.cells #[.slice la ln lc, .slice ma mn mc, .slice ta tn tc] 25)) (w.alloc (.cells #[.slice la ln lc, .slice ma mn mc, .slice ta tn tc] 25))) := ⟨Below.refl _ _⟩
  have HTR : Hk (∀ X, Below (w.heap.size + 1) (w.alloc (.cells #[.slice la ln lc, .slice ma mn mc, .slice ta tn tc] 25)) X → Below w.heap.size w X) := ⟨fun X hX => HWB.out.trans (hX.mono (by omega))⟩
  have P0 : Hk ((w.alloc (.cells #[.slice la ln lc, .slice ma mn mc, .slice ta tn tc] 25)).cell? ⟨w.heap.size, 0, none⟩ = some (.slice la ln lc)) := ⟨(Bk.new w #[.slice la ln lc, .slice ma mn mc, .slice ta tn tc] 25).c 0⟩
  have P1 : Hk ((w.alloc (.cells #[.slice la ln lc, .slice ma mn mc, .slice ta tn tc] 25)).cell? ⟨w.heap.size, 1, none⟩ = some (.slice ma mn mc)) := ⟨(Bk.new w #[.slice la ln lc, .slice ma mn mc, .slice ta tn tc] 25).c 1⟩
  have P2 : Hk ((w.alloc (.cells #[.slice la ln lc, .slice ma mn mc, .slice ta tn tc] 25)).cell? ⟨w.heap.size, 2, none⟩ = some (.slice ta tn tc)) := ⟨(Bk.new w #[.slice la ln lc, .slice ma mn mc, .slice ta tn tc] 25).c 2⟩
  have HHL : Hk (ln ≤ 17592186044416 ∧ InD (w.alloc (.cells #[.slice la ln lc, .slice ma mn mc, .slice ta tn tc] 25)) (w.alloc (.cells #[.slice la ln lc, .slice ma mn mc, .slice ta tn tc] 25)).heap.size la ln l ∧ BdI l) := ⟨hl.1, hl.2.1.later HWB.out, hl.2.2⟩
  have HHM : Hk (mn ≤ 17592186044416 ∧ InD (w.alloc (.cells #[.slice la ln lc, .slice ma mn mc, .slice ta tn tc] 25)) (w.alloc (.cells #[.slice la ln lc, .slice ma mn mc, .slice ta tn tc] 25)).heap.size ma mn m ∧ BdI m) := ⟨hm.1, hm.2.1.later HWB.out, hm.2.2⟩
  have HL := Hk.mk hl
  have HM := Hk.mk hm
  have HT := Hk.mk ht
  clear hl hm ht
  go_enter Try.func7, Try.ntmps7
  go_upto_if 12 with (go_at_call 10; (with_reducible refine (heavy27_any la ln lc l ma mn mc m ta tn tc _ HHL.out HHM.out).mono ?_); rintro e z ⟨hvy, rfl, hb, HV⟩; (first | (have hB2 := Hk.mk (kw_step HB.out hNW hb); clear hb; replace HB := hB2; clear hB2) | (have hB2 := Hk.mk (kw_step HB.out.drew hNW hb); clear hb; replace HB := hB2; clear hB2)))
  cases hvy
  · obtain ⟨hsl, hsm, ht50, hl800, hm800⟩ := HV.out rfl
    have HSM := Hk.mk hsm
    have HLN := Hk.mk HM.out.2.1.q.len
    have hmn : mn ≤ 800 := by rw [← HLN.out]; exact hm800
    have HIM : Hk (InD w w.heap.size ma mn m) := ⟨HM.out.2.1⟩
    obtain ⟨res, hres⟩ : ∃ res, mergeN (abI m) = res := ⟨_, rfl⟩
    have HR1 := Hk.mk hres
    have HR2 : Hk (mergeN (abI m.reverse) = res) := ⟨by rw [merge_perm (abI_rev m)]; exact hres⟩
    have HSR : Hk (SmI m.reverse) := ⟨⟨by rw [List.length_reverse]; exact hsm.n, fun x hx => hsm.m x (List.mem_reverse.1 hx)⟩⟩
    have gm : IntKind.i64.wrap ((mn : Int) - 1) = (mn : Int) - 1 := wr27 (by omega) (by omega)
    clear HV hsl hsm ht50 HHL HHM HL HM HT hl800 hres
    have y0 := (HB.out.cell (p := ⟨w.heap.size, 1, none⟩) (Nat.lt_succ_self _)).trans P1.out
    go_upto_region 4 with (go_at_call 18; (with_reducible refine (merge27_u res ma mn mc m _ ((HIM.out.below (HTR.out _ HB.out) (Nat.le_refl _)).mono (HTR.out _ HB.out).size) HSM.out HR1).mono ?_); rintro e z ⟨a2, c2, M, rfl, ho, hab, hb⟩; have HDM := Hk.mk ho.d; have HAB := Hk.mk hab; have HSC := Hk.mk (sm_flR HR1.out hab (by rw [abI_len, HLN.out]; exact hmn) (fun x hx => (ho.u x hx).nq.len)); clear ho hab y0; (first | (have hB2 := Hk.mk (kw_step HB.out hNW hb); clear hb; replace HB := hB2; clear hB2) | (have hB2 := Hk.mk (kw_step HB.out.drew hNW hb); clear hb; replace HB := hB2; clear hB2)))
    have y1 := (HB.out.cell (p := ⟨w.heap.size, 1, none⟩) (Nat.lt_succ_self _)).trans P1.out
    have HZ : Hk (Below z.heap.size z z) := ⟨Below.refl _ _⟩
    have HZS := Hk.mk (kw_size HB.out hNW)
    have hcb : (flatN (abI m)).length ≤ 1048576 * 800 := by
      have h1 := flat_len (s := abI m) (B := 1048576) fun x hx => by
        obtain ⟨y, hy, rfl⟩ := List.mem_map.1 hx
        show (abC y.l).length ≤ _
        rw [abC_len]; exact (HSM.out.m y hy).n
      rw [abI_len, HLN.out] at h1
      have h2 := Nat.mul_le_mul_left 1048576 hmn
      omega
    have HCB := Hk.mk hcb
    clear hcb
    go_wp2
    go_loopw [5, 6, 7] (fun bb cc ii wr => ∃ (r n' : Nat) (sa : Option Addr) (sc : Nat), bb = .slice sa n' sc ∧ cc = .int .i64 ((flatN (abI (m.drop r))).length : Nat) ∧ ii = .int .i64 ((r : Int) - 1) ∧ n' + r = mn ∧ Hk (Ow shI 29 wr z.heap.size (.slice sa n' sc) n' (m.drop r).reverse) ∧ Hk (Below (w.heap.size + 1) (w.alloc (.cells #[.slice la ln lc, .slice ma mn mc, .slice ta tn tc] 25)) wr) ∧ Hk (Below z.heap.size z wr)) (fun _ _ ii _ => (intOf ii + 1).toNat)
    case atStart => exact ⟨mn, 0, none, 0, rfl, by rw [List.drop_of_length_le (by rw [HLN.out]; exact Nat.le_refl _)]; rfl, rfl, by omega, ⟨by rw [List.drop_of_length_le (by rw [HLN.out]; exact Nat.le_refl _)]; exact Ow.nil _ _⟩, HB, HZ⟩
    case round =>
      clear HB HZ y1
      obtain ⟨r, n', sa, sc, rfl, rfl, rfl, hnr, HO, HB, HZ⟩ := hrel
      cases r with
      | succ k =>
        have hkn : k < mn := by omega
        have hkl : k < m.length := by rw [HLN.out]; exact hkn
        rw [show (((k + 1 : Nat) : Int) - 1) = (k : Int) by omega]
        obtain ⟨b, off, ea, hbl, pp, hd⟩ := HIM.out.three hkn
        have HCN := Hk.mk (cnt_drop hkl)
        have HRV := Hk.mk (rev_drop hkl)
        have hql := hd.q.len
        obtain ⟨q, hqq⟩ : ∃ q, m.getD k default = q := ⟨_, rfl⟩
        rw [hqq] at pp hd HCN HRV hql
        have HP3 : Hk (∀ X, Below w.heap.size w X → X.cell? ⟨b, off + k * 3, none⟩ = some (.int .i64 q.t) ∧ X.cell? ⟨b, off + k * 3 + 1, none⟩ = some (.int .i64 q.p) ∧ X.cell? ⟨b, off + k * 3 + 2, none⟩ = some (.slice q.a q.n q.c)) := ⟨fun X hX => ⟨(hX.cell (p := ⟨b, off + k * 3, none⟩) hbl).trans pp.1, (hX.cell (p := ⟨b, off + k * 3 + 1, none⟩) hbl).trans pp.2.1, (hX.cell (p := ⟨b, off + k * 3 + 2, none⟩) hbl).trans pp.2.2⟩⟩
        obtain ⟨r0, r1, r2⟩ := HP3.out wr (HTR.out _ HB.out)
        have y1 := (HB.out.cell (p := ⟨w.heap.size, 1, none⟩) (Nat.lt_succ_self _)).trans P1.out
        have t0 : (0 : Int) ≤ (k : Int) := by omega
        have t1 : (k : Int) < (mn : Int) := by omega
        obtain ⟨ct, hct⟩ : ∃ ct, (flatN (abI (m.drop (k + 1)))).length = ct := ⟨_, rfl⟩
        have hctb : ct + q.n ≤ 1048576 * 800 := by
          have h1 : (flatN (abI (m.drop k))).length ≤ (flatN (abI m)).length := by
            have e : abI m = abI (m.take k) ++ abI (m.drop k) := by rw [← abI_app, List.take_append_drop]
            rw [e, flatN_app, List.length_append]; omega
          have h2 := HCB.out
          rw [HCN.out, hct, hql] at h1
          omega
        have HCN2 : Hk ((flatN (abI (m.drop k))).length = ct + q.n) := ⟨by rw [HCN.out, hct, hql]; omega⟩
        rw [hct]
        have gc : IntKind.i64.wrap ((ct : Int) + (q.n : Int)) = ((ct + q.n : Nat) : Int) := by push_cast; exact wr27 (by omega) (by omega)
        have gk : IntKind.i64.wrap ((k : Int) - 1) = (k : Int) - 1 := wr27 (by omega) (by omega)
        have hn8 : n' ≤ 800 := by omega
        have HOA := Hk.mk (HO.out.alloc (.cells #[.int .i64 q.t, .int .i64 q.p, .slice q.a q.n q.c] 29))
        have HNR : Hk (n' + 1 + k = mn) := ⟨by omega⟩
        subst ea
        clear pp hd hkl hqq hql HCN hct hctb hkn hnr HO
        as_aux_lemma =>
          go_wp2_with (at_builtin; go_must (refine wpList_append_own _ rfl _ _ 22 rfl z.heap.size 29 i0 (.agg #[.int .i64 0, .int .i64 0, .slice none 0 0]) 3 40 Try.underlying22 hi hz0 hz1 hz2 rfl (by decide) _ n' (flt shI (m.drop (k + 1)).reverse) rfl HOA.out.row ⟨wr.heap.size, 0, none⟩ 1 1 q.cs rfl rfl (lit_at wr _ _) (is_one _) (by unfold maxLen; omega) (by omega) ?c5 ?_))
          case c5 => have := HZ.out.size; simp; omega
          intro v2 z2 hown2 hgrow hnil
          clear hnil
          have HO2 : Hk (Ow shI 29 z2 z.heap.size v2 (n' + 1) (m.drop k).reverse) := ⟨⟨by have := HOA.out.len; rw [HRV.out, List.length_append, this]; rfl, by rw [HRV.out, flt_app, flt_one1]; exact hown2⟩⟩
          obtain ⟨sa2, sc2, rfl, -⟩ := HO2.out.form
          have HB2 := Hk.mk ((HB.out.alloc (kw_size HB.out hNW) (.cells #[.int .i64 q.t, .int .i64 q.p, .slice q.a q.n q.c] 29)).grown hgrow (by have := kw_size HB.out hNW; simp at this ⊢; omega) (fun g hg => Nat.le_trans HZS.out (HOA.out.lt g hg).1))
          have HZ2 := Hk.mk ((HZ.out.alloc HZ.out.size (.cells #[.int .i64 q.t, .int .i64 q.p, .slice q.a q.n q.c] 29)).grown hgrow (by have := HZ.out.size; simp; omega) (fun g hg => (HOA.out.lt g hg).1))
          obtain ⟨s0, s1, s2⟩ := HP3.out z2 (HTR.out _ HB2.out)
          have x1 := (HB2.out.cell (p := ⟨w.heap.size, 1, none⟩) (Nat.lt_succ_self _)).trans P1.out
          clear hown2 hgrow HOA HB HZ r0 r1 r2 y1
          go_wp2
          exact ⟨⟨k, n' + 1, sa2, sc2, by first | rfl | (push_cast; rfl), by rw [HCN2.out]; simp, rfl, HNR.out, HO2, HB2, HZ2⟩, by first | (simp [intOf]; done) | (simp [intOf]; omega)⟩
      | zero =>
        obtain rfl : n' = mn := by omega
        have HIR : Hk (InD wr wr.heap.size sa n' m.reverse) := ⟨⟨by have := HO.out.qv; rwa [List.drop_zero] at this, fun x hx => ((HIM.out.u x (List.mem_reverse.1 hx)).below (HTR.out _ HB.out) (Nat.le_refl _)).mono (HTR.out _ HB.out).size⟩⟩
        have e0 : ((0 : Nat) : Int) - 1 = -1 := by omega
        rw [List.drop_zero, e0]
        obtain ⟨CT, hCT⟩ : ∃ CT, (flatN (abI m)).length = CT := ⟨_, rfl⟩
        rw [hCT]
        have HCT := Hk.mk hCT
        clear HO hnr e0 hCT
        as_aux_lemma =>
          go_upto_region 14 with (first
            | (go_at_call 18; (with_reducible refine (merge27_u res sa n' sc m.reverse _ HIR.out HSR.out HR2).mono ?_); rintro e z3 ⟨a3, c3, M3, rfl, ho, hab, hb⟩; have HD3 := Hk.mk ho.d; have HAB3 := Hk.mk hab; have HSC3 := Hk.mk (sm_flR HR2.out hab (by rw [abI_len, List.length_reverse, HLN.out]; exact hmn) (fun x hx => (ho.u x hx).nq.len)); have HDM3 := Hk.mk ((HDM.out.below (HZ.out.trans (hb.mono HZ.out.size)) (Nat.le_refl _)).mono (HZ.out.trans (hb.mono HZ.out.size)).size); have HB3 := Hk.mk (kw_step HB.out hNW hb); have HEE : Hk (abC M = abC M3 ↔ true = true) := ⟨⟨fun _ => rfl, fun _ => by rw [HAB.out, hab]⟩⟩; clear ho hab hb)
            | (go_at_call 12; (with_reducible refine (num27_any _ _).mono ?_); rintro e z2 ⟨rfl, hz⟩; rw [hz]; clear hz z2)
            | (go_at_call 20; (with_reducible refine (eqcs_as true a2 a3 M.length M3.length c2 c3 M M3 _ HDM3.out HD3.out HSC.out HSC3.out ⟨⟨fun _ => rfl, fun _ => by rw [HAB.out, HAB3.out]⟩⟩).mono ?_); rintro e z4 ⟨rfl, hb⟩; have HB4 := Hk.mk (kw_step HB3.out hNW hb); have HDM4 := Hk.mk (HDM3.out.later hb); clear hb))
          cases res with
          | none =>
            have HB := HB4
            as_aux_lemma =>
              go_wp2_with (first | (go_at_call 12; (with_reducible refine (num27_any _ _).mono ?_); rintro e z2 ⟨rfl, hz⟩; rw [hz]; clear hz z2) | (go_at_call 16; (with_reducible refine (wakes27_any _).mono ?_); rintro e z ⟨rfl, hb⟩; (first | (have hB2 := Hk.mk (kw_step HB.out hNW hb); clear hb; replace HB := hB2; clear hB2) | (have hB2 := Hk.mk (kw_step HB.out.drew hNW hb); clear hb; replace HB := hB2; clear hB2))))
              go_ret
              exact ⟨rfl, HTR.out _ HB.out⟩
          | some s =>
            obtain ⟨q1, q2, tt, q3⟩ := merge_some HR1.out
            have HRS := Hk.mk (flat_rise (t := tt) q1 fun x hx => q3 x (q2.mem_iff.1 hx))
            have HAF : Hk (abC M = flatN s) := ⟨HAB.out⟩
            have hct : CT = M.length := by rw [← HCT.out, ← flat_perm q2, ← HAF.out, abC_len]
            subst hct
            have hM20 := HSC.out.n
            have HZ4 : Hk (Below z4.heap.size z4 z4) := ⟨Below.refl _ _⟩
            have HZS4 := Hk.mk (kw_size HB4.out hNW)
            clear q1 q2 q3 HIR HSR HR1 HR2 HIM HCB HAB HAB3 HDM3 HB3 HD3 HSC3 HB HZ
            as_aux_lemma =>
              go_wp2_with (go_at_call 12; (with_reducible refine (num27_any _ _).mono ?_); rintro e z2 ⟨rfl, hz⟩; rw [hz]; clear hz z2)
              go_loopw [10] (fun ii wr => ∃ k : Nat, ii = .int .i64 k ∧ 1 ≤ k ∧ Hk (Below z4.heap.size z4 wr)) (fun ii _ => M.length - (intOf ii).toNat)
              case atStart => exact ⟨1, rfl, Nat.le_refl _, HZ4⟩
              case round =>
                clear HZ4
                obtain ⟨k, rfl, hk1, HZ4⟩ := hrel
                by_cases hlt : k < M.length
                · obtain ⟨j, hj⟩ : ∃ j, k = j + 1 := ⟨k - 1, by omega⟩
                  have hD := HDM4.out.below HZ4.out (Nat.le_refl _)
                  obtain ⟨b, off, ea, hbl, ⟨p0, p1, -⟩, -⟩ := hD.ten hlt
                  obtain ⟨b', off', eb, hbl', ⟨r0, r1, -⟩, -⟩ := hD.ten (show j < M.length by omega)
                  rw [ea] at eb
                  injection eb with eb
                  injection eb with eb1 eb2
                  subst eb1 eb2
                  have hrs := rise_at HAF.out HRS.out (i := j) (by omega)
                  rw [← hj] at hrs
                  obtain ⟨x, hx⟩ : ∃ x, M.getD j default = x := ⟨_, rfl⟩
                  obtain ⟨y, hy⟩ : ∃ y, M.getD k default = y := ⟨_, rfl⟩
                  rw [hx] at r0 r1 hrs
                  rw [hy] at p0 p1 hrs
                  have hr2 : x.p < y.p ∨ (x.p = y.p ∧ x.s < y.s) := hrs
                  have k0 : (0 : Int) ≤ (k : Int) := by omega
                  have k1 : (k : Int) < (M.length : Int) := by omega
                  have j0 : (0 : Int) ≤ (j : Int) := by omega
                  have j1 : (j : Int) < (M.length : Int) := by omega
                  have gj : IntKind.i64.wrap ((k : Int) - 1) = (j : Int) := by rw [show (k : Int) - 1 = (j : Int) by omega]; exact wr27 (by omega) (by omega)
                  have gk : IntKind.i64.wrap ((k : Int) + 1) = ((k + 1 : Nat) : Int) := by push_cast; exact wr27 (by omega) (by omega)
                  have HLT := Hk.mk hlt
                  have d1 : decide (y.p < x.p) = false := by rw [decide_eq_false_iff_not]; omega
                  subst ea
                  clear hj hx hy hrs hD hk1 hlt
                  as_aux_lemma =>
                    go_upto_region 19 with fail
                    cases hq : (x.p == y.p)
                    · clear hr2
                      go_quiet (fail)
                      have HZ5 := Hk.mk (below_drewN HZ4.out nq)
                      go_wp2
                      exact ⟨⟨k + 1, by go_num, by simp, HZ5⟩, by first | exact nx_ms HLT.out | exact nx_ms' HLT.out⟩
                    · have d2 : decide (y.s ≤ x.s) = false := by rw [decide_eq_false_iff_not]; have := eq_of_beq hq; omega
                      clear hr2
                      go_quiet (fail)
                      have HZ5 := Hk.mk (below_drewN HZ4.out nq)
                      go_wp2
                      exact ⟨⟨k + 1, by go_num, by simp, HZ5⟩, by first | exact nx_ms HLT.out | exact nx_ms' HLT.out⟩
                · have hd : decide ((k : Int) < (M.length : Int)) = false := by rw [decide_eq_false_iff_not]; omega
                  have hdn : ¬ k < M.length := hlt
                  have HB := Hk.mk (HB4.out.trans (HZ4.out.mono HZS4.out))
                  clear HZ4
                  as_aux_lemma =>
                    go_wp2_with (go_at_call 16; (with_reducible refine (wakes27_any _).mono ?_); rintro e z ⟨rfl, hb⟩; (first | (have hB2 := Hk.mk (kw_step HB.out hNW hb); clear hb; replace HB := hB2; clear hB2) | (have hB2 := Hk.mk (kw_step HB.out.drew hNW hb); clear hb; replace HB := hB2; clear hB2)))
                    go_ret
                    exact ⟨rfl, HTR.out _ HB.out⟩
  · go_wp2
    go_ret
    exact ⟨rfl, HTR.out _ HB.out⟩
theorem turnsOrders_walk (v : Value) (w : World) (rows : Asks27 w v) :
    Calls Try.prog 7 #[v] w fun e w' => e = .returned (.bool true) ∧ Below w.heap.size w w' := by
  obtain ⟨la, ln, lc, l, ma, mn, mc, m, ta, tn, tc, ts, rfl, hl, hm, ht⟩ := rows
  exact turnsOrders_go la ln lc l ma mn mc m ta tn tc ts w hl hm ht

theorem turnsOrders_own : ownKnob Try.prog.godebug = none := by kernel_rfl
theorem turnsOrders_laidOut : laidOutB Try.prog = true := by kernel_rfl
set_option maxRecDepth 100000 in
theorem turnsOrders_lifted (os : Os) (started : os.Started) (H : Type) (enc : TypeId × Value → H) :
    ReturnsInHanded {} Try.checked os 7 .any (Rows.turnsOrdersSpec.pre6 enc Try.prog Try.f7 Rows.turnsOrdersRow.domain false) (Rows.turnsOrdersSpec.post enc Try.prog Try.f7 false true false false) := by
  refine returnsInHanded_of_change_sized (C := Try.checked) turnsOrders_own started (by kernel_rfl) Try.func7
    (ChangeSpec.witness6 (enc := enc) (C := Try.checked) false ⟨#[], #[.agg #[.slice none 0 0, .slice none 0 0, .slice none 0 0]], []⟩ 8 (by kernel_rfl) (by kernel_rfl) (by kernel_rfl) (by kernel_rfl)) ?_
  intro W base args ds gs before hval0 hW hcnd hsz0 _
  have hval : ∀ (j : Nat) t v, Try.f7.params[j]? = some t → args[j]? = some v → Value.okWide Try.prog W .any base t v := hval0
  have hW' := hW
  obtain ⟨p, q, hA0, hV, rfl, hfz, hnd⟩ := hW
  have hA : DataW.TrodAll enc Try.prog W 0 (fun _ => true) true Try.f7.params.toList args.toList ds p := hA0
  rw [Try.params7] at hA hval
  obtain ⟨v0, vs0, d0, ds0, p0, q0, hargs, rfl, rfl, h0, r0⟩ := trodAll_cons hA
  obtain ⟨rfl, rfl, rfl⟩ := trodAll_nil r0
  obtain rfl : args = #[v0] := by cases args; simp_all
  obtain ⟨rfl, rfl⟩ := trodVars_none hV
  obtain ⟨cs0, rfl, hcs0⟩ := okWide_struct Try.underlying25 (hval 0 25 v0 rfl rfl)
  have k0 := h0
  have lt0 : ∀ x ∈ p0, x.block < W.heap.size := by obtain ⟨m, hm⟩ := k0; exact DataW.trod_lt m _ _ _ hm
  have hz0 : Szd 25 d0 := fun n hn => of_decide_eq_true (List.all_eq_true.1 hsz0 n (DataW.weights_mem_each (j := 0) (t := 25) (d := d0) rfl rfl n hn))
  have rows : Asks27 W (.agg cs0) := by obtain ⟨fuel, hf⟩ := h0; exact asks27_of hcs0 hf hz0
  clear hA0 hval0
  refine (turnsOrders_walk (.agg cs0) W rows).mono fun e W' ⟨he, bel⟩ => ?_
  subst he
  exact ⟨_, rfl, _, _, _, [], _, [], hW', trodAll_mk1 (shut_bool Try.underlying4 _), (trodAll_cons_mk (Below.trod turnsOrders_laidOut (by kernel_rfl) (of_decide_eq_true (by kernel_rfl)) k0 bel lt0) trodAll_mk0), rfl, bel.frame _, fun h => by cases h⟩
theorem turnsOrders_over : Rows.turnsOrdersRow.holds Try.pinned (OpenSpec.ofChange Rows.turnsOrdersSpec) :=
  OpenClaim.holds_of_wide 7 Try.f7 rfl rfl rfl rfl rfl rfl rfl ⟨rfl, rfl, rfl, rfl, rfl⟩ rfl rfl rfl rfl rfl (by kernel_rfl) Try.func7 (by kernel_rfl)
    (of_decide_eq_true (by kernel_rfl)) (by unfold Func.isWrapper; first | (rw [if_pos (by decide +kernel)]; kernel_rfl) | (rw [if_neg (by decide +kernel)]; exact ⟨rfl, rfl⟩))
    (fun os started H enc _ => turnsOrders_lifted os started H enc)
/-- The given statement of TurnsOrders. -/
theorem turnsOrders_holds : Rows.TurnsOrdersSaid := turnsOrders_over
end Go.Proofs.Ytmphmpfeeiipgaa

