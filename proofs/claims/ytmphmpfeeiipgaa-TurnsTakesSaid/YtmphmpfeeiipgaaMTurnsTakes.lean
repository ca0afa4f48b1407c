import Derived.Deep.QuietTactic
import Derived.BigQuiet
import Derived.Deep.RegionWith
import Derived.Deep.RegionHeld3
import Derived.Deep.DeepCutAuto
import Derived.Deep.DeepFit
import Derived.Outline
import Derived.ProofKit
import Derived.OpenShut
import Derived.ChangeSame
import Derived.Test.YtmphmpfeeiipgaaZtaa
import Derived.Test.YtmphmpfeeiipgaaZtad
/- For every argument, TurnsTakes answers true and leaves its argument as it was: those of any turn, and the others, are the reference's, or refused. No condition. -/
namespace Go.Proofs.Ytmphmpfeeiipgaa
open Go.ChangeShapes Go.WideShapes Go.ChangeAt Go.RowKit Go.Deep
set_option linter.unusedVariables false
set_option linter.unusedSimpArgs false
set_option maxRecDepth 1000000 in
set_option maxHeartbeats 6400000 in
theorem turnsTakes_go (la : Option Addr) (ln lc : Nat) (l : List Iv) (ma : Option Addr) (mn mc : Nat) (m : List Iv) (ta : Option Addr) (tn tc : Nat) (ts : List Int) (w : World) (hl : ln ≤ 17592186044416 ∧ InD w w.heap.size la ln l ∧ BdI l) (hm : mn ≤ 17592186044416 ∧ InD w w.heap.size ma mn m ∧ BdI m) (ht : tn ≤ 17592186044416 ∧ Nq w w.heap.size ta tn ts) :
    Calls Try.prog 6 #[.agg #[.slice la ln lc, .slice ma mn mc, .slice ta tn tc]] w fun e w' => e = .returned (.bool true) ∧ Below w.heap.size w w' := by
  have HWB : Hk (Below w.heap.size w (w.alloc (.cells #[.slice la ln lc, .slice ma mn mc, .slice ta tn tc] 25))) := ⟨(Below.refl _ _).alloc (Nat.le_refl _) _⟩
  have hNW : (w.heap.size + 1) ≤ (w.alloc (.cells #[.slice la ln lc, .slice ma mn mc, .slice ta tn tc] 25)).heap.size := by simp
  have HB : Hk (Below (w.heap.size + 1) (w.alloc (.cells #[.slice la ln lc, .slice ma mn mc, .slice ta tn tc] 25)) (w.alloc (.cells #[.slice la ln lc, .slice ma mn mc, .slice ta tn tc] 25))) := ⟨Below.refl _ _⟩
  have HTR : Hk (∀ X, Below (w.heap.size + 1) (w.alloc (.cells #[.slice la ln lc, .slice ma mn mc, .slice ta tn tc] 25)) X → Below w.heap.size w X) := ⟨fun X hX => HWB.out.trans (hX.mono (by omega))⟩
  have P0 : Hk ((w.alloc (.cells #[.slice la ln lc, .slice ma mn mc, .slice ta tn tc] 25)).cell? ⟨w.heap.size, 0, none⟩ = some (.slice la ln lc)) := ⟨(Bk.new w #[.slice la ln lc, .slice ma mn mc, .slice ta tn tc] 25).c 0⟩
  have P1 : Hk ((w.alloc (.cells #[.slice la ln lc, .slice ma mn mc, .slice ta tn tc] 25)).cell? ⟨w.heap.size, 1, none⟩ = some (.slice ma mn mc)) := ⟨(Bk.new w #[.slice la ln lc, .slice ma mn mc, .slice ta tn tc] 25).c 1⟩
  have P2 : Hk ((w.alloc (.cells #[.slice la ln lc, .slice ma mn mc, .slice ta tn tc] 25)).cell? ⟨w.heap.size, 2, none⟩ = some (.slice ta tn tc)) := ⟨(Bk.new w #[.slice la ln lc, .slice ma mn mc, .slice ta tn tc] 25).c 2⟩
  have HHL : Hk (ln ≤ 17592186044416 ∧ InD (w.alloc (.cells #[.slice la ln lc, .slice ma mn mc, .slice ta tn tc] 25)) (w.alloc (.cells #[.slice la ln lc, .slice ma mn mc, .slice ta tn tc] 25)).heap.size la ln l ∧ BdI l) := ⟨hl.1, hl.2.1.later HWB.out, hl.2.2⟩
  have HHM : Hk (mn ≤ 17592186044416 ∧ InD (w.alloc (.cells #[.slice la ln lc, .slice ma mn mc, .slice ta tn tc] 25)) (w.alloc (.cells #[.slice la ln lc, .slice ma mn mc, .slice ta tn tc] 25)).heap.size ma mn m ∧ BdI m) := ⟨hm.1, hm.2.1.later HWB.out, hm.2.2⟩
  have HL := Hk.mk hl
  have HM := Hk.mk hm
  have HT := Hk.mk ht
  clear hl hm ht
  go_enter Try.func6, Try.ntmps6
  go_upto_if 12 with (go_at_call 10; (with_reducible refine (heavy27_any la ln lc l ma mn mc m ta tn tc _ HHL.out HHM.out).mono ?_); rintro e z ⟨hvy, rfl, hb, HV⟩; (first | (have hB2 := Hk.mk (kw_step HB.out hNW hb); clear hb; replace HB := hB2; clear hB2) | (have hB2 := Hk.mk (kw_step HB.out.drew hNW hb); clear hb; replace HB := hB2; clear hB2)))
  cases hvy
  · obtain ⟨hsl, hsm, ht50, -, -⟩ := HV.out rfl
    have HSL := Hk.mk hsl
    have HLI : Hk (∀ X, Below (w.heap.size + 1) (w.alloc (.cells #[.slice la ln lc, .slice ma mn mc, .slice ta tn tc] 25)) X → InD X X.heap.size la ln l) := ⟨fun X hX => (HL.out.2.1.below (HTR.out _ hX) (Nat.le_refl _)).mono (HTR.out _ hX).size⟩
    have HTQ := Hk.mk HT.out.2
    clear HV hsl hsm HHL HHM HL HM HT
    go_wp2
    go_loopw [3] (fun i wr => ∃ (k : Nat), i = .int .i64 k ∧ k ≤ tn ∧ Hk (Below (w.heap.size + 1) (w.alloc (.cells #[.slice la ln lc, .slice ma mn mc, .slice ta tn tc] 25)) wr)) (fun i _ => tn - (intOf i).toNat)
    case atStart => exact ⟨0, rfl, Nat.zero_le _, HB⟩
    case round =>
      clear HB
      obtain ⟨k, rfl, hk, HB⟩ := hrel
      by_cases hlt : k < tn
      · by_cases h10 : k < 10
        · have hd10 : decide ((k : Int) < 10) = true := by rw [decide_eq_true_iff]; omega
          obtain ⟨tb, toff, ea, htb, hct⟩ := HTQ.out.rd (by omega)
          have htk := hct k hlt
          obtain ⟨t, ht⟩ : ∃ t, ts.getD k 0 = t := ⟨_, rfl⟩
          rw [ht] at htk
          have HVF : Hk (∀ X, Below (w.heap.size + 1) (w.alloc (.cells #[.slice la ln lc, .slice ma mn mc, .slice ta tn tc] 25)) X → X.cell? ⟨w.heap.size, 0, none⟩ = some (.slice la ln lc) ∧ X.cell? ⟨w.heap.size, 2, none⟩ = some (.slice (some ⟨tb, toff, none⟩) tn tc) ∧ X.cell? ⟨tb, toff + k, none⟩ = some (.int .i64 t) ∧ w.heap.size < X.heap.size ∧ tb < X.heap.size) := ⟨fun X hX => by
            have h0 := (hX.cell (p := ⟨w.heap.size, 0, none⟩) (Nat.lt_succ_self _)).trans P0.out
            have h1 := ((HTR.out _ hX).cell (p := ⟨tb, toff + k, none⟩) htb).trans htk
            exact ⟨h0, by rw [← ea]; exact (hX.cell (p := ⟨w.heap.size, 2, none⟩) (Nat.lt_succ_self _)).trans P2.out, h1, World.block_lt_of_cell? _ _ h0, World.block_lt_of_cell? _ _ h1⟩⟩
          have t0 : (0 : Int) ≤ (k : Int) := by omega
          have t1 : (k : Int) < (tn : Int) := by omega
          have HLT := Hk.mk hlt
          have gk : IntKind.i64.wrap ((k : Int) + 1) = ((k + 1 : Nat) : Int) := by push_cast; exact wr27 (by omega) (by omega)
          obtain ⟨x0, x2, xt, xl, xb⟩ := HVF.out _ HB.out
          clear ht htk hct htb HTQ hk hlt h10 ea
          cases hv : ordN none (abI l)
          · have E := Hk.mk hv
            clear hv
            go_upto_region 13 with (first
              | (go_at_call 23; (with_reducible refine (rlist_as false la ln lc l _ (HLI.out _ HB.out) HSL.out E).mono ?_); rintro e z ⟨rfl, hb⟩; clear x0 x2 xt xl xb; (first | (have hB2 := Hk.mk (kw_step HB.out hNW hb); clear hb; replace HB := hB2; clear hB2) | (have hB2 := Hk.mk (kw_step HB.out.drew hNW hb); clear hb; replace HB := hB2; clear hB2)); obtain ⟨x0, x2, xt, xl, xb⟩ := HVF.out _ HB.out)
              | (go_at_call 17; (with_reducible refine (copyins_any la ln lc l _ (HLI.out _ HB.out) HSL.out).mono ?_); rintro e VC ⟨v, L, rfl, ho, hab, hb⟩; obtain ⟨ai, ci, rfl, -⟩ := ho.o.form; have HID := Hk.mk ho.d; have HAI := Hk.mk hab; have HSI := Hk.mk (smI_of ho.d (HLI.out _ HB.out) HSL.out (fun x hx => by rw [← hab]; exact hx) (by rw [ho.o.len, (HLI.out _ HB.out).q.len]; exact Nat.le_refl _)); have EI := Hk.mk (hab ▸ E.out); clear x0 x2 xt xl xb; clear ho hab; (first | (have hB2 := Hk.mk (kw_step HB.out hNW hb); clear hb; replace HB := hB2; clear hB2) | (have hB2 := Hk.mk (kw_step HB.out.drew hNW hb); clear hb; replace HB := hB2; clear hB2)); obtain ⟨x0, x2, xt, xl, xb⟩ := HVF.out _ HB.out; have HBC := HB)
              | (go_at_call 28; (with_reducible refine (take_no t ai ln ci L _ HID.out HSI.out EI).mono ?_); rintro e z ⟨rfl, hb⟩; have HZ := Hk.mk hb; clear x0 x2 xt xl xb; (first | (have hB2 := Hk.mk (kw_step HB.out hNW hb); clear hb; replace HB := hB2; clear hB2) | (have hB2 := Hk.mk (kw_step HB.out.drew hNW hb); clear hb; replace HB := hB2; clear hB2)); obtain ⟨x0, x2, xt, xl, xb⟩ := HVF.out _ HB.out))
            have HTA := Hk.mk (Tk3.nil z VC.heap.size)
            have HRA := Hk.mk (Tk3.nil z VC.heap.size)
            generalize z = V at *
            have HV : Hk (Below V.heap.size V V) := ⟨Below.refl _ _⟩
            have HX1 := Hk.mk HTA.out.t.r.a.d
            have HX2 := Hk.mk HTA.out.t.r.b.d
            have HY1 := Hk.mk HRA.out.t.r.a.d
            have HY2 := Hk.mk HRA.out.t.r.b.d
            have HDI := Hk.mk (HID.out.later HZ.out)
            have HDL := Hk.mk (HLI.out _ HB.out)
            go_upto_region 15 with (first | (go_at_call 12; (with_reducible refine (num27_any _ _).mono ?_); rintro e z2 ⟨rfl, hz⟩; rw [hz]; clear hz z2) | (go_at_call 21; (with_reducible refine (eqins_as true none none 0 0 0 0 [] [] _ ((HX1.out.below HV.out (Nat.le_refl _)).mono HV.out.size) ((HY1.out.below HV.out (Nat.le_refl _)).mono HV.out.size) HTA.out.q1 HRA.out.q1 ⟨⟨fun _ => rfl, fun _ => by first | rfl | rw [HTA.out.t.f1, HRA.out.t.f1]⟩⟩).mono ?_); rintro e z ⟨rfl, hb⟩; have HVn := Hk.mk (kw_step HV.out (Nat.le_refl _) hb); replace HV := HVn; clear HVn; clear x0 x2 xt xl xb; (first | (have hB2 := Hk.mk (kw_step HB.out hNW hb); clear hb; replace HB := hB2; clear hB2) | (have hB2 := Hk.mk (kw_step HB.out.drew hNW hb); clear hb; replace HB := hB2; clear hB2)); obtain ⟨x0, x2, xt, xl, xb⟩ := HVF.out _ HB.out) | (go_at_call 21; (with_reducible refine (eqins_as true none none 0 0 0 0 [] [] _ ((HX2.out.below HV.out (Nat.le_refl _)).mono HV.out.size) ((HY2.out.below HV.out (Nat.le_refl _)).mono HV.out.size) HTA.out.q2 HRA.out.q2 ⟨⟨fun _ => rfl, fun _ => by first | rfl | rw [HTA.out.t.f2, HRA.out.t.f2]⟩⟩).mono ?_); rintro e z ⟨rfl, hb⟩; have HVn := Hk.mk (kw_step HV.out (Nat.le_refl _) hb); replace HV := HVn; clear HVn; clear x0 x2 xt xl xb; (first | (have hB2 := Hk.mk (kw_step HB.out hNW hb); clear hb; replace HB := hB2; clear hB2) | (have hB2 := Hk.mk (kw_step HB.out.drew hNW hb); clear hb; replace HB := hB2; clear hB2)); obtain ⟨x0, x2, xt, xl, xb⟩ := HVF.out _ HB.out) | (go_at_call 21; (with_reducible refine (eqins_as true ai la ln ln ci lc L l _ ((HDI.out.below HV.out (Nat.le_refl _)).mono HV.out.size) ((HDL.out.below HV.out (Nat.le_refl _)).mono HV.out.size) HSI.out HSL.out ⟨⟨fun _ => rfl, fun _ => HAI.out⟩⟩).mono ?_); rintro e z ⟨rfl, hb⟩; have HVn := Hk.mk (kw_step HV.out (Nat.le_refl _) hb); replace HV := HVn; clear HVn; clear x0 x2 xt xl xb; (first | (have hB2 := Hk.mk (kw_step HB.out hNW hb); clear hb; replace HB := hB2; clear hB2) | (have hB2 := Hk.mk (kw_step HB.out.drew hNW hb); clear hb; replace HB := hB2; clear hB2)); obtain ⟨x0, x2, xt, xl, xb⟩ := HVF.out _ HB.out))
            have HVC := Hk.mk (HZ.out.trans (HV.out.mono HZ.out.size))
            have HSV : Hk (VC.heap.size ≤ V.heap.size) := ⟨HZ.out.size⟩
            have HT9 := Hk.mk (HTA.out.below HV.out)
            clear x0 x2 xt xl xb
            clear HX1 HX2 HY1 HY2 HDI HDL HRA HTA HB
            go_wp2_with (first
              | (go_at_call 26; (with_reducible refine (inps_own VC.heap.size 0 0 none _ (HT9.out.t.r.a.shi HT9.out.q1) HVC.out.size).mono ?_); rintro e z5 ⟨rfl, hs⟩; have HS5 := Hk.mk hs; have HI5 := Hk.mk (hs.i _ _ _ (HT9.out.t.r.b.shi HT9.out.q2)); have HC5 := Hk.mk (HVC.out.trans hs.bl); clear hs)
              | (go_at_call 26; (with_reducible refine (inps_own VC.heap.size 0 0 none _ HI5.out HC5.out.size).mono ?_); rintro e z6 ⟨rfl, hs⟩; have HC6 := Hk.mk (HC5.out.trans hs.bl); have HB := Hk.mk (HBC.out.trans (HC6.out.mono (kw_size HBC.out hNW))); clear hs; obtain ⟨x0, x2, xt, xl, xb⟩ := HVF.out _ HB.out)
              | (go_at_call 21; (with_reducible refine (eqins_as true ai la ln ln ci lc L l _ (HID.out.later HC6.out) (HLI.out _ HB.out) HSI.out HSL.out ⟨⟨fun _ => rfl, fun _ => HAI.out⟩⟩).mono ?_); rintro e z ⟨rfl, hb⟩; clear x0 x2 xt xl xb; (first | (have hB2 := Hk.mk (kw_step HB.out hNW hb); clear hb; replace HB := hB2; clear hB2) | (have hB2 := Hk.mk (kw_step HB.out.drew hNW hb); clear hb; replace HB := hB2; clear hB2))))
            exact ⟨⟨k + 1, by go_num, HLT.out, HB⟩, by first | exact nx_ms HLT.out | exact nx_ms' HLT.out⟩
          · have E := Hk.mk hv
            clear hv
            go_upto_region 10 with (go_at_call 23; (with_reducible refine (rlist_as true la ln lc l _ (HLI.out _ HB.out) HSL.out E).mono ?_); rintro e z ⟨rfl, hb⟩; clear x0 x2 xt xl xb; (first | (have hB2 := Hk.mk (kw_step HB.out hNW hb); clear hb; replace HB := hB2; clear hB2) | (have hB2 := Hk.mk (kw_step HB.out.drew hNW hb); clear hb; replace HB := hB2; clear hB2)); obtain ⟨x0, x2, xt, xl, xb⟩ := HVF.out _ HB.out)
            generalize z = VA at *
            have HBV := HB
            have HLV : Hk (∀ X, Below VA.heap.size VA X → InD X X.heap.size la ln l) := ⟨fun X hX => HLI.out X (HBV.out.trans (hX.mono (kw_size HBV.out hNW)))⟩
            clear HB
            have L0V : VA.heap.size ≤ VA.heap.size := Nat.le_refl _
            apply reg_merge
            intro HG1
            refine wp_region_held_drew (S := fun Z => (∀ b o, b < VA.heap.size → Z.cell? ⟨b, o, none⟩ = VA.cell? ⟨b, o, none⟩)) (by kernel_rfl) (fun _ _ _ => rfl) (fun hHeld => ?_)
            have HB : Hk (Below VA.heap.size VA VA.drew) := ⟨(Below.refl _ _).drew⟩
            obtain ⟨WZ, hWe⟩ : ∃ WZ, VA.drew = WZ := ⟨_, rfl⟩
            rw [hWe] at HB hHeld ⊢
            clear hWe
            refine wpAnyH_take (i := 0) (v := ?_) rfl (by kernel_rfl) (by kernel_rfl) (by kernel_rfl) (fun _ _ _ h => h) (Or.inl ⟨by rfl, fun wX hSw => ?_⟩) (by assumption) ?_
            rotate_left
            · (try dsimp only at hSw); go_simp; try with_reducible rfl
            (try simp only [Act.put, List.getElem_toArray, List.getElem_cons_succ, List.getElem_cons_zero, List.setIfInBounds_toArray, List.set_cons_zero, List.set_cons_succ])
            refine wpAnyH_take (i := 1) (v := ?_) rfl (by kernel_rfl) (by kernel_rfl) (by kernel_rfl) (fun _ _ _ h => h) (Or.inl ⟨by rfl, fun wX hSw => ?_⟩) (by assumption) ?_
            rotate_left
            · (try dsimp only at hSw); go_simp; try with_reducible rfl
            (try simp only [Act.put, List.getElem_toArray, List.getElem_cons_succ, List.getElem_cons_zero, List.setIfInBounds_toArray, List.set_cons_zero, List.set_cons_succ])
            refine wpAnyH_take (i := 2) (v := ?_) rfl (by kernel_rfl) (by kernel_rfl) (by kernel_rfl) (fun _ _ _ h => h) (Or.inl ⟨by rfl, fun wX hSw => ?_⟩) (by assumption) ?_
            rotate_left
            · (try dsimp only at hSw); go_simp; try with_reducible rfl
            (try simp only [Act.put, List.getElem_toArray, List.getElem_cons_succ, List.getElem_cons_zero, List.setIfInBounds_toArray, List.set_cons_zero, List.set_cons_succ])
            refine wpAnyH_take (i := 3) (v := ?_) rfl (by kernel_rfl) (by kernel_rfl) (by kernel_rfl) (fun _ _ _ h => h) (Or.inl ⟨by rfl, fun wX hSw => ?_⟩) (by assumption) ?_
            rotate_left
            · (try dsimp only at hSw); go_simp; try with_reducible rfl
            (try simp only [Act.put, List.getElem_toArray, List.getElem_cons_succ, List.getElem_cons_zero, List.setIfInBounds_toArray, List.set_cons_zero, List.set_cons_succ])
            refine wpAnyH_take (i := 4) (v := ?_) rfl (by kernel_rfl) (by kernel_rfl) (by kernel_rfl) (fun _ _ _ h => h) (Or.inl ⟨by rfl, fun wX hSw => ?_⟩) (by assumption) ?_
            rotate_left
            · (try dsimp only at hSw); go_simp; try with_reducible rfl
            (try simp only [Act.put, List.getElem_toArray, List.getElem_cons_succ, List.getElem_cons_zero, List.setIfInBounds_toArray, List.set_cons_zero, List.set_cons_succ])
            refine wpAnyH_take (i := 5) (v := ?_) rfl (by kernel_rfl) (by kernel_rfl) (by kernel_rfl) (fun _ _ _ h => h) (Or.inl ⟨by rfl, fun wX hSw => ?_⟩) (by assumption) ?_
            rotate_left
            · (try dsimp only at hSw); go_simp; try with_reducible rfl
            (try simp only [Act.put, List.getElem_toArray, List.getElem_cons_succ, List.getElem_cons_zero, List.setIfInBounds_toArray, List.set_cons_zero, List.set_cons_succ])
            refine wpAnyH_take (i := 6) (v := ?_) rfl (by kernel_rfl) (by kernel_rfl) (by kernel_rfl) (fun _ _ _ h => h) (Or.inl ⟨by rfl, fun wX hSw => ?_⟩) (by assumption) ?_
            rotate_left
            · (try dsimp only at hSw); go_simp; try with_reducible rfl
            (try simp only [Act.put, List.getElem_toArray, List.getElem_cons_succ, List.getElem_cons_zero, List.setIfInBounds_toArray, List.set_cons_zero, List.set_cons_succ])
            refine wpAnyH_ready (rs := [7]) (by kernel_rfl) (by simp) ?_
            refine AllReadyH.cons rfl (fun K hK => ?_) (AllReadyH.nil)
            · skip
              go_simp
              ((go_at_call 27; (with_reducible refine (rtake_any t la ln lc l _ (HLV.out _ HB.out) HSL.out).mono ?_); rintro e z ⟨s1, n1, e1, s2, n2, e2, M1, M2, rfl, hk, hf1, hf2, hb⟩; have HRA : Hk (Tk2 z VA.heap.size s1 n1 e1 M1 s2 n2 e2 M2 ((abI l).filter (fun x => x.t == t)) ((abI l).filter (fun x => !(x.t == t)))) := ⟨⟨hk.weak (kw_le HB.out L0V), hf1, hf2⟩⟩; clear hk hf1 hf2))
              replace HB := Hk.mk (kw_step HB.out L0V hb)
              clear hb
              refine hK.out _ _ ?_ (fun hHeld2 => ?_)
              · exact kw_s HB.out
              clear hK K hHeld
              have hHeld := hHeld2
              clear hHeld2
              (try simp only [Act.put, List.getElem_toArray, List.getElem_cons_succ, List.getElem_cons_zero, List.setIfInBounds_toArray, List.set_cons_zero, List.set_cons_succ])
              refine wpAnyH_take (i := 8) (v := ?_) rfl (by kernel_rfl) (by kernel_rfl) (by kernel_rfl) (fun _ _ _ h => h) (Or.inl ⟨by rfl, fun wX hSw => ?_⟩) (by assumption) ?_
              rotate_left
              · (try dsimp only at hSw); go_simp; try with_reducible rfl
              (try simp only [Act.put, List.getElem_toArray, List.getElem_cons_succ, List.getElem_cons_zero, List.setIfInBounds_toArray, List.set_cons_zero, List.set_cons_succ])
              refine wpAnyH_take (i := 9) (v := ?_) rfl (by kernel_rfl) (by kernel_rfl) (by kernel_rfl) (fun _ _ _ h => h) (Or.inl ⟨by rfl, fun wX hSw => ?_⟩) (by assumption) ?_
              rotate_left
              · (try dsimp only at hSw); go_simp; try with_reducible rfl
              (try simp only [Act.put, List.getElem_toArray, List.getElem_cons_succ, List.getElem_cons_zero, List.setIfInBounds_toArray, List.set_cons_zero, List.set_cons_succ])
              refine wpAnyH_take (i := 10) (v := ?_) rfl (by kernel_rfl) (by kernel_rfl) (by kernel_rfl) (fun _ _ _ h => h) (Or.inl ⟨by rfl, fun wX hSw => ?_⟩) (by assumption) ?_
              rotate_left
              · (try dsimp only at hSw); go_simp; try with_reducible rfl
              (try simp only [Act.put, List.getElem_toArray, List.getElem_cons_succ, List.getElem_cons_zero, List.setIfInBounds_toArray, List.set_cons_zero, List.set_cons_succ])
              refine wpAnyH_take (i := 11) (v := ?_) rfl (by kernel_rfl) (by kernel_rfl) (by kernel_rfl) (fun _ _ _ h => h) (Or.inl ⟨by rfl, fun wX hSw => ?_⟩) (by assumption) ?_
              rotate_left
              · (try dsimp only at hSw); go_simp; try with_reducible rfl
              (try simp only [Act.put, List.getElem_toArray, List.getElem_cons_succ, List.getElem_cons_zero, List.setIfInBounds_toArray, List.set_cons_zero, List.set_cons_succ])
              refine wpAnyH_take (i := 12) (v := ?_) rfl (by kernel_rfl) (by kernel_rfl) (by kernel_rfl) (fun _ _ _ h => h) (Or.inl ⟨by rfl, fun wX hSw => ?_⟩) (by assumption) ?_
              rotate_left
              · (try dsimp only at hSw); go_simp; try with_reducible rfl
              (try simp only [Act.put, List.getElem_toArray, List.getElem_cons_succ, List.getElem_cons_zero, List.setIfInBounds_toArray, List.set_cons_zero, List.set_cons_succ])
              refine reg_cast (l' := #[true, true, true, true, true, true, true, true, true, true, true, true, true]) (by kernel_rfl) ?_
              revert hHeld
              revert HRA
              revert HB
              revert M2
              revert M1
              revert e2
              revert n2
              revert s2
              revert e1
              revert n1
              revert s1
              revert z
              exact HG1.out
            intro WZ s1 n1 e1 s2 n2 e2 M1 M2 HB HRA hHeld
            refine wpAnyH_done (by kernel_rfl) ?_ _
            replace HB := Hk.mk (HBV.out.trans (HB.out.mono (kw_size HBV.out hNW)))
            clear hHeld HBV HLV L0V
            clear x0 x2 xt xl xb
            obtain ⟨x0, x2, xt, xl, xb⟩ := HVF.out _ HB.out
            go_upto_region 13 with (first
              | (go_at_call 17; (with_reducible refine (copyins_any la ln lc l _ (HLI.out _ HB.out) HSL.out).mono ?_); rintro e VC ⟨v, L, rfl, ho, hab, hb⟩; obtain ⟨ai, ci, rfl, -⟩ := ho.o.form; have HID := Hk.mk ho.d; have HAI := Hk.mk hab; have HSI := Hk.mk (smI_of ho.d (HLI.out _ HB.out) HSL.out (fun x hx => by rw [← hab]; exact hx) (by rw [ho.o.len, (HLI.out _ HB.out).q.len]; exact Nat.le_refl _)); have EI := Hk.mk (hab ▸ E.out); replace HRA := Hk.mk (HRA.out.below hb); clear x0 x2 xt xl xb; clear ho hab; (first | (have hB2 := Hk.mk (kw_step HB.out hNW hb); clear hb; replace HB := hB2; clear hB2) | (have hB2 := Hk.mk (kw_step HB.out.drew hNW hb); clear hb; replace HB := hB2; clear hB2)); obtain ⟨x0, x2, xt, xl, xb⟩ := HVF.out _ HB.out; have HBC := HB)
              | (go_at_call 28; (with_reducible refine (take_yes t ai ln ci L _ HID.out HSI.out EI).mono ?_); rintro e z ⟨t1, m1, f1, t2, m2, f2, P1, P2, rfl, hk, hf1, hf2, hb⟩; have HZ := Hk.mk hb; have HT2 : Hk (Tk2 z VC.heap.size t1 m1 f1 P1 t2 m2 f2 P2 ((abI l).filter (fun x => x.t == t)) ((abI l).filter (fun x => !(x.t == t)))) := ⟨⟨hk, by rw [hf1, HAI.out], by rw [hf2, HAI.out]⟩⟩; replace HRA := Hk.mk (HRA.out.below hb); clear hk hf1 hf2; clear x0 x2 xt xl xb; (first | (have hB2 := Hk.mk (kw_step HB.out hNW hb); clear hb; replace HB := hB2; clear hB2) | (have hB2 := Hk.mk (kw_step HB.out.drew hNW hb); clear hb; replace HB := hB2; clear hB2)); obtain ⟨x0, x2, xt, xl, xb⟩ := HVF.out _ HB.out))
            have HTA := Hk.mk (Tk3.of HT2.out (HLI.out _ HB.out) HSL.out _ _ rfl rfl)
            replace HRA := Hk.mk (Tk3.of HRA.out (HLI.out _ HB.out) HSL.out _ _ rfl rfl)
            clear HT2
            generalize z = V at *
            have HV : Hk (Below V.heap.size V V) := ⟨Below.refl _ _⟩
            have HX1 := Hk.mk HTA.out.t.r.a.d
            have HX2 := Hk.mk HTA.out.t.r.b.d
            have HY1 := Hk.mk HRA.out.t.r.a.d
            have HY2 := Hk.mk HRA.out.t.r.b.d
            have HDI := Hk.mk (HID.out.later HZ.out)
            have HDL := Hk.mk (HLI.out _ HB.out)
            go_upto_region 15 with (first | (go_at_call 12; (with_reducible refine (num27_any _ _).mono ?_); rintro e z2 ⟨rfl, hz⟩; rw [hz]; clear hz z2) | (go_at_call 21; (with_reducible refine (eqins_as true t1 s1 m1 n1 f1 e1 P1 M1 _ ((HX1.out.below HV.out (Nat.le_refl _)).mono HV.out.size) ((HY1.out.below HV.out (Nat.le_refl _)).mono HV.out.size) HTA.out.q1 HRA.out.q1 ⟨⟨fun _ => rfl, fun _ => by first | rfl | rw [HTA.out.t.f1, HRA.out.t.f1]⟩⟩).mono ?_); rintro e z ⟨rfl, hb⟩; have HVn := Hk.mk (kw_step HV.out (Nat.le_refl _) hb); replace HV := HVn; clear HVn; clear x0 x2 xt xl xb; (first | (have hB2 := Hk.mk (kw_step HB.out hNW hb); clear hb; replace HB := hB2; clear hB2) | (have hB2 := Hk.mk (kw_step HB.out.drew hNW hb); clear hb; replace HB := hB2; clear hB2)); obtain ⟨x0, x2, xt, xl, xb⟩ := HVF.out _ HB.out) | (go_at_call 21; (with_reducible refine (eqins_as true t2 s2 m2 n2 f2 e2 P2 M2 _ ((HX2.out.below HV.out (Nat.le_refl _)).mono HV.out.size) ((HY2.out.below HV.out (Nat.le_refl _)).mono HV.out.size) HTA.out.q2 HRA.out.q2 ⟨⟨fun _ => rfl, fun _ => by first | rfl | rw [HTA.out.t.f2, HRA.out.t.f2]⟩⟩).mono ?_); rintro e z ⟨rfl, hb⟩; have HVn := Hk.mk (kw_step HV.out (Nat.le_refl _) hb); replace HV := HVn; clear HVn; clear x0 x2 xt xl xb; (first | (have hB2 := Hk.mk (kw_step HB.out hNW hb); clear hb; replace HB := hB2; clear hB2) | (have hB2 := Hk.mk (kw_step HB.out.drew hNW hb); clear hb; replace HB := hB2; clear hB2)); obtain ⟨x0, x2, xt, xl, xb⟩ := HVF.out _ HB.out) | (go_at_call 21; (with_reducible refine (eqins_as true ai la ln ln ci lc L l _ ((HDI.out.below HV.out (Nat.le_refl _)).mono HV.out.size) ((HDL.out.below HV.out (Nat.le_refl _)).mono HV.out.size) HSI.out HSL.out ⟨⟨fun _ => rfl, fun _ => HAI.out⟩⟩).mono ?_); rintro e z ⟨rfl, hb⟩; have HVn := Hk.mk (kw_step HV.out (Nat.le_refl _) hb); replace HV := HVn; clear HVn; clear x0 x2 xt xl xb; (first | (have hB2 := Hk.mk (kw_step HB.out hNW hb); clear hb; replace HB := hB2; clear hB2) | (have hB2 := Hk.mk (kw_step HB.out.drew hNW hb); clear hb; replace HB := hB2; clear hB2)); obtain ⟨x0, x2, xt, xl, xb⟩ := HVF.out _ HB.out))
            have HVC := Hk.mk (HZ.out.trans (HV.out.mono HZ.out.size))
            have HSV : Hk (VC.heap.size ≤ V.heap.size) := ⟨HZ.out.size⟩
            have HT9 := Hk.mk (HTA.out.below HV.out)
            clear x0 x2 xt xl xb
            clear HX1 HX2 HY1 HY2 HDI HDL HRA HTA HB
            go_wp2_with (first
              | (go_at_call 26; (with_reducible refine (inps_own VC.heap.size m1 f1 t1 _ (HT9.out.t.r.a.shi HT9.out.q1) HVC.out.size).mono ?_); rintro e z5 ⟨rfl, hs⟩; have HS5 := Hk.mk hs; have HI5 := Hk.mk (hs.i _ _ _ (HT9.out.t.r.b.shi HT9.out.q2)); have HC5 := Hk.mk (HVC.out.trans hs.bl); clear hs)
              | (go_at_call 26; (with_reducible refine (inps_own VC.heap.size m2 f2 t2 _ HI5.out HC5.out.size).mono ?_); rintro e z6 ⟨rfl, hs⟩; have HC6 := Hk.mk (HC5.out.trans hs.bl); have HB := Hk.mk (HBC.out.trans (HC6.out.mono (kw_size HBC.out hNW))); clear hs; obtain ⟨x0, x2, xt, xl, xb⟩ := HVF.out _ HB.out)
              | (go_at_call 21; (with_reducible refine (eqins_as true ai la ln ln ci lc L l _ (HID.out.later HC6.out) (HLI.out _ HB.out) HSI.out HSL.out ⟨⟨fun _ => rfl, fun _ => HAI.out⟩⟩).mono ?_); rintro e z ⟨rfl, hb⟩; clear x0 x2 xt xl xb; (first | (have hB2 := Hk.mk (kw_step HB.out hNW hb); clear hb; replace HB := hB2; clear hB2) | (have hB2 := Hk.mk (kw_step HB.out.drew hNW hb); clear hb; replace HB := hB2; clear hB2))))
            exact ⟨⟨k + 1, by go_num, HLT.out, HB⟩, by first | exact nx_ms HLT.out | exact nx_ms' HLT.out⟩
        · have hd10 : decide ((k : Int) < 10) = false := by rw [decide_eq_false_iff_not]; omega
          have t1 : (k : Int) < (tn : Int) := by omega
          have x2 := (HB.out.cell (p := ⟨w.heap.size, 2, none⟩) (Nat.lt_succ_self _)).trans P2.out
          clear HTQ
          go_wp2_with (go_at_call 16; (with_reducible refine (wakes27_any _).mono ?_); rintro e z ⟨rfl, hb⟩; (first | (have hB2 := Hk.mk (kw_step HB.out hNW hb); clear hb; replace HB := hB2; clear hB2) | (have hB2 := Hk.mk (kw_step HB.out.drew hNW hb); clear hb; replace HB := hB2; clear hB2)))
          go_ret
          exact ⟨rfl, HTR.out _ HB.out⟩
      · obtain rfl : k = tn := by omega
        have x2 := (HB.out.cell (p := ⟨w.heap.size, 2, none⟩) (Nat.lt_succ_self _)).trans P2.out
        clear HTQ
        go_wp2_with (go_at_call 16; (with_reducible refine (wakes27_any _).mono ?_); rintro e z ⟨rfl, hb⟩; (first | (have hB2 := Hk.mk (kw_step HB.out hNW hb); clear hb; replace HB := hB2; clear hB2) | (have hB2 := Hk.mk (kw_step HB.out.drew hNW hb); clear hb; replace HB := hB2; clear hB2)))
        go_ret
        exact ⟨rfl, HTR.out _ HB.out⟩
  · go_wp2
    go_ret
    exact ⟨rfl, HTR.out _ HB.out⟩
theorem turnsTakes_walk (v : Value) (w : World) (rows : Asks27 w v) :
    Calls Try.prog 6 #[v] w fun e w' => e = .returned (.bool true) ∧ Below w.heap.size w w' := by
  obtain ⟨la, ln, lc, l, ma, mn, mc, m, ta, tn, tc, ts, rfl, hl, hm, ht⟩ := rows
  exact turnsTakes_go la ln lc l ma mn mc m ta tn tc ts w hl hm ht

theorem turnsTakes_own : ownKnob Try.prog.godebug = none := by kernel_rfl
theorem turnsTakes_laidOut : laidOutB Try.prog = true := by kernel_rfl
set_option maxRecDepth 100000 in
theorem turnsTakes_lifted (os : Os) (started : os.Started) (H : Type) (enc : TypeId × Value → H) :
    ReturnsInHanded {} Try.checked os 6 .any (Rows.turnsTakesSpec.pre6 enc Try.prog Try.f6 Rows.turnsTakesRow.domain false) (Rows.turnsTakesSpec.post enc Try.prog Try.f6 false true false false) := by
  refine returnsInHanded_of_change_sized (C := Try.checked) turnsTakes_own started (by kernel_rfl) Try.func6
    (ChangeSpec.witness6 (enc := enc) (C := Try.checked) false ⟨#[], #[.agg #[.slice none 0 0, .slice none 0 0, .slice none 0 0]], []⟩ 8 (by kernel_rfl) (by kernel_rfl) (by kernel_rfl) (by kernel_rfl)) ?_
  intro W base args ds gs before hval0 hW hcnd hsz0 _
  have hval : ∀ (j : Nat) t v, Try.f6.params[j]? = some t → args[j]? = some v → Value.okWide Try.prog W .any base t v := hval0
  have hW' := hW
  obtain ⟨p, q, hA0, hV, rfl, hfz, hnd⟩ := hW
  have hA : DataW.TrodAll enc Try.prog W 0 (fun _ => true) true Try.f6.params.toList args.toList ds p := hA0
  rw [Try.params6] at hA hval
  obtain ⟨v0, vs0, d0, ds0, p0, q0, hargs, rfl, rfl, h0, r0⟩ := trodAll_cons hA
  obtain ⟨rfl, rfl, rfl⟩ := trodAll_nil r0
  obtain rfl : args = #[v0] := by cases args; simp_all
  obtain ⟨rfl, rfl⟩ := trodVars_none hV
  obtain ⟨cs0, rfl, hcs0⟩ := okWide_struct Try.underlying25 (hval 0 25 v0 rfl rfl)
  have k0 := h0
  have lt0 : ∀ x ∈ p0, x.block < W.heap.size := by obtain ⟨m, hm⟩ := k0; exact DataW.trod_lt m _ _ _ hm
  have hz0 : Szd 25 d0 := fun n hn => of_decide_eq_true (List.all_eq_true.1 hsz0 n (DataW.weights_mem_each (j := 0) (t := 25) (d := d0) rfl rfl n hn))
  have rows : Asks27 W (.agg cs0) := by obtain ⟨fuel, hf⟩ := h0; exact asks27_of hcs0 hf hz0
  clear hA0 hval0
  refine (turnsTakes_walk (.agg cs0) W rows).mono fun e W' ⟨he, bel⟩ => ?_
  subst he
  exact ⟨_, rfl, _, _, _, [], _, [], hW', trodAll_mk1 (shut_bool Try.underlying4 _), (trodAll_cons_mk (Below.trod turnsTakes_laidOut (by kernel_rfl) (of_decide_eq_true (by kernel_rfl)) k0 bel lt0) trodAll_mk0), rfl, bel.frame _, fun h => by cases h⟩
theorem turnsTakes_over : Rows.turnsTakesRow.holds Try.pinned (OpenSpec.ofChange Rows.turnsTakesSpec) :=
  OpenClaim.holds_of_wide 6 Try.f6 rfl rfl rfl rfl rfl rfl rfl ⟨rfl, rfl, rfl, rfl, rfl⟩ rfl rfl rfl rfl rfl (by kernel_rfl) Try.func6 (by kernel_rfl)
    (of_decide_eq_true (by kernel_rfl)) (by unfold Func.isWrapper; first | (rw [if_pos (by decide +kernel)]; kernel_rfl) | (rw [if_neg (by decide +kernel)]; exact ⟨rfl, rfl⟩))
    (fun os started H enc _ => turnsTakes_lifted os started H enc)
/-- The given statement of TurnsTakes. -/
theorem turnsTakes_holds : Rows.TurnsTakesSaid := turnsTakes_over
end Go.Proofs.Ytmphmpfeeiipgaa

