import Derived.Deep.QuietTactic
import Derived.BigQuiet
import Derived.Deep.RegionWith
import Derived.Deep.RegionHeld3
import Derived.Deep.DeepCutAuto
import Derived.Deep.DeepFit
import Derived.Outline
import Derived.ProofKit
import Derived.OpenShut
import Derived.ChangeSame
import Derived.Test.YtmphmpfeeiipgaaZtag
import Derived.Test.YtmphmpfeeiipgaaZtah
import Derived.Test.YtmphmpfeeiipgaaZtad
/- For every argument, TurnsMerges answers true and leaves its argument as it was: all commands of any inputs of a turn, in order, are the reference's, or refused. No condition. -/
namespace Go.Proofs.Ytmphmpfeeiipgaa
open Go.ChangeShapes Go.WideShapes Go.ChangeAt Go.RowKit Go.Deep
set_option linter.unusedVariables false
set_option linter.unusedSimpArgs false
set_option maxRecDepth 1000000 in
set_option maxHeartbeats 6400000 in
theorem turnsMerges_go (la : Option Addr) (ln lc : Nat) (l : List Iv) (ma : Option Addr) (mn mc : Nat) (m : List Iv) (ta : Option Addr) (tn tc : Nat) (ts : List Int) (w : World) (hl : ln ≤ 17592186044416 ∧ InD w w.heap.size la ln l ∧ BdI l) (hm : mn ≤ 17592186044416 ∧ InD w w.heap.size ma mn m ∧ BdI m) (ht : tn ≤ 17592186044416 ∧ Nq w w.heap.size ta tn ts) (hfm : mn ≤ mc ∧ mc ≤ 9223372036854775807 ∧ ((ma = none ∧ mn = 0 ∧ mc = 0) ∨ (∃ b off, ma = some ⟨b, off, none⟩) ∨ (∃ d, ma = some d) ∧ mc = 0)) :
    Calls Try.prog 4 #[.agg #[.slice la ln lc, .slice ma mn mc, .slice ta tn tc]] w fun e w' => e = .returned (.bool true) ∧ Below w.heap.size w w' := by
  have HWB : Hk (Below w.heap.size w (w.alloc (.cells #[.slice la ln lc, .slice ma mn mc, .slice ta tn tc] 25))) := ⟨(Below.refl _ _).alloc (Nat.le_refl _) _⟩
  have hNW : (w.heap.size + 1) ≤ (w.alloc (.cells #[.slice la ln lc, .slice ma mn mc, .slice ta tn tc] 25)).heap.size := by simp
  have HB : Hk (Below (w.heap.size + 1) (w.alloc (.cells #[.slice la ln lc, .slice ma mn mc, .slice ta tn tc] 25)) (w.alloc (.cells #[.slice la ln lc, .slice ma mn mc, .slice ta tn tc] 25))) := ⟨Below.refl _ _⟩
  have HTR : Hk (∀ X, Below (w.heap.size + 1) (w.alloc (.cells #[.slice la ln lc, .slice ma mn mc, .slice ta tn tc] 25)) X → Below w.heap.size w X) := ⟨fun X hX => HWB.out.trans (hX.mono (by omega))⟩
  have P0 : Hk ((w.alloc (.cells #[.slice la ln lc, .slice ma mn mc, .slice ta tn tc] 25)).cell? ⟨w.heap.size, 0, none⟩ = some (.slice la ln lc)) := ⟨(Bk.new w #[.slice la ln lc, .slice ma mn mc, .slice ta tn tc] 25).c 0⟩
  have P1 : Hk ((w.alloc (.cells #[.slice la ln lc, .slice ma mn mc, .slice ta tn tc] 25)).cell? ⟨w.heap.size, 1, none⟩ = some (.slice ma mn mc)) := ⟨(Bk.new w #[.slice la ln lc, .slice ma mn mc, .slice ta tn tc] 25).c 1⟩
  have P2 : Hk ((w.alloc (.cells #[.slice la ln lc, .slice ma mn mc, .slice ta tn tc] 25)).cell? ⟨w.heap.size, 2, none⟩ = some (.slice ta tn tc)) := ⟨(Bk.new w #[.slice la ln lc, .slice ma mn mc, .slice ta tn tc] 25).c 2⟩
  have HHL : Hk (ln ≤ 17592186044416 ∧ InD (w.alloc (.cells #[.slice la ln lc, .slice ma mn mc, .slice ta tn tc] 25)) (w.alloc (.cells #[.slice la ln lc, .slice ma mn mc, .slice ta tn tc] 25)).heap.size la ln l ∧ BdI l) := ⟨hl.1, hl.2.1.later HWB.out, hl.2.2⟩
  have HHM : Hk (mn ≤ 17592186044416 ∧ InD (w.alloc (.cells #[.slice la ln lc, .slice ma mn mc, .slice ta tn tc] 25)) (w.alloc (.cells #[.slice la ln lc, .slice ma mn mc, .slice ta tn tc] 25)).heap.size ma mn m ∧ BdI m) := ⟨hm.1, hm.2.1.later HWB.out, hm.2.2⟩
  have HL := Hk.mk hl
  have HM := Hk.mk hm
  have HT := Hk.mk ht
  have HFM := Hk.mk hfm
  clear hl hm ht hfm
  go_enter Try.func4, Try.ntmps4
  go_upto_if 10 with (go_at_call 10; (with_reducible refine (heavy27_any la ln lc l ma mn mc m ta tn tc _ HHL.out HHM.out).mono ?_); rintro e z ⟨hvy, rfl, hb, HV⟩; (first | (have hB2 := Hk.mk (kw_step HB.out hNW hb); clear hb; replace HB := hB2; clear hB2) | (have hB2 := Hk.mk (kw_step HB.out.drew hNW hb); clear hb; replace HB := hB2; clear hB2)))
  cases hvy
  · obtain ⟨hsl, hsm, -, -, hm8⟩ := HV.out rfl
    have HSM := Hk.mk hsm
    have HML := Hk.mk hm8
    have HLN := Hk.mk HM.out.2.1.q.len
    have HMA : Hk (∀ X, Below (w.heap.size + 1) (w.alloc (.cells #[.slice la ln lc, .slice ma mn mc, .slice ta tn tc] 25)) X → InD X X.heap.size ma mn m) := ⟨fun X hX => (HM.out.2.1.below (HTR.out _ hX) (Nat.le_refl _)).mono (HTR.out _ hX).size⟩
    have HVF : Hk (∀ X, Below (w.heap.size + 1) (w.alloc (.cells #[.slice la ln lc, .slice ma mn mc, .slice ta tn tc] 25)) X → X.cell? ⟨w.heap.size, 1, none⟩ = some (.slice ma mn mc) ∧ w.heap.size < X.heap.size) := ⟨fun X hX => by
      have h0 := (hX.cell (p := ⟨w.heap.size, 1, none⟩) (Nat.lt_succ_self _)).trans P1.out
      exact ⟨h0, World.block_lt_of_cell? _ _ h0⟩⟩
    clear HV hsl hsm hm8 HHL HHM HL HM HT P0 P1 P2
    go_wp2
    go_loopw [3] (fun i wr => ∃ (k : Nat), i = .int .i64 k ∧ k ≤ mn + 1 ∧ Hk (Below (w.heap.size + 1) (w.alloc (.cells #[.slice la ln lc, .slice ma mn mc, .slice ta tn tc] 25)) wr)) (fun i _ => mn + 1 - (intOf i).toNat)
    case atStart => exact ⟨0, rfl, Nat.zero_le _, HB⟩
    case round =>
      clear HB
      obtain ⟨k, rfl, hk, HB⟩ := hrel
      obtain ⟨x1, xl⟩ := HVF.out _ HB.out
      by_cases hlt : k ≤ mn
      · have hd0 : decide (k ≤ mn) = true := by rw [decide_eq_true_iff]; omega
        by_cases h8 : k < 8
        · have hd8 : decide ((k : Int) < 8) = true := by rw [decide_eq_true_iff]; omega
          have hsl := slk_any ma mn mc k hlt HFM.out
          have HMI : Hk (∀ X, Below (w.heap.size + 1) (w.alloc (.cells #[.slice la ln lc, .slice ma mn mc, .slice ta tn tc] 25)) X → InD X X.heap.size ma k (m.take k)) := ⟨fun X hX => (HMA.out X hX).head hlt⟩
          have HSK := Hk.mk (smI_take HSM.out k)
          have HK800 : Hk ((m.take k).length ≤ 800) := ⟨Nat.le_trans (by rw [List.length_take]; exact Nat.min_le_right _ _) HML.out⟩
          have t0 : (0 : Int) ≤ (k : Int) := by omega
          have HLT : Hk (k < mn + 1) := ⟨by omega⟩
          have gk : IntKind.i64.wrap ((k : Int) + 1) = ((k + 1 : Nat) : Int) := by push_cast; exact wr27 (by omega) (by omega)
          clear hlt hk h8
          cases hres : mergeN (abI (m.take k)) with
          | none =>
            obtain ⟨res, hr⟩ : ∃ res : Option (List In), res = none := ⟨_, rfl⟩
            have ER : Hk (mergeN (abI (m.take k)) = res) := ⟨by rw [hres, hr]⟩
            have he : ecR res = 1 := by rw [hr]; rfl
            have hi : res.isSome = false := by rw [hr]; rfl
            clear hres hr
            go_upto_region 9 with (first | (go_at_call 17; (with_reducible refine (copyins_any ma k mc (m.take k) _ (HMI.out _ HB.out) HSK.out).mono ?_); rintro e VC ⟨v, L, rfl, ho, hab, hb⟩; obtain ⟨ai, ci, rfl, -⟩ := ho.o.form; have HID := Hk.mk ho.d; have HAI := Hk.mk hab; have HSI := Hk.mk (smI_of ho.d (HMI.out _ HB.out) HSK.out (fun x hx => by rw [← hab]; exact hx) (by rw [ho.o.len, (HMI.out _ HB.out).q.len]; exact Nat.le_refl _)); have EI : Hk (mergeN (abI L) = res) := ⟨by rw [hab]; exact ER.out⟩; clear x1 xl; clear ho hab; (first | (have hB2 := Hk.mk (kw_step HB.out hNW hb); clear hb; replace HB := hB2; clear hB2) | (have hB2 := Hk.mk (kw_step HB.out.drew hNW hb); clear hb; replace HB := hB2; clear hB2)); obtain ⟨x1, xl⟩ := HVF.out _ HB.out; have HBC := HB) | (go_at_call 18; (with_reducible refine (merge27_u res ai k ci L _ HID.out HSI.out EI).mono ?_); rintro e z1 ⟨a2, c2, M, rfl, ho, hab, hb⟩; have HOM := Hk.mk ho; have HAM := Hk.mk hab; have HSM1 := Hk.mk (sm_flR ER.out hab (by rw [abI_len]; exact HK800.out) (fun x hx => (ho.u x hx).nq.len)); have HZ := Hk.mk hb; clear x1 xl; clear ho hab; (first | (have hB2 := Hk.mk (kw_step HB.out hNW hb); clear hb; replace HB := hB2; clear hB2) | (have hB2 := Hk.mk (kw_step HB.out.drew hNW hb); clear hb; replace HB := hB2; clear hB2)); obtain ⟨x1, xl⟩ := HVF.out _ HB.out) | (go_at_call 19; (with_reducible refine (rmerge_u res ma k mc (m.take k) _ (HMI.out _ HB.out) HSK.out ER).mono ?_); rintro e V ⟨a3, n3, c3, M3, rfl, ho, hab, hb⟩; have HDR := Hk.mk ho.d; have HAR := Hk.mk hab; have HSM3 := Hk.mk (sm_flR ER.out hab (by rw [abI_len]; exact HK800.out) (fun x hx => (ho.u x hx).nq.len)); have HOM2 := Hk.mk (HOM.out.below hb); have HZ2 := Hk.mk (HZ.out.trans (hb.mono HZ.out.size)); clear x1 xl; clear ho hab; (first | (have hB2 := Hk.mk (kw_step HB.out hNW hb); clear hb; replace HB := hB2; clear hB2) | (have hB2 := Hk.mk (kw_step HB.out.drew hNW hb); clear hb; replace HB := hB2; clear hB2)); obtain ⟨x1, xl⟩ := HVF.out _ HB.out))
            have HDM := Hk.mk HOM2.out.d
            have HDI := Hk.mk (HID.out.later HZ2.out)
            have HDK := Hk.mk (HMI.out _ HB.out)
            have HV : Hk (Below V.heap.size V V) := ⟨Below.refl _ _⟩
            go_upto_region 11 with (first | (go_at_call 12; (with_reducible refine (num27_any _ _).mono ?_); rintro e z2 ⟨rfl, hz⟩; rw [hz]; clear hz z2) | (go_at_call 20; (with_reducible refine (eqcs_as true a2 a3 M.length n3 c2 c3 M M3 _ ((HDM.out.below HV.out (Nat.le_refl _)).mono HV.out.size) ((HDR.out.below HV.out (Nat.le_refl _)).mono HV.out.size) HSM1.out HSM3.out ⟨⟨fun _ => rfl, fun _ => by rw [HAM.out, HAR.out]⟩⟩).mono ?_); rintro e z ⟨rfl, hb⟩; have HVn := Hk.mk (kw_step HV.out (Nat.le_refl _) hb); replace HV := HVn; clear HVn; clear x1 xl; (first | (have hB2 := Hk.mk (kw_step HB.out hNW hb); clear hb; replace HB := hB2; clear hB2) | (have hB2 := Hk.mk (kw_step HB.out.drew hNW hb); clear hb; replace HB := hB2; clear hB2)); obtain ⟨x1, xl⟩ := HVF.out _ HB.out) | (go_at_call 21; (with_reducible refine (eqins_as true ai ma k k ci mc L (m.take k) _ ((HDI.out.below HV.out (Nat.le_refl _)).mono HV.out.size) ((HDK.out.below HV.out (Nat.le_refl _)).mono HV.out.size) HSI.out HSK.out ⟨⟨fun _ => rfl, fun _ => HAI.out⟩⟩).mono ?_); rintro e z ⟨rfl, hb⟩; have HVn := Hk.mk (kw_step HV.out (Nat.le_refl _) hb); replace HV := HVn; clear HVn; clear x1 xl; (first | (have hB2 := Hk.mk (kw_step HB.out hNW hb); clear hb; replace HB := hB2; clear hB2) | (have hB2 := Hk.mk (kw_step HB.out.drew hNW hb); clear hb; replace HB := hB2; clear hB2)); obtain ⟨x1, xl⟩ := HVF.out _ HB.out))
            have HVC := Hk.mk (HZ2.out.trans (HV.out.mono HZ2.out.size))
            have HS9 := Hk.mk (HOM2.out.below HV.out)
            clear x1 xl
            clear HDM HDI HDK HDR HOM HOM2 HB
            go_wp2_with (first
              | (go_at_call 22; (with_reducible refine (cmds_own VC.heap.size M.length c2 a2 _ (HS9.out.shc HSM1.out) HVC.out.size).mono ?_); rintro e z6 ⟨rfl, hs⟩; have HC6 := Hk.mk (HVC.out.trans hs.bl); have HB := Hk.mk (HBC.out.trans (HC6.out.mono (kw_size HBC.out hNW))); clear hs; obtain ⟨x1, xl⟩ := HVF.out _ HB.out)
              | (go_at_call 21; (with_reducible refine (eqins_as true ai ma k k ci mc L (m.take k) _ (HID.out.later HC6.out) (HMI.out _ HB.out) HSI.out HSK.out ⟨⟨fun _ => rfl, fun _ => HAI.out⟩⟩).mono ?_); rintro e z ⟨rfl, hb⟩; clear x1 xl; (first | (have hB2 := Hk.mk (kw_step HB.out hNW hb); clear hb; replace HB := hB2; clear hB2) | (have hB2 := Hk.mk (kw_step HB.out.drew hNW hb); clear hb; replace HB := hB2; clear hB2))))
            exact ⟨⟨k + 1, by go_num, HLT.out, HB⟩, by first | exact nx_ms HLT.out | exact nx_ms' HLT.out⟩
          | some s =>
            obtain ⟨res, hr⟩ : ∃ res : Option (List In), res = some s := ⟨_, rfl⟩
            have ER : Hk (mergeN (abI (m.take k)) = res) := ⟨by rw [hres, hr]⟩
            have he : ecR res = 0 := by rw [hr]; rfl
            have hi : res.isSome = true := by rw [hr]; rfl
            clear hres hr
            go_upto_region 9 with (first | (go_at_call 17; (with_reducible refine (copyins_any ma k mc (m.take k) _ (HMI.out _ HB.out) HSK.out).mono ?_); rintro e VC ⟨v, L, rfl, ho, hab, hb⟩; obtain ⟨ai, ci, rfl, -⟩ := ho.o.form; have HID := Hk.mk ho.d; have HAI := Hk.mk hab; have HSI := Hk.mk (smI_of ho.d (HMI.out _ HB.out) HSK.out (fun x hx => by rw [← hab]; exact hx) (by rw [ho.o.len, (HMI.out _ HB.out).q.len]; exact Nat.le_refl _)); have EI : Hk (mergeN (abI L) = res) := ⟨by rw [hab]; exact ER.out⟩; clear x1 xl; clear ho hab; (first | (have hB2 := Hk.mk (kw_step HB.out hNW hb); clear hb; replace HB := hB2; clear hB2) | (have hB2 := Hk.mk (kw_step HB.out.drew hNW hb); clear hb; replace HB := hB2; clear hB2)); obtain ⟨x1, xl⟩ := HVF.out _ HB.out; have HBC := HB) | (go_at_call 18; (with_reducible refine (merge27_u res ai k ci L _ HID.out HSI.out EI).mono ?_); rintro e z1 ⟨a2, c2, M, rfl, ho, hab, hb⟩; have HOM := Hk.mk ho; have HAM := Hk.mk hab; have HSM1 := Hk.mk (sm_flR ER.out hab (by rw [abI_len]; exact HK800.out) (fun x hx => (ho.u x hx).nq.len)); have HZ := Hk.mk hb; clear x1 xl; clear ho hab; (first | (have hB2 := Hk.mk (kw_step HB.out hNW hb); clear hb; replace HB := hB2; clear hB2) | (have hB2 := Hk.mk (kw_step HB.out.drew hNW hb); clear hb; replace HB := hB2; clear hB2)); obtain ⟨x1, xl⟩ := HVF.out _ HB.out) | (go_at_call 19; (with_reducible refine (rmerge_u res ma k mc (m.take k) _ (HMI.out _ HB.out) HSK.out ER).mono ?_); rintro e V ⟨a3, n3, c3, M3, rfl, ho, hab, hb⟩; have HDR := Hk.mk ho.d; have HAR := Hk.mk hab; have HSM3 := Hk.mk (sm_flR ER.out hab (by rw [abI_len]; exact HK800.out) (fun x hx => (ho.u x hx).nq.len)); have HOM2 := Hk.mk (HOM.out.below hb); have HZ2 := Hk.mk (HZ.out.trans (hb.mono HZ.out.size)); clear x1 xl; clear ho hab; (first | (have hB2 := Hk.mk (kw_step HB.out hNW hb); clear hb; replace HB := hB2; clear hB2) | (have hB2 := Hk.mk (kw_step HB.out.drew hNW hb); clear hb; replace HB := hB2; clear hB2)); obtain ⟨x1, xl⟩ := HVF.out _ HB.out))
            have HDM := Hk.mk HOM2.out.d
            have HDI := Hk.mk (HID.out.later HZ2.out)
            have HDK := Hk.mk (HMI.out _ HB.out)
            have HV : Hk (Below V.heap.size V V) := ⟨Below.refl _ _⟩
            go_upto_region 11 with (first | (go_at_call 12; (with_reducible refine (num27_any _ _).mono ?_); rintro e z2 ⟨rfl, hz⟩; rw [hz]; clear hz z2) | (go_at_call 20; (with_reducible refine (eqcs_as true a2 a3 M.length n3 c2 c3 M M3 _ ((HDM.out.below HV.out (Nat.le_refl _)).mono HV.out.size) ((HDR.out.below HV.out (Nat.le_refl _)).mono HV.out.size) HSM1.out HSM3.out ⟨⟨fun _ => rfl, fun _ => by rw [HAM.out, HAR.out]⟩⟩).mono ?_); rintro e z ⟨rfl, hb⟩; have HVn := Hk.mk (kw_step HV.out (Nat.le_refl _) hb); replace HV := HVn; clear HVn; clear x1 xl; (first | (have hB2 := Hk.mk (kw_step HB.out hNW hb); clear hb; replace HB := hB2; clear hB2) | (have hB2 := Hk.mk (kw_step HB.out.drew hNW hb); clear hb; replace HB := hB2; clear hB2)); obtain ⟨x1, xl⟩ := HVF.out _ HB.out) | (go_at_call 21; (with_reducible refine (eqins_as true ai ma k k ci mc L (m.take k) _ ((HDI.out.below HV.out (Nat.le_refl _)).mono HV.out.size) ((HDK.out.below HV.out (Nat.le_refl _)).mono HV.out.size) HSI.out HSK.out ⟨⟨fun _ => rfl, fun _ => HAI.out⟩⟩).mono ?_); rintro e z ⟨rfl, hb⟩; have HVn := Hk.mk (kw_step HV.out (Nat.le_refl _) hb); replace HV := HVn; clear HVn; clear x1 xl; (first | (have hB2 := Hk.mk (kw_step HB.out hNW hb); clear hb; replace HB := hB2; clear hB2) | (have hB2 := Hk.mk (kw_step HB.out.drew hNW hb); clear hb; replace HB := hB2; clear hB2)); obtain ⟨x1, xl⟩ := HVF.out _ HB.out))
            have HVC := Hk.mk (HZ2.out.trans (HV.out.mono HZ2.out.size))
            have HS9 := Hk.mk (HOM2.out.below HV.out)
            clear x1 xl
            clear HDM HDI HDK HDR HOM HOM2 HB
            go_wp2_with (first
              | (go_at_call 22; (with_reducible refine (cmds_own VC.heap.size M.length c2 a2 _ (HS9.out.shc HSM1.out) HVC.out.size).mono ?_); rintro e z6 ⟨rfl, hs⟩; have HC6 := Hk.mk (HVC.out.trans hs.bl); have HB := Hk.mk (HBC.out.trans (HC6.out.mono (kw_size HBC.out hNW))); clear hs; obtain ⟨x1, xl⟩ := HVF.out _ HB.out)
              | (go_at_call 21; (with_reducible refine (eqins_as true ai ma k k ci mc L (m.take k) _ (HID.out.later HC6.out) (HMI.out _ HB.out) HSI.out HSK.out ⟨⟨fun _ => rfl, fun _ => HAI.out⟩⟩).mono ?_); rintro e z ⟨rfl, hb⟩; clear x1 xl; (first | (have hB2 := Hk.mk (kw_step HB.out hNW hb); clear hb; replace HB := hB2; clear hB2) | (have hB2 := Hk.mk (kw_step HB.out.drew hNW hb); clear hb; replace HB := hB2; clear hB2))))
            exact ⟨⟨k + 1, by go_num, HLT.out, HB⟩, by first | exact nx_ms HLT.out | exact nx_ms' HLT.out⟩
        · have hd8 : decide ((k : Int) < 8) = false := by rw [decide_eq_false_iff_not]; omega
          go_wp2_with (go_at_call 16; (with_reducible refine (wakes27_any _).mono ?_); rintro e z ⟨rfl, hb⟩; (first | (have hB2 := Hk.mk (kw_step HB.out hNW hb); clear hb; replace HB := hB2; clear hB2) | (have hB2 := Hk.mk (kw_step HB.out.drew hNW hb); clear hb; replace HB := hB2; clear hB2)))
          go_ret
          exact ⟨rfl, HTR.out _ HB.out⟩
      · have hd0 : decide (k ≤ mn) = false := by rw [decide_eq_false_iff_not]; omega
        go_wp2_with (go_at_call 16; (with_reducible refine (wakes27_any _).mono ?_); rintro e z ⟨rfl, hb⟩; (first | (have hB2 := Hk.mk (kw_step HB.out hNW hb); clear hb; replace HB := hB2; clear hB2) | (have hB2 := Hk.mk (kw_step HB.out.drew hNW hb); clear hb; replace HB := hB2; clear hB2)))
        go_ret
        exact ⟨rfl, HTR.out _ HB.out⟩
  · go_wp2
    go_ret
    exact ⟨rfl, HTR.out _ HB.out⟩
theorem turnsMerges_walk (v : Value) (w : World) (rows : Asks27f w v) :
    Calls Try.prog 4 #[v] w fun e w' => e = .returned (.bool true) ∧ Below w.heap.size w w' := by
  obtain ⟨la, ln, lc, l, ma, mn, mc, m, ta, tn, tc, ts, rfl, hl, hm, ht, hf⟩ := rows
  exact turnsMerges_go la ln lc l ma mn mc m ta tn tc ts w hl hm ht hf

theorem turnsMerges_own : ownKnob Try.prog.godebug = none := by kernel_rfl
theorem turnsMerges_laidOut : laidOutB Try.prog = true := by kernel_rfl
set_option maxRecDepth 100000 in
theorem turnsMerges_lifted (os : Os) (started : os.Started) (H : Type) (enc : TypeId × Value → H) :
    ReturnsInHanded {} Try.checked os 4 .any (Rows.turnsMergesSpec.pre6 enc Try.prog Try.f4 Rows.turnsMergesRow.domain false) (Rows.turnsMergesSpec.post enc Try.prog Try.f4 false true false false) := by
  refine returnsInHanded_of_change_sized (C := Try.checked) turnsMerges_own started (by kernel_rfl) Try.func4
    (ChangeSpec.witness6 (enc := enc) (C := Try.checked) false ⟨#[], #[.agg #[.slice none 0 0, .slice none 0 0, .slice none 0 0]], []⟩ 8 (by kernel_rfl) (by kernel_rfl) (by kernel_rfl) (by kernel_rfl)) ?_
  intro W base args ds gs before hval0 hW hcnd hsz0 _
  have hval : ∀ (j : Nat) t v, Try.f4.params[j]? = some t → args[j]? = some v → Value.okWide Try.prog W .any base t v := hval0
  have hW' := hW
  obtain ⟨p, q, hA0, hV, rfl, hfz, hnd⟩ := hW
  have hA : DataW.TrodAll enc Try.prog W 0 (fun _ => true) true Try.f4.params.toList args.toList ds p := hA0
  rw [Try.params4] at hA hval
  obtain ⟨v0, vs0, d0, ds0, p0, q0, hargs, rfl, rfl, h0, r0⟩ := trodAll_cons hA
  obtain ⟨rfl, rfl, rfl⟩ := trodAll_nil r0
  obtain rfl : args = #[v0] := by cases args; simp_all
  obtain ⟨rfl, rfl⟩ := trodVars_none hV
  obtain ⟨cs0, rfl, hcs0⟩ := okWide_struct Try.underlying25 (hval 0 25 v0 rfl rfl)
  have k0 := h0
  have lt0 : ∀ x ∈ p0, x.block < W.heap.size := by obtain ⟨m, hm⟩ := k0; exact DataW.trod_lt m _ _ _ hm
  have hz0 : Szd 25 d0 := fun n hn => of_decide_eq_true (List.all_eq_true.1 hsz0 n (DataW.weights_mem_each (j := 0) (t := 25) (d := d0) rfl rfl n hn))
  have rows : Asks27f W (.agg cs0) := by obtain ⟨fuel, hf⟩ := h0; exact asks27f_of hcs0 hf hz0
  clear hA0 hval0
  refine (turnsMerges_walk (.agg cs0) W rows).mono fun e W' ⟨he, bel⟩ => ?_
  subst he
  exact ⟨_, rfl, _, _, _, [], _, [], hW', trodAll_mk1 (shut_bool Try.underlying4 _), (trodAll_cons_mk (Below.trod turnsMerges_laidOut (by kernel_rfl) (of_decide_eq_true (by kernel_rfl)) k0 bel lt0) trodAll_mk0), rfl, bel.frame _, fun h => by cases h⟩
theorem turnsMerges_over : Rows.turnsMergesRow.holds Try.pinned (OpenSpec.ofChange Rows.turnsMergesSpec) :=
  OpenClaim.holds_of_wide 4 Try.f4 rfl rfl rfl rfl rfl rfl rfl ⟨rfl, rfl, rfl, rfl, rfl⟩ rfl rfl rfl rfl rfl (by kernel_rfl) Try.func4 (by kernel_rfl)
    (of_decide_eq_true (by kernel_rfl)) (by unfold Func.isWrapper; first | (rw [if_pos (by decide +kernel)]; kernel_rfl) | (rw [if_neg (by decide +kernel)]; exact ⟨rfl, rfl⟩))
    (fun os started H enc _ => turnsMerges_lifted os started H enc)
/-- The given statement of TurnsMerges. -/
theorem turnsMerges_holds : Rows.TurnsMergesSaid := turnsMerges_over
end Go.Proofs.Ytmphmpfeeiipgaa

