import Derived.Deep.QuietTactic
import Derived.BigQuiet
import Derived.Deep.RegionWith
import Derived.Deep.RegionHeld3
import Derived.Deep.DeepCutAuto
import Derived.Deep.DeepFit
import Derived.Outline
import Derived.ProofKit
import Derived.OpenShut
import Derived.ChangeSame
import Derived.Test.YtmphmpfeeiipgaaZtah
/- For every argument, TurnsPuts answers true and leaves its argument as it was: any inputs with any one more, one behind the other, are the reference's, or refused. No condition. -/
namespace Go.Proofs.Ytmphmpfeeiipgaa
open Go.ChangeShapes Go.WideShapes Go.ChangeAt Go.RowKit Go.Deep
set_option linter.unusedVariables false
set_option linter.unusedSimpArgs false
theorem ask_eq {L1 l : List Iv} {L2 : List Cv} {q : Iv} {a2 : Option Addr} {c2 : Nat} {r : Bool} (h : abI L1 = abI l) (h2 : abC L2 = abC q.l) (e : askN q.ab (abI l) = r) : askN ({ q with a := a2, c := c2, l := L2 } : Iv).ab (abI L1) = r := by
  rw [← e, h]
  show askN ⟨q.t, q.p, abC L2⟩ _ = askN ⟨q.t, q.p, abC q.l⟩ _
  rw [h2]
theorem put_eq {L1 l : List Iv} {L2 : List Cv} {q : Iv} {a2 : Option Addr} {c2 : Nat} {r : Option (List In)} (h : abI L1 = abI l) (h2 : abC L2 = abC q.l) (e : putN q.ab (abI l) = r) : putN ({ q with a := a2, c := c2, l := L2 } : Iv).ab (abI L1) = r := by
  rw [← e, h]
  show putN ⟨q.t, q.p, abC L2⟩ _ = putN ⟨q.t, q.p, abC q.l⟩ _
  rw [h2]
set_option maxRecDepth 1000000 in
set_option maxHeartbeats 6400000 in
theorem turnsPuts_go (la : Option Addr) (ln lc : Nat) (l : List Iv) (ma : Option Addr) (mn mc : Nat) (m : List Iv) (ta : Option Addr) (tn tc : Nat) (ts : List Int) (w : World) (hl : ln ≤ 17592186044416 ∧ InD w w.heap.size la ln l ∧ BdI l) (hm : mn ≤ 17592186044416 ∧ InD w w.heap.size ma mn m ∧ BdI m) (ht : tn ≤ 17592186044416 ∧ Nq w w.heap.size ta tn ts) :
    Calls Try.prog 5 #[.agg #[.slice la ln lc, .slice ma mn mc, .slice ta tn tc]] w fun e w' => e = .returned (.bool true) ∧ Below w.heap.size w w' := by
  have HWB : Hk (Below w.heap.size w (w.alloc (.cells #[.slice la ln lc, .slice ma mn mc, .slice ta tn tc] 25))) := ⟨(Below.refl _ _).alloc (Nat.le_refl _) _⟩
  have hNW : (w.heap.size + 1) ≤ (w.alloc (.cells #[.slice la ln lc, .slice ma mn mc, .slice ta tn tc] 25)).heap.size := by simp
  have HB : Hk (Below (w.heap.size + 1) (w.alloc (.cells #[.slice la ln lc, .slice ma mn mc, .slice ta tn tc] 25)) (w.alloc (.cells #[.slice la ln lc, .slice ma mn mc, .slice ta tn tc] 25))) := ⟨Below.refl _ _⟩
  have HTR : Hk (∀ X, Below (w.heap.size + 1) (w.alloc (.cells #[.slice la ln lc, .slice ma mn mc, .slice ta tn tc] 25)) X → Below w.heap.size w X) := ⟨fun X hX => HWB.out.trans (hX.mono (by omega))⟩
  have P0 : Hk ((w.alloc (.cells #[.slice la ln lc, .slice ma mn mc, .slice ta tn tc] 25)).cell? ⟨w.heap.size, 0, none⟩ = some (.slice la ln lc)) := ⟨(Bk.new w #[.slice la ln lc, .slice ma mn mc, .slice ta tn tc] 25).c 0⟩
  have P1 : Hk ((w.alloc (.cells #[.slice la ln lc, .slice ma mn mc, .slice ta tn tc] 25)).cell? ⟨w.heap.size, 1, none⟩ = some (.slice ma mn mc)) := ⟨(Bk.new w #[.slice la ln lc, .slice ma mn mc, .slice ta tn tc] 25).c 1⟩
  have P2 : Hk ((w.alloc (.cells #[.slice la ln lc, .slice ma mn mc, .slice ta tn tc] 25)).cell? ⟨w.heap.size, 2, none⟩ = some (.slice ta tn tc)) := ⟨(Bk.new w #[.slice la ln lc, .slice ma mn mc, .slice ta tn tc] 25).c 2⟩
  have HHL : Hk (ln ≤ 17592186044416 ∧ InD (w.alloc (.cells #[.slice la ln lc, .slice ma mn mc, .slice ta tn tc] 25)) (w.alloc (.cells #[.slice la ln lc, .slice ma mn mc, .slice ta tn tc] 25)).heap.size la ln l ∧ BdI l) := ⟨hl.1, hl.2.1.later HWB.out, hl.2.2⟩
  have HHM : Hk (mn ≤ 17592186044416 ∧ InD (w.alloc (.cells #[.slice la ln lc, .slice ma mn mc, .slice ta tn tc] 25)) (w.alloc (.cells #[.slice la ln lc, .slice ma mn mc, .slice ta tn tc] 25)).heap.size ma mn m ∧ BdI m) := ⟨hm.1, hm.2.1.later HWB.out, hm.2.2⟩
  have HL := Hk.mk hl
  have HM := Hk.mk hm
  have HT := Hk.mk ht
  clear hl hm ht
  go_enter Try.func5, Try.ntmps5
  go_upto_if 11 with (go_at_call 10; (with_reducible refine (heavy27_any la ln lc l ma mn mc m ta tn tc _ HHL.out HHM.out).mono ?_); rintro e z ⟨hvy, rfl, hb, HV⟩; (first | (have hB2 := Hk.mk (kw_step HB.out hNW hb); clear hb; replace HB := hB2; clear hB2) | (have hB2 := Hk.mk (kw_step HB.out.drew hNW hb); clear hb; replace HB := hB2; clear hB2)))
  cases hvy
  · obtain ⟨hsl, hsm, -, hl8, hm8⟩ := HV.out rfl
    have HSM := Hk.mk hsm
    have HSL0 := Hk.mk hsl
    have HLN := Hk.mk HM.out.2.1.q.len
    have hmn : mn ≤ 800 := by rw [← HLN.out]; exact hm8
    have HLA : Hk (∀ X, Below (w.heap.size + 1) (w.alloc (.cells #[.slice la ln lc, .slice ma mn mc, .slice ta tn tc] 25)) X → InD X X.heap.size la ln l) := ⟨fun X hX => (HL.out.2.1.below (HTR.out _ hX) (Nat.le_refl _)).mono (HTR.out _ hX).size⟩
    have HMA := Hk.mk HM.out.2.1
    have HL8 : Hk (ln ≤ 800) := ⟨by rw [← HL.out.2.1.q.len]; exact hl8⟩
    have HVF0 : Hk (∀ X, Below (w.heap.size + 1) (w.alloc (.cells #[.slice la ln lc, .slice ma mn mc, .slice ta tn tc] 25)) X → X.cell? ⟨w.heap.size, 1, none⟩ = some (.slice ma mn mc) ∧ w.heap.size < X.heap.size) := ⟨fun X hX => by
      have h0 := (hX.cell (p := ⟨w.heap.size, 1, none⟩) (Nat.lt_succ_self _)).trans P1.out
      exact ⟨h0, World.block_lt_of_cell? _ _ h0⟩⟩
    have y0 := (HB.out.cell (p := ⟨w.heap.size, 0, none⟩) (Nat.lt_succ_self _)).trans P0.out
    clear HV hsl hsm hl8 hm8 HHL HHM HL HM HT P0 P1 P2
    go_upto_region 4 with (go_at_call 17; (with_reducible refine (copyins_any la ln lc l _ (HLA.out _ HB.out) HSL0.out).mono ?_); rintro e z ⟨v, L, rfl, ho, hab, hb⟩; obtain ⟨sa, sc, rfl, -⟩ := ho.o.form; have HO0 : Hk (OwN z (w.heap.size + 1) (.slice sa ln sc) ln L) := ⟨ho.weak (kw_size HB.out hNW)⟩; have HS0 : Hk (SmI L ∧ ln ≤ 800 + 0) := ⟨smI_of ho.d (HLA.out _ HB.out) HSL0.out (fun x hx => by rw [← hab]; exact hx) (by rw [ho.o.len, (HLA.out _ HB.out).q.len]; exact Nat.le_refl _), HL8.out⟩; clear y0 ho hab; (first | (have hB2 := Hk.mk (kw_step HB.out hNW hb); clear hb; replace HB := hB2; clear hB2) | (have hB2 := Hk.mk (kw_step HB.out.drew hNW hb); clear hb; replace HB := hB2; clear hB2)))
    go_wp2
    go_loopw [3, 4] (fun lv i wr => ∃ (k n sc : Nat) (sa : Option Addr) (L : List Iv), lv = .slice sa n sc ∧ i = .int .i64 k ∧ k ≤ mn ∧ Hk (OwN wr (w.heap.size + 1) (.slice sa n sc) n L) ∧ Hk (SmI L ∧ n ≤ 800 + k) ∧ Hk (Below (w.heap.size + 1) (w.alloc (.cells #[.slice la ln lc, .slice ma mn mc, .slice ta tn tc] 25)) wr)) (fun _ i _ => mn - (intOf i).toNat)
    case atStart => exact ⟨0, ln, sc, sa, L, rfl, rfl, Nat.zero_le _, HO0, HS0, HB⟩
    case round =>
      clear HB HO0 HS0
      obtain ⟨k, n, sc, sa, L, rfl, rfl, hk, HO, HSL, HB⟩ := hrel
      obtain ⟨x1, xl⟩ := HVF0.out _ HB.out
      by_cases hlt : k < mn
      · by_cases h10 : k < 10
        · have hd10 : decide ((k : Int) < 10) = true := by rw [decide_eq_true_iff]; omega
          obtain ⟨mb, moff, ea, hmb, ⟨z0, z1, z2⟩, hmq⟩ := ((HMA.out.below (HTR.out _ HB.out) (Nat.le_refl _)).mono (HTR.out _ HB.out).size).three hlt
          have hkl : k < m.length := by rw [HLN.out]; exact hlt
          have HSQ := Hk.mk (HSM.out.m _ (getD_memI hkl))
          obtain ⟨q, hqq⟩ : ∃ q, m.getD k default = q := ⟨_, rfl⟩
          rw [hqq] at z0 z1 z2 hmq HSQ
          rw [ea] at x1
          have HVF : Hk (∀ X, Below wr.heap.size wr X → X.cell? ⟨w.heap.size, 1, none⟩ = some (.slice (some ⟨mb, moff, none⟩) mn mc) ∧ X.cell? ⟨mb, moff + k * 3, none⟩ = some (.int .i64 q.t) ∧ X.cell? ⟨mb, moff + k * 3 + 1, none⟩ = some (.int .i64 q.p) ∧ X.cell? ⟨mb, moff + k * 3 + 2, none⟩ = some (.slice q.a q.n q.c) ∧ w.heap.size < X.heap.size ∧ mb < X.heap.size) := ⟨fun X hX => ⟨(hX.cell (p := ⟨w.heap.size, 1, none⟩) xl).trans x1, (hX.cell (p := ⟨mb, moff + k * 3, none⟩) hmb).trans z0, (hX.cell (p := ⟨mb, moff + k * 3 + 1, none⟩) hmb).trans z1, (hX.cell (p := ⟨mb, moff + k * 3 + 2, none⟩) hmb).trans z2, Nat.lt_of_lt_of_le xl hX.size, Nat.lt_of_lt_of_le hmb hX.size⟩⟩
          have HMQ : Hk (∀ X, Below wr.heap.size wr X → CmD X X.heap.size q.a q.n q.l) := ⟨fun X hX => (hmq.below hX (Nat.le_refl _)).mono hX.size⟩
          have HLI : Hk (∀ X, Below wr.heap.size wr X → InD X X.heap.size sa n L) := ⟨fun X hX => (HO.out.below hX).d⟩
          have HWX : Hk (∀ X, Below wr.heap.size wr X → Below (w.heap.size + 1) (w.alloc (.cells #[.slice la ln lc, .slice ma mn mc, .slice ta tn tc] 25)) X) := ⟨fun X hX => HB.out.trans (hX.mono (kw_size HB.out hNW))⟩
          obtain ⟨hcap1, hcap2, hcap⟩ := HO.out.capf
          have HCAP := Hk.mk hcap
          have t0 : (0 : Int) ≤ (k : Int) := by omega
          have t1 : (k : Int) < (mn : Int) := by omega
          have HLT := Hk.mk hlt
          have HNW := Hk.mk (kw_size HB.out hNW)
          have gk : IntKind.i64.wrap ((k : Int) + 1) = ((k + 1 : Nat) : Int) := by push_cast; exact wr27 (by omega) (by omega)
          have HV : Hk (Below wr.heap.size wr wr) := ⟨Below.refl _ _⟩
          have HK10 := Hk.mk h10
          clear x1 xl z0 z1 z2 hmq hcap hkl hqq hmb hlt hk h10 HB ea
          obtain ⟨x1, p0, p1, p2, xl, xb⟩ := HVF.out _ HV.out
          obtain ⟨r, hr⟩ : ∃ r, askN q.ab (abI L) = r := ⟨_, rfl⟩
          have EA := Hk.mk hr
          clear hr
          go_upto_region 8 with fail
          go_cut [35] (fun x wx => x = .bool r ∧ Hk (Below wr.heap.size wr wx))
          case first =>
            cases ho : ordN none (abI L)
            · have E := Hk.mk ho
              obtain rfl : r = false := by rw [← EA.out]; unfold askN; rw [ho]; rfl
              clear ho
              go_wp2_with (go_at_call 23; (with_reducible refine (rlist_as false sa n sc L _ (HLI.out _ HV.out) HSL.out.1 E).mono ?_); rintro e z ⟨rfl, hb⟩; have HVn := Hk.mk (kw_step HV.out (Nat.le_refl _) hb); replace HV := HVn; clear HVn; clear x1 p0 p1 p2 xl xb; clear hb; obtain ⟨x1, p0, p1, p2, xl, xb⟩ := HVF.out _ HV.out)
              go_meet
              case rel => exact ⟨rfl, HV⟩
            · have E := Hk.mk ho
              have EQ : Hk (okN ⟨q.t, q.p, abC q.l⟩ = r) := ⟨by rw [← EA.out]; unfold askN; rw [ho]; rfl⟩
              clear ho
              go_wp2_with (first | (go_at_call 23; (with_reducible refine (rlist_as true sa n sc L _ (HLI.out _ HV.out) HSL.out.1 E).mono ?_); rintro e z ⟨rfl, hb⟩; have HVn := Hk.mk (kw_step HV.out (Nat.le_refl _) hb); replace HV := HVn; clear HVn; clear x1 p0 p1 p2 xl xb; clear hb; obtain ⟨x1, p0, p1, p2, xl, xb⟩ := HVF.out _ HV.out) | (go_at_call 14; (with_reducible refine (rmay27_as r q.t q.p q.a q.n q.c q.l _ (HMQ.out _ HV.out) HSQ.out EQ).mono ?_); rintro e z ⟨rfl, hb⟩; have HVn := Hk.mk (kw_step HV.out (Nat.le_refl _) hb); replace HV := HVn; clear HVn; clear x1 p0 p1 p2 xl xb; clear hb; obtain ⟨x1, p0, p1, p2, xl, xb⟩ := HVF.out _ HV.out))
              go_meet
              case rel => exact ⟨rfl, HV⟩
          case rest =>
          clear x1 p0 p1 p2 xl xb
          clear HV
          obtain ⟨rfl, HV⟩ := hcut
          obtain ⟨x1, p0, p1, p2, xl, xb⟩ := HVF.out _ HV.out
          cases r
          · go_upto_region 12 with (first | (go_at_call 17; (with_reducible refine (copyins_any sa n sc L _ (HLI.out _ HV.out) HSL.out.1).mono ?_); rintro e VC ⟨v, LI, rfl, ho, hab, hb⟩; obtain ⟨ai, ci, rfl, -⟩ := ho.o.form; have HID := Hk.mk ho.d; have HAI := Hk.mk hab; have HSI := Hk.mk (smI_of ho.d (HLI.out _ HV.out) HSL.out.1 (fun x hx => by rw [← hab]; exact hx) (by rw [ho.o.len, (HLI.out _ HV.out).q.len]; exact Nat.le_refl _)); clear ho hab; have HVn := Hk.mk (kw_step HV.out (Nat.le_refl _) hb); replace HV := HVn; clear HVn; clear x1 p0 p1 p2 xl xb; clear hb; obtain ⟨x1, p0, p1, p2, xl, xb⟩ := HVF.out _ HV.out; have HZ : Hk (Below VC.heap.size VC VC) := ⟨Below.refl _ _⟩) | (go_at_call 11; (with_reducible refine (copyin_any q.t q.p q.a q.n q.c q.l _ (HMQ.out _ HV.out) HSQ.out).mono ?_); rintro e VP ⟨a2, c2, L2, rfl, ho, hab, hb⟩; have HQD := Hk.mk ho.d; have HQA := Hk.mk hab; have HQS : Hk (SmC L2) := ⟨smC_by ho.d (by rw [hab]; exact smNc_of (HMQ.out _ HV.out) HSQ.out)⟩; replace HZ := Hk.mk (kw_step HZ.out (Nat.le_refl _) hb); clear ho hab; have HVn := Hk.mk (kw_step HV.out (Nat.le_refl _) hb); replace HV := HVn; clear HVn; clear x1 p0 p1 p2 xl xb; clear hb; obtain ⟨x1, p0, p1, p2, xl, xb⟩ := HVF.out _ HV.out) | (go_at_call 25; (with_reducible refine (tput_no ({ q with a := a2, c := c2, l := L2 } : Iv) ai n ci LI _ (HID.out.later HZ.out) HSI.out HQD.out HQS.out ⟨ask_eq HAI.out HQA.out EA.out⟩).mono ?_); rintro e V ⟨rfl, hb⟩; have HP := Hk.mk hb; have HSZ : Hk (wr.heap.size ≤ VP.heap.size ∧ VC.heap.size ≤ VP.heap.size) := ⟨HV.out.size, HZ.out.size⟩; replace HZ := Hk.mk (kw_step HZ.out (Nat.le_refl _) hb); have HVn := Hk.mk (kw_step HV.out (Nat.le_refl _) hb); replace HV := HVn; clear HVn; clear x1 p0 p1 p2 xl xb; clear hb; obtain ⟨x1, p0, p1, p2, xl, xb⟩ := HVF.out _ HV.out))
            have HXD := Hk.mk (InD.nil V V.heap.size none)
            have HWD := Hk.mk (InD.nil V V.heap.size none)
            have HDI := Hk.mk (HID.out.later HZ.out)
            have HDL := Hk.mk (HLI.out _ HV.out)
            have HE : Hk (Below V.heap.size V V) := ⟨Below.refl _ _⟩
            go_upto_region 14 with (first | (go_at_call 12; (with_reducible refine (num27_any _ _).mono ?_); rintro e z2 ⟨rfl, hz⟩; rw [hz]; clear hz z2) | (go_at_call 21; (with_reducible refine (eqins_as true none none 0 0 0 0 [] [] _ ((HXD.out.below HE.out (Nat.le_refl _)).mono HE.out.size) ((HWD.out.below HE.out (Nat.le_refl _)).mono HE.out.size) SmI.nil SmI.nil ⟨⟨fun _ => rfl, fun _ => by first | rfl | rw [HXA.out, HWA.out]⟩⟩).mono ?_); rintro e z ⟨rfl, hb⟩; have HEn := Hk.mk (kw_step HE.out (Nat.le_refl _) hb); replace HE := HEn; clear HEn; have HVn := Hk.mk (kw_step HV.out (Nat.le_refl _) hb); replace HV := HVn; clear HVn; clear x1 p0 p1 p2 xl xb; clear hb; obtain ⟨x1, p0, p1, p2, xl, xb⟩ := HVF.out _ HV.out) | (go_at_call 21; (with_reducible refine (eqins_as true ai sa n n ci sc LI L _ ((HDI.out.below HE.out (Nat.le_refl _)).mono HE.out.size) ((HDL.out.below HE.out (Nat.le_refl _)).mono HE.out.size) HSI.out HSL.out.1 ⟨⟨fun _ => rfl, fun _ => HAI.out⟩⟩).mono ?_); rintro e z ⟨rfl, hb⟩; have HEn := Hk.mk (kw_step HE.out (Nat.le_refl _) hb); replace HE := HEn; clear HEn; have HVn := Hk.mk (kw_step HV.out (Nat.le_refl _) hb); replace HV := HVn; clear HVn; clear x1 p0 p1 p2 xl xb; clear hb; obtain ⟨x1, p0, p1, p2, xl, xb⟩ := HVF.out _ HV.out))
            have HS9 : Hk (∀ Y, Below V.heap.size V Y → ShI Y VP.heap.size none 0 0) := ⟨fun Y hY => ShI.nil _ _⟩
            have HPE := Hk.mk (HP.out.trans (HE.out.mono HP.out.size))
            have HVP : Hk (wr.heap.size ≤ VP.heap.size ∧ VC.heap.size ≤ VP.heap.size) := ⟨HSZ.out⟩
            have HZE := Hk.mk (HZ.out.trans (HE.out.mono HZ.out.size))
            clear x1 p0 p1 p2 xl xb
            clear HDI HDL HXD HZ HP
            go_wp2_with (first
              | (go_at_call 26; (with_reducible refine (inps_own VP.heap.size 0 0 none _ (HS9.out _ HE.out) HPE.out.size).mono ?_); rintro e z6 ⟨rfl, hs⟩; have hb6 := hs.bl; replace HV := Hk.mk (HV.out.trans (hb6.mono HVP.out.1)); replace HZE := Hk.mk (HZE.out.trans (hb6.mono HVP.out.2)); clear hs hb6; obtain ⟨x1, p0, p1, p2, xl, xb⟩ := HVF.out _ HV.out)
              | (go_at_call 21; (with_reducible refine (eqins_as true ai sa n n ci sc LI L _ (HID.out.later HZE.out) (HLI.out _ HV.out) HSI.out HSL.out.1 ⟨⟨fun _ => rfl, fun _ => HAI.out⟩⟩).mono ?_); rintro e z ⟨rfl, hb⟩; have HZEn := Hk.mk (kw_step HZE.out (Nat.le_refl _) hb); replace HZE := HZEn; clear HZEn; have HVn := Hk.mk (kw_step HV.out (Nat.le_refl _) hb); replace HV := HVn; clear HVn; clear x1 p0 p1 p2 xl xb; clear hb; obtain ⟨x1, p0, p1, p2, xl, xb⟩ := HVF.out _ HV.out)
              | (go_at_call 17; (with_reducible refine (copyins_any wa wn wc W _ (HWC.out.later HZE.out) HWS.out).mono ?_); rintro e z ⟨v, L9, rfl, ho, hab, hb⟩; obtain ⟨a9, c9, rfl, -⟩ := ho.o.form; have HO9 := Hk.mk (ho.weak (Nat.le_trans HNW.out HV.out.size)); have HA9 := Hk.mk hab; have HD9 := Hk.mk ho.d; have HVn := Hk.mk (kw_step HV.out (Nat.le_refl _) hb); replace HV := HVn; clear HVn; clear x1 p0 p1 p2 xl xb; clear hb; obtain ⟨x1, p0, p1, p2, xl, xb⟩ := HVF.out _ HV.out))
            exact ⟨⟨k + 1, n, sc, sa, L, rfl, by go_num, HLT.out, Hk.mk (HO.out.below HV.out), ⟨HSL.out.1, by have := HSL.out.2; omega⟩, ⟨HWX.out _ HV.out⟩⟩, by first | exact nx_ms HLT.out | exact nx_ms' HLT.out⟩
          · cases hp : putN q.ab (abI L) with
            | none =>
              have EP := Hk.mk hp
              clear hp
              go_upto_region 12 with (first | ((go_at_call 24; (with_reducible refine (rput_any q none sa n sc L _ (HLI.out _ HV.out) HSL.out.1 (HMQ.out _ HV.out) HSQ.out hcap1 hcap2 HCAP.out EP).mono ?_); rintro e z hpr); obtain rfl := hpr.no rfl; have hb := hpr.bl; clear hpr; have HVn := Hk.mk (kw_step HV.out (Nat.le_refl _) hb); replace HV := HVn; clear HVn; clear x1 p0 p1 p2 xl xb; clear hb; obtain ⟨x1, p0, p1, p2, xl, xb⟩ := HVF.out _ HV.out) | (go_at_call 17; (with_reducible refine (copyins_any sa n sc L _ (HLI.out _ HV.out) HSL.out.1).mono ?_); rintro e VC ⟨v, LI, rfl, ho, hab, hb⟩; obtain ⟨ai, ci, rfl, -⟩ := ho.o.form; have HID := Hk.mk ho.d; have HAI := Hk.mk hab; have HSI := Hk.mk (smI_of ho.d (HLI.out _ HV.out) HSL.out.1 (fun x hx => by rw [← hab]; exact hx) (by rw [ho.o.len, (HLI.out _ HV.out).q.len]; exact Nat.le_refl _)); clear ho hab; have HVn := Hk.mk (kw_step HV.out (Nat.le_refl _) hb); replace HV := HVn; clear HVn; clear x1 p0 p1 p2 xl xb; clear hb; obtain ⟨x1, p0, p1, p2, xl, xb⟩ := HVF.out _ HV.out; have HZ : Hk (Below VC.heap.size VC VC) := ⟨Below.refl _ _⟩) | (go_at_call 11; (with_reducible refine (copyin_any q.t q.p q.a q.n q.c q.l _ (HMQ.out _ HV.out) HSQ.out).mono ?_); rintro e VP ⟨a2, c2, L2, rfl, ho, hab, hb⟩; have HQD := Hk.mk ho.d; have HQA := Hk.mk hab; have HQS : Hk (SmC L2) := ⟨smC_by ho.d (by rw [hab]; exact smNc_of (HMQ.out _ HV.out) HSQ.out)⟩; replace HZ := Hk.mk (kw_step HZ.out (Nat.le_refl _) hb); clear ho hab; have HVn := Hk.mk (kw_step HV.out (Nat.le_refl _) hb); replace HV := HVn; clear HVn; clear x1 p0 p1 p2 xl xb; clear hb; obtain ⟨x1, p0, p1, p2, xl, xb⟩ := HVF.out _ HV.out) | ((go_at_call 25; (with_reducible refine (tput_yes ({ q with a := a2, c := c2, l := L2 } : Iv) none ai n ci LI _ (HID.out.later HZ.out) HSI.out HQD.out HQS.out ⟨ask_eq HAI.out HQA.out EA.out⟩ ⟨put_eq HAI.out HQA.out EP.out⟩).mono ?_); rintro e V hpr); obtain rfl := hpr.no rfl; have hb := hpr.bl; clear hpr; have HP := Hk.mk hb; have HSZ : Hk (wr.heap.size ≤ VP.heap.size ∧ VC.heap.size ≤ VP.heap.size) := ⟨HV.out.size, HZ.out.size⟩; replace HZ := Hk.mk (kw_step HZ.out (Nat.le_refl _) hb); have HVn := Hk.mk (kw_step HV.out (Nat.le_refl _) hb); replace HV := HVn; clear HVn; clear x1 p0 p1 p2 xl xb; clear hb; obtain ⟨x1, p0, p1, p2, xl, xb⟩ := HVF.out _ HV.out))
              have HXD := Hk.mk (InD.nil V V.heap.size none)
              have HWD := Hk.mk (InD.nil V V.heap.size none)
              have HDI := Hk.mk (HID.out.later HZ.out)
              have HDL := Hk.mk (HLI.out _ HV.out)
              have HE : Hk (Below V.heap.size V V) := ⟨Below.refl _ _⟩
              go_upto_region 14 with (first | (go_at_call 12; (with_reducible refine (num27_any _ _).mono ?_); rintro e z2 ⟨rfl, hz⟩; rw [hz]; clear hz z2) | (go_at_call 21; (with_reducible refine (eqins_as true none none 0 0 0 0 [] [] _ ((HXD.out.below HE.out (Nat.le_refl _)).mono HE.out.size) ((HWD.out.below HE.out (Nat.le_refl _)).mono HE.out.size) SmI.nil SmI.nil ⟨⟨fun _ => rfl, fun _ => by first | rfl | rw [HXA.out, HWA.out]⟩⟩).mono ?_); rintro e z ⟨rfl, hb⟩; have HEn := Hk.mk (kw_step HE.out (Nat.le_refl _) hb); replace HE := HEn; clear HEn; have HVn := Hk.mk (kw_step HV.out (Nat.le_refl _) hb); replace HV := HVn; clear HVn; clear x1 p0 p1 p2 xl xb; clear hb; obtain ⟨x1, p0, p1, p2, xl, xb⟩ := HVF.out _ HV.out) | (go_at_call 21; (with_reducible refine (eqins_as true ai sa n n ci sc LI L _ ((HDI.out.below HE.out (Nat.le_refl _)).mono HE.out.size) ((HDL.out.below HE.out (Nat.le_refl _)).mono HE.out.size) HSI.out HSL.out.1 ⟨⟨fun _ => rfl, fun _ => HAI.out⟩⟩).mono ?_); rintro e z ⟨rfl, hb⟩; have HEn := Hk.mk (kw_step HE.out (Nat.le_refl _) hb); replace HE := HEn; clear HEn; have HVn := Hk.mk (kw_step HV.out (Nat.le_refl _) hb); replace HV := HVn; clear HVn; clear x1 p0 p1 p2 xl xb; clear hb; obtain ⟨x1, p0, p1, p2, xl, xb⟩ := HVF.out _ HV.out))
              have HS9 : Hk (∀ Y, Below V.heap.size V Y → ShI Y VP.heap.size none 0 0) := ⟨fun Y hY => ShI.nil _ _⟩
              have HPE := Hk.mk (HP.out.trans (HE.out.mono HP.out.size))
              have HVP : Hk (wr.heap.size ≤ VP.heap.size ∧ VC.heap.size ≤ VP.heap.size) := ⟨HSZ.out⟩
              have HZE := Hk.mk (HZ.out.trans (HE.out.mono HZ.out.size))
              clear x1 p0 p1 p2 xl xb
              clear HDI HDL HXD HZ HP
              go_wp2_with (first
                | (go_at_call 26; (with_reducible refine (inps_own VP.heap.size 0 0 none _ (HS9.out _ HE.out) HPE.out.size).mono ?_); rintro e z6 ⟨rfl, hs⟩; have hb6 := hs.bl; replace HV := Hk.mk (HV.out.trans (hb6.mono HVP.out.1)); replace HZE := Hk.mk (HZE.out.trans (hb6.mono HVP.out.2)); clear hs hb6; obtain ⟨x1, p0, p1, p2, xl, xb⟩ := HVF.out _ HV.out)
                | (go_at_call 21; (with_reducible refine (eqins_as true ai sa n n ci sc LI L _ (HID.out.later HZE.out) (HLI.out _ HV.out) HSI.out HSL.out.1 ⟨⟨fun _ => rfl, fun _ => HAI.out⟩⟩).mono ?_); rintro e z ⟨rfl, hb⟩; have HZEn := Hk.mk (kw_step HZE.out (Nat.le_refl _) hb); replace HZE := HZEn; clear HZEn; have HVn := Hk.mk (kw_step HV.out (Nat.le_refl _) hb); replace HV := HVn; clear HVn; clear x1 p0 p1 p2 xl xb; clear hb; obtain ⟨x1, p0, p1, p2, xl, xb⟩ := HVF.out _ HV.out)
                | (go_at_call 17; (with_reducible refine (copyins_any wa wn wc W _ (HWC.out.later HZE.out) HWS.out).mono ?_); rintro e z ⟨v, L9, rfl, ho, hab, hb⟩; obtain ⟨a9, c9, rfl, -⟩ := ho.o.form; have HO9 := Hk.mk (ho.weak (Nat.le_trans HNW.out HV.out.size)); have HA9 := Hk.mk hab; have HD9 := Hk.mk ho.d; have HVn := Hk.mk (kw_step HV.out (Nat.le_refl _) hb); replace HV := HVn; clear HVn; clear x1 p0 p1 p2 xl xb; clear hb; obtain ⟨x1, p0, p1, p2, xl, xb⟩ := HVF.out _ HV.out))
              exact ⟨⟨k + 1, n, sc, sa, L, rfl, by go_num, HLT.out, Hk.mk (HO.out.below HV.out), ⟨HSL.out.1, by have := HSL.out.2; omega⟩, ⟨HWX.out _ HV.out⟩⟩, by first | exact nx_ms HLT.out | exact nx_ms' HLT.out⟩
            | some m2 =>
              have EP := Hk.mk hp
              have hpm := put_mem hp
              have HSN : Hk (∀ x, x ∈ m2 → SmN x) := ⟨fun x hx => by
                rcases hpm.2 x hx with e | e
                · rw [e]; exact smNc_of (HMQ.out _ HV.out) HSQ.out
                · exact smN_of (HLI.out _ HV.out) HSL.out.1 x e⟩
              have HM2 : Hk (m2.length = n + 1) := ⟨by rw [hpm.1, abI_len, HO.out.o.len]⟩
              clear hp hpm
              go_upto_region 12 with (first | ((go_at_call 24; (with_reducible refine (rput_any q (some m2) sa n sc L _ (HLI.out _ HV.out) HSL.out.1 (HMQ.out _ HV.out) HSQ.out hcap1 hcap2 HCAP.out EP).mono ?_); rintro e z hpr); obtain ⟨wa, wn, wc, W, rfl, ho, hab⟩ := hpr.yes m2 rfl; have hb := hpr.bl; have HWD0 := Hk.mk ho.d; have HWA := Hk.mk hab; clear hpr ho hab; have HVn := Hk.mk (kw_step HV.out (Nat.le_refl _) hb); replace HV := HVn; clear HVn; clear x1 p0 p1 p2 xl xb; clear hb; obtain ⟨x1, p0, p1, p2, xl, xb⟩ := HVF.out _ HV.out) | (go_at_call 17; (with_reducible refine (copyins_any sa n sc L _ (HLI.out _ HV.out) HSL.out.1).mono ?_); rintro e VC ⟨v, LI, rfl, ho, hab, hb⟩; obtain ⟨ai, ci, rfl, -⟩ := ho.o.form; have HID := Hk.mk ho.d; have HAI := Hk.mk hab; have HSI := Hk.mk (smI_of ho.d (HLI.out _ HV.out) HSL.out.1 (fun x hx => by rw [← hab]; exact hx) (by rw [ho.o.len, (HLI.out _ HV.out).q.len]; exact Nat.le_refl _)); have HWC := Hk.mk (HWD0.out.later hb); clear HWD0; clear ho hab; have HVn := Hk.mk (kw_step HV.out (Nat.le_refl _) hb); replace HV := HVn; clear HVn; clear x1 p0 p1 p2 xl xb; clear hb; obtain ⟨x1, p0, p1, p2, xl, xb⟩ := HVF.out _ HV.out; have HZ : Hk (Below VC.heap.size VC VC) := ⟨Below.refl _ _⟩) | (go_at_call 11; (with_reducible refine (copyin_any q.t q.p q.a q.n q.c q.l _ (HMQ.out _ HV.out) HSQ.out).mono ?_); rintro e VP ⟨a2, c2, L2, rfl, ho, hab, hb⟩; have HQD := Hk.mk ho.d; have HQA := Hk.mk hab; have HQS : Hk (SmC L2) := ⟨smC_by ho.d (by rw [hab]; exact smNc_of (HMQ.out _ HV.out) HSQ.out)⟩; replace HZ := Hk.mk (kw_step HZ.out (Nat.le_refl _) hb); clear ho hab; have HVn := Hk.mk (kw_step HV.out (Nat.le_refl _) hb); replace HV := HVn; clear HVn; clear x1 p0 p1 p2 xl xb; clear hb; obtain ⟨x1, p0, p1, p2, xl, xb⟩ := HVF.out _ HV.out) | ((go_at_call 25; (with_reducible refine (tput_yes ({ q with a := a2, c := c2, l := L2 } : Iv) (some m2) ai n ci LI _ (HID.out.later HZ.out) HSI.out HQD.out HQS.out ⟨ask_eq HAI.out HQA.out EA.out⟩ ⟨put_eq HAI.out HQA.out EP.out⟩).mono ?_); rintro e V hpr); obtain ⟨xa, xn, xc, X, rfl, ho, hab⟩ := hpr.yes m2 rfl; have hb := hpr.bl; have HXO := Hk.mk ho; have HXA := Hk.mk hab; have HP := Hk.mk hb; have HSZ : Hk (wr.heap.size ≤ VP.heap.size ∧ VC.heap.size ≤ VP.heap.size) := ⟨HV.out.size, HZ.out.size⟩; replace HZ := Hk.mk (kw_step HZ.out (Nat.le_refl _) hb); clear hpr ho hab; have HVn := Hk.mk (kw_step HV.out (Nat.le_refl _) hb); replace HV := HVn; clear HVn; clear x1 p0 p1 p2 xl xb; clear hb; obtain ⟨x1, p0, p1, p2, xl, xb⟩ := HVF.out _ HV.out))
              have HXD := Hk.mk HXO.out.d
              have HWD := Hk.mk (HWC.out.later HZ.out)
              have hwn : W.length = n + 1 := by rw [← abI_len, HWA.out, HM2.out]
              have hxn : X.length = n + 1 := by rw [← abI_len, HXA.out, HM2.out]
              have HWS : Hk (SmI W) := ⟨smI_by HWD.out (by have := HSL.out.2; have := HK10.out; omega) (by rw [HWA.out]; exact HSN.out)⟩
              have HXS : Hk (SmI X) := ⟨smI_by HXD.out (by have := HSL.out.2; have := HK10.out; omega) (by rw [HXA.out]; exact HSN.out)⟩
              have HDI := Hk.mk (HID.out.later HZ.out)
              have HDL := Hk.mk (HLI.out _ HV.out)
              have HE : Hk (Below V.heap.size V V) := ⟨Below.refl _ _⟩
              go_upto_region 14 with (first | (go_at_call 12; (with_reducible refine (num27_any _ _).mono ?_); rintro e z2 ⟨rfl, hz⟩; rw [hz]; clear hz z2) | (go_at_call 21; (with_reducible refine (eqins_as true xa wa xn wn xc wc X W _ ((HXD.out.below HE.out (Nat.le_refl _)).mono HE.out.size) ((HWD.out.below HE.out (Nat.le_refl _)).mono HE.out.size) HXS.out HWS.out ⟨⟨fun _ => rfl, fun _ => by first | rfl | rw [HXA.out, HWA.out]⟩⟩).mono ?_); rintro e z ⟨rfl, hb⟩; have HEn := Hk.mk (kw_step HE.out (Nat.le_refl _) hb); replace HE := HEn; clear HEn; have HVn := Hk.mk (kw_step HV.out (Nat.le_refl _) hb); replace HV := HVn; clear HVn; clear x1 p0 p1 p2 xl xb; clear hb; obtain ⟨x1, p0, p1, p2, xl, xb⟩ := HVF.out _ HV.out) | (go_at_call 21; (with_reducible refine (eqins_as true ai sa n n ci sc LI L _ ((HDI.out.below HE.out (Nat.le_refl _)).mono HE.out.size) ((HDL.out.below HE.out (Nat.le_refl _)).mono HE.out.size) HSI.out HSL.out.1 ⟨⟨fun _ => rfl, fun _ => HAI.out⟩⟩).mono ?_); rintro e z ⟨rfl, hb⟩; have HEn := Hk.mk (kw_step HE.out (Nat.le_refl _) hb); replace HE := HEn; clear HEn; have HVn := Hk.mk (kw_step HV.out (Nat.le_refl _) hb); replace HV := HVn; clear HVn; clear x1 p0 p1 p2 xl xb; clear hb; obtain ⟨x1, p0, p1, p2, xl, xb⟩ := HVF.out _ HV.out))
              have HS9 : Hk (∀ Y, Below V.heap.size V Y → ShI Y VP.heap.size xa xn xc) := ⟨fun Y hY => (HXO.out.below hY).shi HXS.out⟩
              have HPE := Hk.mk (HP.out.trans (HE.out.mono HP.out.size))
              have HVP : Hk (wr.heap.size ≤ VP.heap.size ∧ VC.heap.size ≤ VP.heap.size) := ⟨HSZ.out⟩
              have HZE := Hk.mk (HZ.out.trans (HE.out.mono HZ.out.size))
              clear x1 p0 p1 p2 xl xb
              clear HDI HDL HXD HZ HP
              go_wp2_with (first
                | (go_at_call 26; (with_reducible refine (inps_own VP.heap.size xn xc xa _ (HS9.out _ HE.out) HPE.out.size).mono ?_); rintro e z6 ⟨rfl, hs⟩; have hb6 := hs.bl; replace HV := Hk.mk (HV.out.trans (hb6.mono HVP.out.1)); replace HZE := Hk.mk (HZE.out.trans (hb6.mono HVP.out.2)); clear hs hb6; obtain ⟨x1, p0, p1, p2, xl, xb⟩ := HVF.out _ HV.out)
                | (go_at_call 21; (with_reducible refine (eqins_as true ai sa n n ci sc LI L _ (HID.out.later HZE.out) (HLI.out _ HV.out) HSI.out HSL.out.1 ⟨⟨fun _ => rfl, fun _ => HAI.out⟩⟩).mono ?_); rintro e z ⟨rfl, hb⟩; have HZEn := Hk.mk (kw_step HZE.out (Nat.le_refl _) hb); replace HZE := HZEn; clear HZEn; have HVn := Hk.mk (kw_step HV.out (Nat.le_refl _) hb); replace HV := HVn; clear HVn; clear x1 p0 p1 p2 xl xb; clear hb; obtain ⟨x1, p0, p1, p2, xl, xb⟩ := HVF.out _ HV.out)
                | (go_at_call 17; (with_reducible refine (copyins_any wa wn wc W _ (HWC.out.later HZE.out) HWS.out).mono ?_); rintro e z ⟨v, L9, rfl, ho, hab, hb⟩; obtain ⟨a9, c9, rfl, -⟩ := ho.o.form; have HO9 := Hk.mk (ho.weak (Nat.le_trans HNW.out HV.out.size)); have HA9 := Hk.mk hab; have HD9 := Hk.mk ho.d; have HVn := Hk.mk (kw_step HV.out (Nat.le_refl _) hb); replace HV := HVn; clear HVn; clear x1 p0 p1 p2 xl xb; clear hb; obtain ⟨x1, p0, p1, p2, xl, xb⟩ := HVF.out _ HV.out))
              have hwl : wn = n + 1 := by rw [← hwn]; exact HWC.out.q.len.symm
              subst hwl
              have HS2 : Hk (SmI L9 ∧ n + 1 ≤ 800 + (k + 1)) := ⟨smI_by HD9.out (by rw [HD9.out.q.len]; have := HSL.out.2; have := HK10.out; omega) (by rw [HA9.out, HWA.out]; exact HSN.out), by have := HSL.out.2; omega⟩
              exact ⟨⟨k + 1, n + 1, c9, a9, L9, rfl, by go_num, HLT.out, HO9, HS2, ⟨HWX.out _ HV.out⟩⟩, by first | exact nx_ms HLT.out | exact nx_ms' HLT.out⟩
        · have hd10 : decide ((k : Int) < 10) = false := by rw [decide_eq_false_iff_not]; omega
          have t1 : (k : Int) < (mn : Int) := by omega
          go_wp2_with (go_at_call 16; (with_reducible refine (wakes27_any _).mono ?_); rintro e z ⟨rfl, hb⟩; (first | (have hB2 := Hk.mk (kw_step HB.out hNW hb); clear hb; replace HB := hB2; clear hB2) | (have hB2 := Hk.mk (kw_step HB.out.drew hNW hb); clear hb; replace HB := hB2; clear hB2)))
          go_ret
          exact ⟨rfl, HTR.out _ HB.out⟩
      · obtain rfl : k = mn := by omega
        go_wp2_with (go_at_call 16; (with_reducible refine (wakes27_any _).mono ?_); rintro e z ⟨rfl, hb⟩; (first | (have hB2 := Hk.mk (kw_step HB.out hNW hb); clear hb; replace HB := hB2; clear hB2) | (have hB2 := Hk.mk (kw_step HB.out.drew hNW hb); clear hb; replace HB := hB2; clear hB2)))
        go_ret
        exact ⟨rfl, HTR.out _ HB.out⟩
  · go_wp2
    go_ret
    exact ⟨rfl, HTR.out _ HB.out⟩
theorem turnsPuts_walk (v : Value) (w : World) (rows : Asks27 w v) :
    Calls Try.prog 5 #[v] w fun e w' => e = .returned (.bool true) ∧ Below w.heap.size w w' := by
  obtain ⟨la, ln, lc, l, ma, mn, mc, m, ta, tn, tc, ts, rfl, hl, hm, ht⟩ := rows
  exact turnsPuts_go la ln lc l ma mn mc m ta tn tc ts w hl hm ht

theorem turnsPuts_own : ownKnob Try.prog.godebug = none := by kernel_rfl
theorem turnsPuts_laidOut : laidOutB Try.prog = true := by kernel_rfl
set_option maxRecDepth 100000 in
theorem turnsPuts_lifted (os : Os) (started : os.Started) (H : Type) (enc : TypeId × Value → H) :
    ReturnsInHanded {} Try.checked os 5 .any (Rows.turnsPutsSpec.pre6 enc Try.prog Try.f5 Rows.turnsPutsRow.domain false) (Rows.turnsPutsSpec.post enc Try.prog Try.f5 false true false false) := by
  refine returnsInHanded_of_change_sized (C := Try.checked) turnsPuts_own started (by kernel_rfl) Try.func5
    (ChangeSpec.witness6 (enc := enc) (C := Try.checked) false ⟨#[], #[.agg #[.slice none 0 0, .slice none 0 0, .slice none 0 0]], []⟩ 8 (by kernel_rfl) (by kernel_rfl) (by kernel_rfl) (by kernel_rfl)) ?_
  intro W base args ds gs before hval0 hW hcnd hsz0 _
  have hval : ∀ (j : Nat) t v, Try.f5.params[j]? = some t → args[j]? = some v → Value.okWide Try.prog W .any base t v := hval0
  have hW' := hW
  obtain ⟨p, q, hA0, hV, rfl, hfz, hnd⟩ := hW
  have hA : DataW.TrodAll enc Try.prog W 0 (fun _ => true) true Try.f5.params.toList args.toList ds p := hA0
  rw [Try.params5] at hA hval
  obtain ⟨v0, vs0, d0, ds0, p0, q0, hargs, rfl, rfl, h0, r0⟩ := trodAll_cons hA
  obtain ⟨rfl, rfl, rfl⟩ := trodAll_nil r0
  obtain rfl : args = #[v0] := by cases args; simp_all
  obtain ⟨rfl, rfl⟩ := trodVars_none hV
  obtain ⟨cs0, rfl, hcs0⟩ := okWide_struct Try.underlying25 (hval 0 25 v0 rfl rfl)
  have k0 := h0
  have lt0 : ∀ x ∈ p0, x.block < W.heap.size := by obtain ⟨m, hm⟩ := k0; exact DataW.trod_lt m _ _ _ hm
  have hz0 : Szd 25 d0 := fun n hn => of_decide_eq_true (List.all_eq_true.1 hsz0 n (DataW.weights_mem_each (j := 0) (t := 25) (d := d0) rfl rfl n hn))
  have rows : Asks27 W (.agg cs0) := by obtain ⟨fuel, hf⟩ := h0; exact asks27_of hcs0 hf hz0
  clear hA0 hval0
  refine (turnsPuts_walk (.agg cs0) W rows).mono fun e W' ⟨he, bel⟩ => ?_
  subst he
  exact ⟨_, rfl, _, _, _, [], _, [], hW', trodAll_mk1 (shut_bool Try.underlying4 _), (trodAll_cons_mk (Below.trod turnsPuts_laidOut (by kernel_rfl) (of_decide_eq_true (by kernel_rfl)) k0 bel lt0) trodAll_mk0), rfl, bel.frame _, fun h => by cases h⟩
theorem turnsPuts_over : Rows.turnsPutsRow.holds Try.pinned (OpenSpec.ofChange Rows.turnsPutsSpec) :=
  OpenClaim.holds_of_wide 5 Try.f5 rfl rfl rfl rfl rfl rfl rfl ⟨rfl, rfl, rfl, rfl, rfl⟩ rfl rfl rfl rfl rfl (by kernel_rfl) Try.func5 (by kernel_rfl)
    (of_decide_eq_true (by kernel_rfl)) (by unfold Func.isWrapper; first | (rw [if_pos (by decide +kernel)]; kernel_rfl) | (rw [if_neg (by decide +kernel)]; exact ⟨rfl, rfl⟩))
    (fun os started H enc _ => turnsPuts_lifted os started H enc)
/-- The given statement of TurnsPuts. -/
theorem turnsPuts_holds : Rows.TurnsPutsSaid := turnsPuts_over
end Go.Proofs.Ytmphmpfeeiipgaa

