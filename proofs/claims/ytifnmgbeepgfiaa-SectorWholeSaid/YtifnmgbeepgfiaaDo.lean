import Derived.Deep.QuietTactic
import Derived.BigQuiet
import Derived.Deep.RegionWith
import Derived.Deep.RegionHeld3
import Derived.Deep.DeepCutAuto
import Derived.Deep.DeepFit
import Derived.Outline
import Derived.Test.YtifnmgbeepgfiaaDn
/- Layer 10: SectorWhole where the map may be. -/
namespace Go.Proofs.Ytifnmgbeepgfiaa
open Go.ChangeShapes Go.WideShapes Go.ChangeAt Go.RowKit Go.Deep
set_option linter.unusedVariables false
set_option linter.unusedSimpArgs false
theorem arp_to {w z : World} {J n c m : Nat} {P : Nat → Int} (h : Arp w J n c P) (e : z = w.drewN m) : Arp z J n c P := by subst e; exact h.drewN m
theorem arp_drewW {w : World} {J n c : Nat} {P : Nat → Int} (h : Arp w J n c P) : Arp w.drew J n c P := h.of_block rfl
theorem arp_nqW {w : World} {J n c : Nat} {P : Nat → Int} (h : Arp w J n c P) : Nq w (J + 1) (some ⟨J, 0, none⟩) n ((List.range n).map P) :=
  ⟨by simp, fun hn => ⟨J, 0, rfl, Nat.lt_succ_self _, fun k hk => by rw [Nat.zero_add, h.cell hk]; simp [List.getD, hk]⟩⟩
set_option maxRecDepth 1000000 in
set_option maxHeartbeats 40000000 in
theorem sectorWhole_yes (W H : Int) (fb fo fc n : Nat) (fr : Nat → Bool) (ta : Option Addr) (tn tc : Nat) (pa : Option Addr) (pn pc : Nat) (w : World) (hfn : n ≤ 9223372036854775807) (htn : tn ≤ 9223372036854775807) (hpn : pn ≤ 9223372036854775807) (hfl : fb < w.heap.size) (hF : ∀ k, k < n → w.cell? ⟨fb, fo + k, none⟩ = some (.bool (fr k))) (hn0 : 0 < n) (HV : Hk (heavyS n tn pn = false)) (MM : Hk (mayS W H n = true)) :
    Calls Try.prog 5 #[.agg #[.int .i64 W, .int .i64 H, .slice (some ⟨fb, fo, none⟩) n fc, .slice (ta) tn tc, .slice (pa) pn pc]] w fun e w' => e = .returned (.bool true) ∧ Below w.heap.size w w' := by
  obtain ⟨ii, hii, hiz0, hiz1, hiz2⟩ := info_parts info_int
  have HWB : Hk (Below w.heap.size w (w.alloc (.cells #[.int .i64 W, .int .i64 H, .slice (some ⟨fb, fo, none⟩) n fc, .slice (ta) tn tc, .slice (pa) pn pc] 25))) := ⟨(Below.refl _ _).alloc (Nat.le_refl _) _⟩
  have hNW : (w.heap.size + 1) ≤ (w.alloc (.cells #[.int .i64 W, .int .i64 H, .slice (some ⟨fb, fo, none⟩) n fc, .slice (ta) tn tc, .slice (pa) pn pc] 25)).heap.size := by simp
  have HB : Hk (Below (w.heap.size + 1) (w.alloc (.cells #[.int .i64 W, .int .i64 H, .slice (some ⟨fb, fo, none⟩) n fc, .slice (ta) tn tc, .slice (pa) pn pc] 25)) (w.alloc (.cells #[.int .i64 W, .int .i64 H, .slice (some ⟨fb, fo, none⟩) n fc, .slice (ta) tn tc, .slice (pa) pn pc] 25))) := ⟨Below.refl _ _⟩
  have HTR : Hk (∀ X, Below (w.heap.size + 1) (w.alloc (.cells #[.int .i64 W, .int .i64 H, .slice (some ⟨fb, fo, none⟩) n fc, .slice (ta) tn tc, .slice (pa) pn pc] 25)) X → Below w.heap.size w X) := ⟨fun X hX => HWB.out.trans (hX.mono (by omega))⟩
  have hfs : n ≤ 900 := by have := HV.out; unfold heavyS at this; simp at this; omega
  have HFR := Hk.mk (fun (X : World) (hX : Below (w.heap.size + 1) (w.alloc (.cells #[.int .i64 W, .int .i64 H, .slice (some ⟨fb, fo, none⟩) n fc, .slice (ta) tn tc, .slice (pa) pn pc] 25)) X) (k : Nat) (hk : k < n) => ((HTR.out X hX).cell (p := ⟨fb, fo + k, none⟩) hfl).trans (hF k hk))
  have HF0 := Hk.mk hF
  obtain ⟨⟨w1, w2, h1, h2⟩, hn⟩ := mayS_yes MM.out
  have HN := Hk.mk hn
  have e1 : IntKind.i64.wrap (W * H) = (n : Int) := by rw [← hn]; exact wr_in' (by omega)
  have hfb1 : fb < w.heap.size + 1 := by omega
  clear hF hn
  obtain ⟨hc, hf, hl, hn', hm⟩ := kw_rules HB.out hNW
  go_enter Try.func5, Try.ntmps5
  go_wp2_with (first | (go_at_call 6; (with_reducible refine (heavy10_as false W H _ (ta) (pa) n fc tn tc pn pc _ hfn htn hpn HV).mono ?_); rintro e z ⟨rfl, hb⟩; replace HB := Hk.mk (kw_step HB.out hNW hb); clear hb; clear hc hf hl hn' hm; obtain ⟨hc, hf, hl, hn', hm⟩ := kw_rules HB.out hNW) | (go_at_call 10; (with_reducible refine (sparts_any W H fb fo n fc fr _ w1 w2 h1 h2 HN.out (HFR.out _ HB.out) (Nat.lt_of_lt_of_le hfl (hszA HB.out))).mono ?_); rintro e z ⟨J, P, rfl, hg2, hA2, hp2, hb⟩; have HJ : Hk (Arr z J n 3 (fun k => .int .i64 (P k))) := ⟨hA2⟩; have HP := Hk.mk hp2; clear hA2 hp2 hg2; replace HB := Hk.mk (kw_step HB.out hNW hb); clear hb; clear hc hf hl hn' hm; obtain ⟨hc, hf, hl, hn', hm⟩ := kw_rules HB.out hNW) | (go_at_call 11; (with_reducible refine (num10_any _ _).mono ?_); rintro e z ⟨rfl, rfl⟩) | (at_make; go_must (refine wpList_make_full _ rfl _ _ 23 rfl z.heap.size 3 ii (.int .i64 0) 1 Try.underlying23 hii hiz0 hiz1 .i64 .i64 _ _ n rfl rfl rfl rfl (by rw [hiz2]; omega) (by unfold maxLen; omega) (Nat.le_refl _) ?_; intro z1 hown hgrow; have HR : Hk (Arp z1 z.heap.size n n (fun _ => 0)) := ⟨Arp.of_arr (Arr.made hown rfl (z := .int .i64 0))⟩; have hb := below_grown hgrow; have HJ2 : Hk (Arr z1 J n 3 (fun k => .int .i64 (P k))) := ⟨HJ.out.later hb⟩; replace HJ := HJ2; clear HJ2 hown hgrow; replace HB := Hk.mk (kw_step HB.out hNW hb); clear hb; clear hc hf hl hn' hm; obtain ⟨hc, hf, hl, hn', hm⟩ := kw_rules HB.out hNW)))
  clear e1
  have HJ := HJ
  have HR := HR
  obtain ⟨wo, rfl⟩ : ∃ wo : World, wo = z1 := ⟨z1, rfl⟩
  have HI : Hk (RedoI W n P (fun _ => 0) 0) := ⟨RedoI.start W n P _ w1⟩
  go_loopw [5, 6] (fun rr tt wr => ∃ (t R rc : Nat) (Q : Nat → Int), rr = .slice (some ⟨R, 0, none⟩) n rc ∧ tt = .int .i64 t ∧ t ≤ n ∧ Hk (RedoI W n P Q t) ∧ Hk (Arr wr J n 3 (fun k => .int .i64 (P k))) ∧ Hk (Arp wr R n rc Q) ∧ Hk (Below (w.heap.size + 1) (w.alloc (.cells #[.int .i64 W, .int .i64 H, .slice (some ⟨fb, fo, none⟩) n fc, .slice (ta) tn tc, .slice (pa) pn pc] 25)) wr)) (fun _ tt _ => n - (intOf tt).toNat)
  case atStart => exact ⟨0, z.heap.size, n, _, rfl, rfl, by omega, HI, HJ, HR, HB⟩
  case round =>
    clear HJ HR HB HI
    obtain ⟨t, R, rc, Q, rfl, rfl, ht, HI, HJ, HR, HB⟩ := hrel
    clear hc hf hl hn' hm
    obtain ⟨hc, hf, hl, hn', hm⟩ := kw_rules HB.out hNW
    by_cases htn : t < n
    · have t0 : (0 : Int) ≤ (t : Int) := by omega
      have t1 : (t : Int) < (n : Int) := by omega
      obtain ⟨s, hs⟩ : ∃ s, Fx.ofS W (t : Nat) = s := ⟨_, rfl⟩
      have ES := Hk.mk hs
      clear hs
      as_aux_lemma =>
        go_upto_region 13 with (go_at_call 19; (with_reducible refine (sofl_q W H t s n _ w1 w2 h1 h2 HN.out htn ES).mono ?_); rintro e z ⟨rfl, mm, hz⟩; replace HJ := Hk.mk (arr_to HJ.out hz); replace HR := Hk.mk (arp_to HR.out hz); replace HB := Hk.mk (below_to HB.out hz); clear hz; clear hc hf hl hn' hm; obtain ⟨hc, hf, hl, hn', hm⟩ := kw_rules HB.out hNW)
        go_cut [78] (fun x wx => x = .bool false ∧ Hk (Arr wx J n 3 (fun k => .int .i64 (P k))) ∧ Hk (Arp wx R n rc Q) ∧ Hk (Below (w.heap.size + 1) (w.alloc (.cells #[.int .i64 W, .int .i64 H, .slice (some ⟨fb, fo, none⟩) n fc, .slice (ta) tn tc, .slice (pa) pn pc] 25)) wx))
        case first =>
          have cP := HJ.out.cell htn
          have cF := HFR.out _ HB.out t htn
          have cF0 := HF0.out t htn
          have hp := part_pos HP.out htn
          have hl := part_le HP.out htn
          have dl : decide ((t : Int) < P t) = false := by simp; omega
          cases hft : fr t
          · rw [hft] at cF hp cF0
            clear hft
            as_aux_lemma =>
              go_quiet ((go_at_call 11; exact Calls.quiet_of_same (num10_q _ _)))
              go_wp2_with fail
              go_meet
              case rel => exact ⟨rfl, ⟨HJ.out.drewN nq⟩, ⟨HR.out.drewN nq⟩, ⟨below_drewN HB.out nq⟩⟩
          · rw [hft] at cF hp cF0
            clear hft
            as_aux_lemma =>
              go_quiet ((go_at_call 11; exact Calls.quiet_of_same (num10_q _ _)))
              go_wp2_with fail
              go_meet
              case rel => exact ⟨rfl, ⟨HJ.out.drewN nq⟩, ⟨HR.out.drewN nq⟩, ⟨below_drewN HB.out nq⟩⟩
        case rest =>
        obtain ⟨rfl, HJ, HR, HB⟩ := hcut
        clear hc hf hl hn' hm
        obtain ⟨hc, hf, hl, hn', hm⟩ := kw_rules HB.out hNW
        have hW0 : ¬ W = 0 := by omega
        have tm : (t : Int).tmod W = (t : Int) % W := Int.tmod_eq_emod_of_nonneg t0
        have td : (t : Int).tdiv W = (t : Int) / W := Int.tdiv_eq_ediv_of_nonneg t0
        have x0 := Int.emod_nonneg (t : Int) (show W ≠ 0 by omega)
        have y0 : 0 ≤ (t : Int) / W := Int.ediv_nonneg t0 (by omega)
        have y1 : (t : Int) / W ≤ (t : Int) := Int.ediv_le_self _ t0
        have tm8 : ((t : Int) % W).tmod 8 = (t : Int) % W % 8 := Int.tmod_eq_emod_of_nonneg x0
        have td8 : ((t : Int) / W).tmod 8 = (t : Int) / W % 8 := Int.tmod_eq_emod_of_nonneg y0
        have e3 : IntKind.i64.wrap ((t : Int) / W) = (t : Int) / W := wr_in' (by omega)
        have e3w : wrap64 ((t : Int) / W) = (t : Int) / W := by unfold wrap64; omega
        obtain ⟨bI, hbI⟩ : ∃ b : Bool, decide ((t : Int) % W % 8 = 0 ∧ (t : Int) / W % 8 = 0) = b := ⟨_, rfl⟩
        have HBI := Hk.mk hbI
        go_upto_region 15 with fail
        go_cut [92] (fun x wx => x = .bool bI ∧ Hk (Arr wx J n 3 (fun k => .int .i64 (P k))) ∧ Hk (Arp wx R n rc Q) ∧ Hk (Below (w.heap.size + 1) (w.alloc (.cells #[.int .i64 W, .int .i64 H, .slice (some ⟨fb, fo, none⟩) n fc, .slice (ta) tn tc, .slice (pa) pn pc] 25)) wx))
        case first =>
          by_cases p1 : (t : Int) % W % 8 = 0
          · by_cases p2 : (t : Int) / W % 8 = 0
            · have hb1 : bI = true := by rw [← hbI]; exact decide_eq_true ⟨p1, p2⟩
              subst hb1
              clear hbI HBI
              as_aux_lemma =>
                go_wp2_with fail
                go_meet
                case rel => exact ⟨rfl, HJ, HR, HB⟩
            · have hb1 : bI = false := by rw [← hbI]; exact decide_eq_false (fun h => p2 h.2)
              subst hb1
              clear hbI HBI
              as_aux_lemma =>
                go_wp2_with fail
                go_meet
                case rel => exact ⟨by first | rfl | simp [p2], HJ, HR, HB⟩
          · have hb1 : bI = false := by rw [← hbI]; exact decide_eq_false (fun h => p1 h.1)
            subst hb1
            clear hbI HBI
            as_aux_lemma =>
              go_wp2_with fail
              go_meet
              case rel => exact ⟨rfl, HJ, HR, HB⟩
        case rest =>
        obtain ⟨rfl, HJ, HR, HB⟩ := hcut
        clear hbI
        clear hc hf hl hn' hm
        obtain ⟨hc, hf, hl, hn', hm⟩ := kw_rules HB.out hNW
        go_upto_if 92 with fail
        go_cut [5] (fun x wx => ∃ (R rc : Nat) (Q : Nat → Int), x = .slice (some ⟨R, 0, none⟩) n rc ∧ Hk (RedoI W n P Q (t + 1)) ∧ Hk (Arr wx J n 3 (fun k => .int .i64 (P k))) ∧ Hk (Arp wx R n rc Q) ∧ Hk (Below (w.heap.size + 1) (w.alloc (.cells #[.int .i64 W, .int .i64 H, .slice (some ⟨fb, fo, none⟩) n fc, .slice (ta) tn tc, .slice (pa) pn pc] 25)) wx))
        case first =>
          cases hbb : bI
          · have hno := of_decide_eq_false (HBI.out.trans hbb)
            have HI2 := Hk.mk (HI.out.skip w1 hno)
            subst hbb
            clear HBI
            as_aux_lemma =>
              go_wp2_with fail
              go_meet
              case rel => exact ⟨R, rc, Q, rfl, HI2, HJ, HR, HB⟩
          · subst hbb
            clear HBI
            as_aux_lemma =>
              go_wp2_with (first
                | (go_at_call 18; (with_reducible refine (sredo_any W H t fb fo n fc R 0 rc fr Q _ w1 w2 h1 h2 HN.out htn (HFR.out _ HB.out) (Nat.lt_of_lt_of_le hfl (hszA HB.out)) (fun k hk => by rw [Nat.zero_add]; exact HR.out.cell hk)).mono ?_); rintro e z ⟨R2, rc2, Q2, rfl, hg2, hA2, hp2, hb⟩; have HR3 := Hk.mk hA2; have HI2 : Hk (RedoI W n P Q2 (t + 1)) := ⟨HI.out.put w1 (hp2 P HP.out)⟩; have HJ2 : Hk (Arr z J n 3 (fun k => .int .i64 (P k))) := ⟨HJ.out.later hb⟩; replace HJ := HJ2; clear hA2 hp2 hg2 HJ2; replace HB := Hk.mk (kw_step HB.out hNW hb); clear hb; clear hc hf hl hn' hm; obtain ⟨hc, hf, hl, hn', hm⟩ := kw_rules HB.out hNW)
                | (go_at_call 11; (with_reducible refine (num10_any _ _).mono ?_); rintro e z ⟨rfl, rfl⟩))
              go_meet
              case rel => exact ⟨R2, rc2, Q2, rfl, HI2, HJ, HR3, HB⟩
        case rest =>
        clear HR HI
        obtain ⟨R, rc, Q, rfl, HI, HJ, HR, HB⟩ := hcut
        clear HBI
        clear hc hf hl hn' hm
        obtain ⟨hc, hf, hl, hn', hm⟩ := kw_rules HB.out hNW
        have cF := HFR.out _ HB.out t htn
        have cF0 := HF0.out t htn
        cases hft : fr t
        · rw [hft] at cF cF0
          clear hft
          as_aux_lemma =>
            go_wp2_with fail
            exact ⟨⟨t + 1, R, rc, Q, rfl, by go_num, by omega, HI, HJ, HR, HB⟩, by simp [intOf]; omega⟩
        · rw [hft] at cF cF0
          have HFT := Hk.mk hft
          obtain ⟨m, hPm, hmn, hom, hPmm⟩ := part_self HP.out w1 htn hft
          have HPM := Hk.mk hPm
          have EM : Hk (Fx.ofS W (m : Nat) = s) := ⟨by rw [hom, ES.out]⟩
          have cT : Hk (∀ X, Arr X J n 3 (fun k => .int .i64 (P k)) → X.cell? ⟨J, t, none⟩ = some (.int .i64 (m : Nat))) := ⟨fun X hX => by rw [hX.cell htn, hPm]⟩
          have HCT := cT
          have HCM : Hk (∀ X, Arr X J n 3 (fun k => .int .i64 (P k)) → X.cell? ⟨J, m, none⟩ = some (.int .i64 (m : Nat))) := ⟨fun X hX => by rw [hX.cell hmn, hPmm]⟩
          have cM := HCM.out _ HJ.out
          have cT := HCT.out _ HJ.out
          have m0 : (0 : Int) ≤ (m : Int) := by omega
          have m1 : (m : Int) < (n : Int) := by omega
          clear hft hPm hom hPmm
          as_aux_lemma =>
            go_upto_region 21 with fail
            go_quiet ((go_at_call 19; refine Calls.quiet_of (v := .tuple #[.int .i64 s, .int .i64 0]) ?_; with_reducible exact sofl_q W H m s n _ w1 w2 h1 h2 HN.out hmn EM))
            replace HJ := Hk.mk (HJ.out.drewN nq); replace HR := Hk.mk (HR.out.drewN nq); replace HB := Hk.mk (below_drewN HB.out nq); clear hc hf hl hn' hm; generalize World.drewN _ nq = VR at *; obtain ⟨hc, hf, hl, hn', hm⟩ := kw_rules HB.out hNW
            as_aux_lemma =>
              go_upto_region 22 with fail
              have cM := HCM.out _ HJ.out
              have cT := HCT.out _ HJ.out
              go_quiet ((go_at_call 11; exact Calls.quiet_of_same (num10_q _ _)))
              replace HJ := Hk.mk (HJ.out.drewN nq); replace HR := Hk.mk (HR.out.drewN nq); replace HB := Hk.mk (below_drewN HB.out nq); clear hc hf hl hn' hm; generalize World.drewN _ nq = VR at *; obtain ⟨hc, hf, hl, hn', hm⟩ := kw_rules HB.out hNW
              obtain ⟨u, hu⟩ : ∃ u : Nat, u = t + 1 := ⟨_, rfl⟩
              have g1 : IntKind.i64.wrap ((t : Int) + 1) = (u : Int) := by rw [hu]; push_cast; exact wr_in' (by omega)
              have HU := Hk.mk hu
              clear hu
              have gw : IntKind.i64.wrap (W - 1) = W - 1 := wr_in' (by omega)
              have gh : IntKind.i64.wrap (H - 1) = H - 1 := wr_in' (by omega)
              go_upto_region 25 with fail
              go_cut [182] (fun x wx => x = .bool false ∧ Hk (Arr wx J n 3 (fun k => .int .i64 (P k))) ∧ Hk (Arp wx R n rc Q) ∧ Hk (Below (w.heap.size + 1) (w.alloc (.cells #[.int .i64 W, .int .i64 H, .slice (some ⟨fb, fo, none⟩) n fc, .slice (ta) tn tc, .slice (pa) pn pc] 25)) wx))
              case first =>
                by_cases hx : (t : Int) % W < W - 1
                · have dx : decide ((t : Int) % W < W - 1) = true := decide_eq_true hx
                  obtain ⟨hun, hnb⟩ : u < n ∧ (fr t = true → fr u = true → Fx.ofS W (u : Int) = Fx.ofS W (t : Int) → (nbN W n fr) t u) := (by rw [HU.out]; exact nb_right (fr := fr) w1 HN.out htn hx)
                  have u0 : (0 : Int) ≤ (u : Int) := by omega
                  have u1 : (u : Int) < (n : Int) := by omega
                  have u2 : u < n := hun
                  have cFu := HFR.out _ HB.out u hun
                  have cFw := HF0.out u hun
                  cases hfu : fr u
                  · rw [hfu] at cFu cFw
                    clear hfu hnb
                    as_aux_lemma =>
                      go_quiet (fail)
                      go_wp2_with fail
                      go_meet
                      case rel => exact ⟨rfl, ⟨HJ.out.drewN nq⟩, ⟨HR.out.drewN nq⟩, ⟨below_drewN HB.out nq⟩⟩
                  · rw [hfu] at cFu cFw
                    obtain ⟨v, hv⟩ : ∃ v, P u = v := ⟨_, rfl⟩
                    have HCU : Hk (∀ X, Arr X J n 3 (fun k => .int .i64 (P k)) → X.cell? ⟨J, u, none⟩ = some (.int .i64 v)) := ⟨fun X hX => by rw [hX.cell hun, hv]⟩
                    by_cases hs : Fx.ofS W (u : Int) = s
                    · have hvm : v = (m : Nat) := by rw [← hv, ← HPM.out]; exact part_next HP.out (hnb HFT.out hfu (by rw [hs, ES.out]))
                      have RS : Hk (Fx.ofS W (u : Int) = s ↔ true = true) := ⟨⟨fun _ => rfl, fun _ => hs⟩⟩
                      clear hfu hnb hv hs
                      as_aux_lemma =>
                        refine wp_region_held_drew (S := (fun X => ((∀ b o, b < (w.heap.size + 1) → X.cell? ⟨b, o, none⟩ = ((w.alloc (.cells #[.int .i64 W, .int .i64 H, .slice (some ⟨fb, fo, none⟩) n fc, .slice (ta) tn tc, .slice (pa) pn pc] 25))).cell? ⟨b, o, none⟩) ∧ Below (w.heap.size + 1) (w.alloc (.cells #[.int .i64 W, .int .i64 H, .slice (some ⟨fb, fo, none⟩) n fc, .slice (ta) tn tc, .slice (pa) pn pc] 25)) X) ∧ X.cell? ⟨J, u, none⟩ = some (.int .i64 v) ∧ X.cell? ⟨J, t, none⟩ = some (.int .i64 (m : Nat)))) (by kernel_rfl) ?_ (fun hHeld => ?_)
                        · exact ⟨kw_S (kw_drew HB.out), HCU.out _ HJ.out.drew, HCT.out _ HJ.out.drew⟩
                        refine wpAnyH_take (i := 0) (v := ?_) rfl (by kernel_rfl) (by kernel_rfl) (by kernel_rfl) (fun _ _ _ h => h) (Or.inl ⟨by rfl, fun wX hSw => ?_⟩) (by assumption) ?_
                        rotate_left
                        · (try dsimp only at hSw); go_simp; try with_reducible rfl
                        (try simp only [Act.put, List.getElem_toArray, List.getElem_cons_succ, List.getElem_cons_zero, List.setIfInBounds_toArray, List.set_cons_zero, List.set_cons_succ])
                        refine wpAnyH_take (i := 1) (v := ?_) rfl (by kernel_rfl) (by kernel_rfl) (by kernel_rfl) (fun _ _ _ h => h) (Or.inl ⟨by rfl, fun wX hSw => ?_⟩) (by assumption) ?_
                        rotate_left
                        · (try dsimp only at hSw); go_simp; try with_reducible rfl
                        (try simp only [Act.put, List.getElem_toArray, List.getElem_cons_succ, List.getElem_cons_zero, List.setIfInBounds_toArray, List.set_cons_zero, List.set_cons_succ])
                        refine wpAnyH_take (i := 2) (v := ?_) rfl (by kernel_rfl) (by kernel_rfl) (by kernel_rfl) (fun _ _ _ h => h) (Or.inl ⟨by rfl, fun wX hSw => ?_⟩) (by assumption) ?_
                        rotate_left
                        · (try dsimp only at hSw); go_simp; try with_reducible rfl
                        (try simp only [Act.put, List.getElem_toArray, List.getElem_cons_succ, List.getElem_cons_zero, List.setIfInBounds_toArray, List.set_cons_zero, List.set_cons_succ])
                        refine wpAnyH_take (i := 3) (v := ?_) rfl (by kernel_rfl) (by kernel_rfl) (by kernel_rfl) (fun _ _ _ h => h) (Or.inl ⟨by rfl, fun wX hSw => ?_⟩) (by assumption) ?_
                        rotate_left
                        · (try dsimp only at hSw); go_simp; try with_reducible rfl
                        (try simp only [Act.put, List.getElem_toArray, List.getElem_cons_succ, List.getElem_cons_zero, List.setIfInBounds_toArray, List.set_cons_zero, List.set_cons_succ])
                        refine wpAnyH_take (i := 4) (v := ?_) rfl (by kernel_rfl) (by kernel_rfl) (by kernel_rfl) (fun _ _ _ h => h) (Or.inl ⟨by rfl, fun wX hSw => ?_⟩) (by assumption) ?_
                        rotate_left
                        · (try dsimp only at hSw); go_simp; try with_reducible rfl
                        (try simp only [Act.put, List.getElem_toArray, List.getElem_cons_succ, List.getElem_cons_zero, List.setIfInBounds_toArray, List.set_cons_zero, List.set_cons_succ])
                        refine wpAnyH_take (i := 5) (v := ?_) rfl (by kernel_rfl) (by kernel_rfl) (by kernel_rfl) (fun _ _ _ h => h) (Or.inl ⟨by rfl, fun wX hSw => ?_⟩) (by assumption) ?_
                        rotate_left
                        · (try dsimp only at hSw); go_simp; try with_reducible rfl
                        (try simp only [Act.put, List.getElem_toArray, List.getElem_cons_succ, List.getElem_cons_zero, List.setIfInBounds_toArray, List.set_cons_zero, List.set_cons_succ])
                        refine wpAnyH_take (i := 6) (v := ?_) rfl (by kernel_rfl) (by kernel_rfl) (by kernel_rfl) (fun _ _ _ h => h) (Or.inl ⟨by rfl, fun wX hSw => ?_⟩) (by assumption) ?_
                        rotate_left
                        · (try dsimp only at hSw); go_simp; try with_reducible rfl
                        (try simp only [Act.put, List.getElem_toArray, List.getElem_cons_succ, List.getElem_cons_zero, List.setIfInBounds_toArray, List.set_cons_zero, List.set_cons_succ])
                        refine wpAnyH_take (i := 7) (v := ?_) rfl (by kernel_rfl) (by kernel_rfl) (by kernel_rfl) (fun _ _ _ h => h) (Or.inl ⟨by rfl, fun wX hSw => ?_⟩) (by assumption) ?_
                        rotate_left
                        · (try dsimp only at hSw); go_simp; try with_reducible rfl
                        (try simp only [Act.put, List.getElem_toArray, List.getElem_cons_succ, List.getElem_cons_zero, List.setIfInBounds_toArray, List.set_cons_zero, List.set_cons_succ])
                        refine wpAnyH_take (i := 8) (v := ?_) rfl (by kernel_rfl) (by kernel_rfl) (by kernel_rfl) (fun _ _ _ h => h) (Or.inl ⟨by rfl, fun wX hSw => ?_⟩) (by assumption) ?_
                        rotate_left
                        · (try dsimp only at hSw); go_simp; try with_reducible rfl
                        (try simp only [Act.put, List.getElem_toArray, List.getElem_cons_succ, List.getElem_cons_zero, List.setIfInBounds_toArray, List.set_cons_zero, List.set_cons_succ])
                        refine wpAnyH_take (i := 9) (v := ?_) rfl (by kernel_rfl) (by kernel_rfl) (by kernel_rfl) (fun _ _ _ h => h) (Or.inl ⟨by rfl, fun wX hSw => ?_⟩) (by assumption) ?_
                        rotate_left
                        · (try dsimp only at hSw); go_simp; try with_reducible rfl
                        (try simp only [Act.put, List.getElem_toArray, List.getElem_cons_succ, List.getElem_cons_zero, List.setIfInBounds_toArray, List.set_cons_zero, List.set_cons_succ])
                        refine wpAnyH_take (i := 10) (v := ?_) rfl (by kernel_rfl) (by kernel_rfl) (by kernel_rfl) (fun _ _ _ h => h) (Or.inl ⟨by rfl, fun wX hSw => ?_⟩) (by assumption) ?_
                        rotate_left
                        · (try dsimp only at hSw); go_simp; try with_reducible rfl
                        (try simp only [Act.put, List.getElem_toArray, List.getElem_cons_succ, List.getElem_cons_zero, List.setIfInBounds_toArray, List.set_cons_zero, List.set_cons_succ])
                        refine wpAnyH_take (i := 11) (v := ?_) rfl (by kernel_rfl) (by kernel_rfl) (by kernel_rfl) (fun _ _ _ h => h) (Or.inl ⟨by rfl, fun wX hSw => ?_⟩) (by assumption) ?_
                        rotate_left
                        · (try dsimp only at hSw); go_simp; try with_reducible rfl
                        (try simp only [Act.put, List.getElem_toArray, List.getElem_cons_succ, List.getElem_cons_zero, List.setIfInBounds_toArray, List.set_cons_zero, List.set_cons_succ])
                        refine wpAnyH_take (i := 12) (v := ?_) rfl (by kernel_rfl) (by kernel_rfl) (by kernel_rfl) (fun _ _ _ h => h) (Or.inl ⟨by rfl, fun wX hSw => ?_⟩) (by assumption) ?_
                        rotate_left
                        · (try dsimp only at hSw); go_simp; try with_reducible rfl
                        (try simp only [Act.put, List.getElem_toArray, List.getElem_cons_succ, List.getElem_cons_zero, List.setIfInBounds_toArray, List.set_cons_zero, List.set_cons_succ])
                        refine wpAnyH_take (i := 13) (v := ?_) rfl (by kernel_rfl) (by kernel_rfl) (by kernel_rfl) (fun _ _ _ h => h) (Or.inl ⟨by rfl, fun wX hSw => ?_⟩) (by assumption) ?_
                        rotate_left
                        · (try dsimp only at hSw); go_simp; try with_reducible rfl
                        (try simp only [Act.put, List.getElem_toArray, List.getElem_cons_succ, List.getElem_cons_zero, List.setIfInBounds_toArray, List.set_cons_zero, List.set_cons_succ])
                        refine wpAnyH_take (i := 14) (v := ?_) rfl (by kernel_rfl) (by kernel_rfl) (by kernel_rfl) (fun _ _ _ h => h) (Or.inl ⟨by rfl, fun wX hSw => ?_⟩) (by assumption) ?_
                        rotate_left
                        · (try dsimp only at hSw); go_simp; try with_reducible rfl
                        (try simp only [Act.put, List.getElem_toArray, List.getElem_cons_succ, List.getElem_cons_zero, List.setIfInBounds_toArray, List.set_cons_zero, List.set_cons_succ])
                        refine wpAnyH_take (i := 15) (v := ?_) rfl (by kernel_rfl) (by kernel_rfl) (by kernel_rfl) (fun _ _ _ h => h) (Or.inl ⟨by rfl, fun wX hSw => ?_⟩) (by assumption) ?_
                        rotate_left
                        · (try dsimp only at hSw); go_simp; try with_reducible rfl
                        (try simp only [Act.put, List.getElem_toArray, List.getElem_cons_succ, List.getElem_cons_zero, List.setIfInBounds_toArray, List.set_cons_zero, List.set_cons_succ])
                        refine wpAnyH_take (i := 16) (v := ?_) rfl (by kernel_rfl) (by kernel_rfl) (by kernel_rfl) (fun _ _ _ h => h) (Or.inl ⟨by rfl, fun wX hSw => ?_⟩) (by assumption) ?_
                        rotate_left
                        · (try dsimp only at hSw); go_simp; try with_reducible rfl
                        (try simp only [Act.put, List.getElem_toArray, List.getElem_cons_succ, List.getElem_cons_zero, List.setIfInBounds_toArray, List.set_cons_zero, List.set_cons_succ])
                        refine wpAnyH_take (i := 17) (v := ?_) rfl (by kernel_rfl) (by kernel_rfl) (by kernel_rfl) (fun _ _ _ h => h) (Or.inl ⟨by rfl, fun wX hSw => ?_⟩) (by assumption) ?_
                        rotate_left
                        · (try dsimp only at hSw); go_simp; try with_reducible rfl
                        (try simp only [Act.put, List.getElem_toArray, List.getElem_cons_succ, List.getElem_cons_zero, List.setIfInBounds_toArray, List.set_cons_zero, List.set_cons_succ])
                        refine wpAnyH_take (i := 18) (v := ?_) rfl (by kernel_rfl) (by kernel_rfl) (by kernel_rfl) (fun _ _ _ h => h) (Or.inl ⟨by rfl, fun wX hSw => ?_⟩) (by assumption) ?_
                        rotate_left
                        · (try dsimp only at hSw); go_simp; try with_reducible rfl
                        (try simp only [Act.put, List.getElem_toArray, List.getElem_cons_succ, List.getElem_cons_zero, List.setIfInBounds_toArray, List.set_cons_zero, List.set_cons_succ])
                        refine wpAnyH_ready (rs := [19]) (by kernel_rfl) (by simp) ?_
                        refine AllReadyH.cons rfl (fun K hK => ?_) (AllReadyH.nil)
                        go_simp
                        ((go_at_call 20; (with_reducible refine (same10_as true W H u n s _ ta pa n fc tn tc pn pc _ w1 w2 h1 h2 HN.out hun RS).mono ?_); rintro e z ⟨rfl, hb⟩; have HJ2 : Hk (Arr z J n 3 (fun k => .int .i64 (P k))) := ⟨by first | exact HJ.out.later hb | exact HJ.out.drew.later hb⟩; have HR2 : Hk (Arp z R n rc Q) := ⟨by first | exact HR.out.later hb | exact (arp_drewW HR.out).later hb⟩; have hB2 : Hk (Below (w.heap.size + 1) (w.alloc (.cells #[.int .i64 W, .int .i64 H, .slice (some ⟨fb, fo, none⟩) n fc, .slice (ta) tn tc, .slice (pa) pn pc] 25)) z) := ⟨by first | exact kw_step HB.out hNW hb | exact kw_step HB.out.drew hNW hb⟩; clear hb; replace HB := hB2; replace HJ := HJ2; replace HR := HR2; clear hB2 HJ2 HR2; clear hc hf hl hn' hm; obtain ⟨hc, hf, hl, hn', hm⟩ := kw_rules HB.out hNW))
                        refine hK.out _ _ ?_ (fun hHeld => ?_)
                        · exact ⟨kw_S HB.out, HCU.out _ HJ.out, HCT.out _ HJ.out⟩
                        clear hK K
                        (try simp only [Act.put, List.getElem_toArray, List.getElem_cons_succ, List.getElem_cons_zero, List.setIfInBounds_toArray, List.set_cons_zero, List.set_cons_succ])
                        refine wpAnyH_take (i := 20) (v := ?_) rfl (by kernel_rfl) (by kernel_rfl) (by kernel_rfl) (fun _ _ _ h => h) (Or.inl ⟨by rfl, fun wX hSw => ?_⟩) (by assumption) ?_
                        rotate_left
                        · (try dsimp only at hSw); go_simp; try with_reducible rfl
                        (try simp only [Act.put, List.getElem_toArray, List.getElem_cons_succ, List.getElem_cons_zero, List.setIfInBounds_toArray, List.set_cons_zero, List.set_cons_succ])
                        refine wpAnyH_take (i := 21) (v := ?_) rfl (by kernel_rfl) (by kernel_rfl) (by kernel_rfl) (fun _ _ _ h => h) (Or.inl ⟨by rfl, fun wX hSw => ?_⟩) (by assumption) ?_
                        rotate_left
                        · (try dsimp only at hSw); go_simp; try with_reducible rfl
                        (try simp only [Act.put, List.getElem_toArray, List.getElem_cons_succ, List.getElem_cons_zero, List.setIfInBounds_toArray, List.set_cons_zero, List.set_cons_succ])
                        refine wpAnyH_take (i := 22) (v := ?_) rfl (by kernel_rfl) (by kernel_rfl) (by kernel_rfl) (fun _ _ _ h => h) (Or.inl ⟨by rfl, fun wX hSw => ?_⟩) (by assumption) ?_
                        rotate_left
                        · (try dsimp only at hSw); go_simp; try with_reducible rfl
                        (try simp only [Act.put, List.getElem_toArray, List.getElem_cons_succ, List.getElem_cons_zero, List.setIfInBounds_toArray, List.set_cons_zero, List.set_cons_succ])
                        refine wpAnyH_take (i := 23) (v := ?_) rfl (by kernel_rfl) (by kernel_rfl) (by kernel_rfl) (fun _ _ _ h => h) (Or.inl ⟨by rfl, fun wX hSw => ?_⟩) (by assumption) ?_
                        rotate_left
                        · (try dsimp only at hSw); go_simp; try with_reducible rfl
                        (try simp only [Act.put, List.getElem_toArray, List.getElem_cons_succ, List.getElem_cons_zero, List.setIfInBounds_toArray, List.set_cons_zero, List.set_cons_succ])
                        refine wpAnyH_take (i := 24) (v := ?_) rfl (by kernel_rfl) (by kernel_rfl) (by kernel_rfl) (fun _ _ _ h => h) (Or.inl ⟨by rfl, fun wX hSw => ?_⟩) (by assumption) ?_
                        rotate_left
                        · (try dsimp only at hSw); go_simp; try with_reducible rfl
                        (try simp only [Act.put, List.getElem_toArray, List.getElem_cons_succ, List.getElem_cons_zero, List.setIfInBounds_toArray, List.set_cons_zero, List.set_cons_succ])
                        refine wpAnyH_take (i := 25) (v := ?_) rfl (by kernel_rfl) (by kernel_rfl) (by kernel_rfl) (fun _ _ _ h => h) (Or.inl ⟨by rfl, fun wX hSw => ?_⟩) (by assumption) ?_
                        rotate_left
                        · (try dsimp only at hSw); go_simp; try with_reducible rfl
                        (try simp only [Act.put, List.getElem_toArray, List.getElem_cons_succ, List.getElem_cons_zero, List.setIfInBounds_toArray, List.set_cons_zero, List.set_cons_succ])
                        refine wpAnyH_take (i := 26) (v := ?_) rfl (by kernel_rfl) (by kernel_rfl) (by kernel_rfl) (fun _ _ _ h => h) (Or.inl ⟨by rfl, fun wX hSw => ?_⟩) (by assumption) ?_
                        rotate_left
                        · (try dsimp only at hSw); go_simp; try with_reducible rfl
                        (try simp only [Act.put, List.getElem_toArray, List.getElem_cons_succ, List.getElem_cons_zero, List.setIfInBounds_toArray, List.set_cons_zero, List.set_cons_succ])
                        refine wpAnyH_take (i := 27) (v := ?_) rfl (by kernel_rfl) (by kernel_rfl) (by kernel_rfl) (fun _ _ _ h => h) (Or.inl ⟨by rfl, fun wX hSw => ?_⟩) (by assumption) ?_
                        rotate_left
                        · (try dsimp only at hSw); go_simp; try with_reducible rfl
                        (try simp only [Act.put, List.getElem_toArray, List.getElem_cons_succ, List.getElem_cons_zero, List.setIfInBounds_toArray, List.set_cons_zero, List.set_cons_succ])
                        refine wpAnyH_take (i := 28) (v := ?_) rfl (by kernel_rfl) (by kernel_rfl) (by kernel_rfl) (fun _ _ _ h => h) (Or.inl ⟨by rfl, fun wX hSw => ?_⟩) (by assumption) ?_
                        rotate_left
                        · (try dsimp only at hSw); go_simp; try with_reducible rfl
                        (try simp only [Act.put, List.getElem_toArray, List.getElem_cons_succ, List.getElem_cons_zero, List.setIfInBounds_toArray, List.set_cons_zero, List.set_cons_succ])
                        refine wpAnyH_take (i := 29) (v := ?_) rfl (by kernel_rfl) (by kernel_rfl) (by kernel_rfl) (fun _ _ _ h => h) (Or.inl ⟨by rfl, fun wX hSw => ?_⟩) (by assumption) ?_
                        rotate_left
                        · (try dsimp only at hSw); go_simp; try with_reducible rfl
                        (try simp only [Act.put, List.getElem_toArray, List.getElem_cons_succ, List.getElem_cons_zero, List.setIfInBounds_toArray, List.set_cons_zero, List.set_cons_succ])
                        refine wpAnyH_take (i := 30) (v := ?_) rfl (by kernel_rfl) (by kernel_rfl) (by kernel_rfl) (fun _ _ _ h => h) (Or.inl ⟨by rfl, fun wX hSw => ?_⟩) (by assumption) ?_
                        rotate_left
                        · (try dsimp only at hSw); go_simp; try with_reducible rfl
                        (try simp only [Act.put, List.getElem_toArray, List.getElem_cons_succ, List.getElem_cons_zero, List.setIfInBounds_toArray, List.set_cons_zero, List.set_cons_succ])
                        refine wpAnyH_take (i := 31) (v := ?_) rfl (by kernel_rfl) (by kernel_rfl) (by kernel_rfl) (fun _ _ _ h => h) (Or.inl ⟨by rfl, fun wX hSw => ?_⟩) (by assumption) ?_
                        rotate_left
                        · (try dsimp only at hSw); go_simp; try with_reducible rfl
                        (try simp only [Act.put, List.getElem_toArray, List.getElem_cons_succ, List.getElem_cons_zero, List.setIfInBounds_toArray, List.set_cons_zero, List.set_cons_succ])
                        refine wpAnyH_done (by kernel_rfl) ?_ _
                        go_wp2_with fail
                        go_meet
                        case rel => exact ⟨rfl, HJ, HR, HB⟩
                    · have RS : Hk (Fx.ofS W (u : Int) = s ↔ false = true) := ⟨⟨fun h => absurd h hs, fun h => by cases h⟩⟩
                      clear hfu hnb hv
                      as_aux_lemma =>
                        refine wp_region_held_drew (S := (fun X => ((∀ b o, b < (w.heap.size + 1) → X.cell? ⟨b, o, none⟩ = ((w.alloc (.cells #[.int .i64 W, .int .i64 H, .slice (some ⟨fb, fo, none⟩) n fc, .slice (ta) tn tc, .slice (pa) pn pc] 25))).cell? ⟨b, o, none⟩) ∧ Below (w.heap.size + 1) (w.alloc (.cells #[.int .i64 W, .int .i64 H, .slice (some ⟨fb, fo, none⟩) n fc, .slice (ta) tn tc, .slice (pa) pn pc] 25)) X) ∧ X.cell? ⟨J, u, none⟩ = some (.int .i64 v) ∧ X.cell? ⟨J, t, none⟩ = some (.int .i64 (m : Nat)))) (by kernel_rfl) ?_ (fun hHeld => ?_)
                        · exact ⟨kw_S (kw_drew HB.out), HCU.out _ HJ.out.drew, HCT.out _ HJ.out.drew⟩
                        refine wpAnyH_take (i := 0) (v := ?_) rfl (by kernel_rfl) (by kernel_rfl) (by kernel_rfl) (fun _ _ _ h => h) (Or.inl ⟨by rfl, fun wX hSw => ?_⟩) (by assumption) ?_
                        rotate_left
                        · (try dsimp only at hSw); go_simp; try with_reducible rfl
                        (try simp only [Act.put, List.getElem_toArray, List.getElem_cons_succ, List.getElem_cons_zero, List.setIfInBounds_toArray, List.set_cons_zero, List.set_cons_succ])
                        refine wpAnyH_take (i := 1) (v := ?_) rfl (by kernel_rfl) (by kernel_rfl) (by kernel_rfl) (fun _ _ _ h => h) (Or.inl ⟨by rfl, fun wX hSw => ?_⟩) (by assumption) ?_
                        rotate_left
                        · (try dsimp only at hSw); go_simp; try with_reducible rfl
                        (try simp only [Act.put, List.getElem_toArray, List.getElem_cons_succ, List.getElem_cons_zero, List.setIfInBounds_toArray, List.set_cons_zero, List.set_cons_succ])
                        refine wpAnyH_take (i := 2) (v := ?_) rfl (by kernel_rfl) (by kernel_rfl) (by kernel_rfl) (fun _ _ _ h => h) (Or.inl ⟨by rfl, fun wX hSw => ?_⟩) (by assumption) ?_
                        rotate_left
                        · (try dsimp only at hSw); go_simp; try with_reducible rfl
                        (try simp only [Act.put, List.getElem_toArray, List.getElem_cons_succ, List.getElem_cons_zero, List.setIfInBounds_toArray, List.set_cons_zero, List.set_cons_succ])
                        refine wpAnyH_take (i := 3) (v := ?_) rfl (by kernel_rfl) (by kernel_rfl) (by kernel_rfl) (fun _ _ _ h => h) (Or.inl ⟨by rfl, fun wX hSw => ?_⟩) (by assumption) ?_
                        rotate_left
                        · (try dsimp only at hSw); go_simp; try with_reducible rfl
                        (try simp only [Act.put, List.getElem_toArray, List.getElem_cons_succ, List.getElem_cons_zero, List.setIfInBounds_toArray, List.set_cons_zero, List.set_cons_succ])
                        refine wpAnyH_take (i := 4) (v := ?_) rfl (by kernel_rfl) (by kernel_rfl) (by kernel_rfl) (fun _ _ _ h => h) (Or.inl ⟨by rfl, fun wX hSw => ?_⟩) (by assumption) ?_
                        rotate_left
                        · (try dsimp only at hSw); go_simp; try with_reducible rfl
                        (try simp only [Act.put, List.getElem_toArray, List.getElem_cons_succ, List.getElem_cons_zero, List.setIfInBounds_toArray, List.set_cons_zero, List.set_cons_succ])
                        refine wpAnyH_take (i := 5) (v := ?_) rfl (by kernel_rfl) (by kernel_rfl) (by kernel_rfl) (fun _ _ _ h => h) (Or.inl ⟨by rfl, fun wX hSw => ?_⟩) (by assumption) ?_
                        rotate_left
                        · (try dsimp only at hSw); go_simp; try with_reducible rfl
                        (try simp only [Act.put, List.getElem_toArray, List.getElem_cons_succ, List.getElem_cons_zero, List.setIfInBounds_toArray, List.set_cons_zero, List.set_cons_succ])
                        refine wpAnyH_take (i := 6) (v := ?_) rfl (by kernel_rfl) (by kernel_rfl) (by kernel_rfl) (fun _ _ _ h => h) (Or.inl ⟨by rfl, fun wX hSw => ?_⟩) (by assumption) ?_
                        rotate_left
                        · (try dsimp only at hSw); go_simp; try with_reducible rfl
                        (try simp only [Act.put, List.getElem_toArray, List.getElem_cons_succ, List.getElem_cons_zero, List.setIfInBounds_toArray, List.set_cons_zero, List.set_cons_succ])
                        refine wpAnyH_take (i := 7) (v := ?_) rfl (by kernel_rfl) (by kernel_rfl) (by kernel_rfl) (fun _ _ _ h => h) (Or.inl ⟨by rfl, fun wX hSw => ?_⟩) (by assumption) ?_
                        rotate_left
                        · (try dsimp only at hSw); go_simp; try with_reducible rfl
                        (try simp only [Act.put, List.getElem_toArray, List.getElem_cons_succ, List.getElem_cons_zero, List.setIfInBounds_toArray, List.set_cons_zero, List.set_cons_succ])
                        refine wpAnyH_take (i := 8) (v := ?_) rfl (by kernel_rfl) (by kernel_rfl) (by kernel_rfl) (fun _ _ _ h => h) (Or.inl ⟨by rfl, fun wX hSw => ?_⟩) (by assumption) ?_
                        rotate_left
                        · (try dsimp only at hSw); go_simp; try with_reducible rfl
                        (try simp only [Act.put, List.getElem_toArray, List.getElem_cons_succ, List.getElem_cons_zero, List.setIfInBounds_toArray, List.set_cons_zero, List.set_cons_succ])
                        refine wpAnyH_take (i := 9) (v := ?_) rfl (by kernel_rfl) (by kernel_rfl) (by kernel_rfl) (fun _ _ _ h => h) (Or.inl ⟨by rfl, fun wX hSw => ?_⟩) (by assumption) ?_
                        rotate_left
                        · (try dsimp only at hSw); go_simp; try with_reducible rfl
                        (try simp only [Act.put, List.getElem_toArray, List.getElem_cons_succ, List.getElem_cons_zero, List.setIfInBounds_toArray, List.set_cons_zero, List.set_cons_succ])
                        refine wpAnyH_take (i := 10) (v := ?_) rfl (by kernel_rfl) (by kernel_rfl) (by kernel_rfl) (fun _ _ _ h => h) (Or.inl ⟨by rfl, fun wX hSw => ?_⟩) (by assumption) ?_
                        rotate_left
                        · (try dsimp only at hSw); go_simp; try with_reducible rfl
                        (try simp only [Act.put, List.getElem_toArray, List.getElem_cons_succ, List.getElem_cons_zero, List.setIfInBounds_toArray, List.set_cons_zero, List.set_cons_succ])
                        refine wpAnyH_take (i := 11) (v := ?_) rfl (by kernel_rfl) (by kernel_rfl) (by kernel_rfl) (fun _ _ _ h => h) (Or.inl ⟨by rfl, fun wX hSw => ?_⟩) (by assumption) ?_
                        rotate_left
                        · (try dsimp only at hSw); go_simp; try with_reducible rfl
                        (try simp only [Act.put, List.getElem_toArray, List.getElem_cons_succ, List.getElem_cons_zero, List.setIfInBounds_toArray, List.set_cons_zero, List.set_cons_succ])
                        refine wpAnyH_take (i := 12) (v := ?_) rfl (by kernel_rfl) (by kernel_rfl) (by kernel_rfl) (fun _ _ _ h => h) (Or.inl ⟨by rfl, fun wX hSw => ?_⟩) (by assumption) ?_
                        rotate_left
                        · (try dsimp only at hSw); go_simp; try with_reducible rfl
                        (try simp only [Act.put, List.getElem_toArray, List.getElem_cons_succ, List.getElem_cons_zero, List.setIfInBounds_toArray, List.set_cons_zero, List.set_cons_succ])
                        refine wpAnyH_take (i := 13) (v := ?_) rfl (by kernel_rfl) (by kernel_rfl) (by kernel_rfl) (fun _ _ _ h => h) (Or.inl ⟨by rfl, fun wX hSw => ?_⟩) (by assumption) ?_
                        rotate_left
                        · (try dsimp only at hSw); go_simp; try with_reducible rfl
                        (try simp only [Act.put, List.getElem_toArray, List.getElem_cons_succ, List.getElem_cons_zero, List.setIfInBounds_toArray, List.set_cons_zero, List.set_cons_succ])
                        refine wpAnyH_take (i := 14) (v := ?_) rfl (by kernel_rfl) (by kernel_rfl) (by kernel_rfl) (fun _ _ _ h => h) (Or.inl ⟨by rfl, fun wX hSw => ?_⟩) (by assumption) ?_
                        rotate_left
                        · (try dsimp only at hSw); go_simp; try with_reducible rfl
                        (try simp only [Act.put, List.getElem_toArray, List.getElem_cons_succ, List.getElem_cons_zero, List.setIfInBounds_toArray, List.set_cons_zero, List.set_cons_succ])
                        refine wpAnyH_take (i := 15) (v := ?_) rfl (by kernel_rfl) (by kernel_rfl) (by kernel_rfl) (fun _ _ _ h => h) (Or.inl ⟨by rfl, fun wX hSw => ?_⟩) (by assumption) ?_
                        rotate_left
                        · (try dsimp only at hSw); go_simp; try with_reducible rfl
                        (try simp only [Act.put, List.getElem_toArray, List.getElem_cons_succ, List.getElem_cons_zero, List.setIfInBounds_toArray, List.set_cons_zero, List.set_cons_succ])
                        refine wpAnyH_take (i := 16) (v := ?_) rfl (by kernel_rfl) (by kernel_rfl) (by kernel_rfl) (fun _ _ _ h => h) (Or.inl ⟨by rfl, fun wX hSw => ?_⟩) (by assumption) ?_
                        rotate_left
                        · (try dsimp only at hSw); go_simp; try with_reducible rfl
                        (try simp only [Act.put, List.getElem_toArray, List.getElem_cons_succ, List.getElem_cons_zero, List.setIfInBounds_toArray, List.set_cons_zero, List.set_cons_succ])
                        refine wpAnyH_take (i := 17) (v := ?_) rfl (by kernel_rfl) (by kernel_rfl) (by kernel_rfl) (fun _ _ _ h => h) (Or.inl ⟨by rfl, fun wX hSw => ?_⟩) (by assumption) ?_
                        rotate_left
                        · (try dsimp only at hSw); go_simp; try with_reducible rfl
                        (try simp only [Act.put, List.getElem_toArray, List.getElem_cons_succ, List.getElem_cons_zero, List.setIfInBounds_toArray, List.set_cons_zero, List.set_cons_succ])
                        refine wpAnyH_take (i := 18) (v := ?_) rfl (by kernel_rfl) (by kernel_rfl) (by kernel_rfl) (fun _ _ _ h => h) (Or.inl ⟨by rfl, fun wX hSw => ?_⟩) (by assumption) ?_
                        rotate_left
                        · (try dsimp only at hSw); go_simp; try with_reducible rfl
                        (try simp only [Act.put, List.getElem_toArray, List.getElem_cons_succ, List.getElem_cons_zero, List.setIfInBounds_toArray, List.set_cons_zero, List.set_cons_succ])
                        refine wpAnyH_ready (rs := [19]) (by kernel_rfl) (by simp) ?_
                        refine AllReadyH.cons rfl (fun K hK => ?_) (AllReadyH.nil)
                        go_simp
                        ((go_at_call 20; (with_reducible refine (same10_as false W H u n s _ ta pa n fc tn tc pn pc _ w1 w2 h1 h2 HN.out hun RS).mono ?_); rintro e z ⟨rfl, hb⟩; have HJ2 : Hk (Arr z J n 3 (fun k => .int .i64 (P k))) := ⟨by first | exact HJ.out.later hb | exact HJ.out.drew.later hb⟩; have HR2 : Hk (Arp z R n rc Q) := ⟨by first | exact HR.out.later hb | exact (arp_drewW HR.out).later hb⟩; have hB2 : Hk (Below (w.heap.size + 1) (w.alloc (.cells #[.int .i64 W, .int .i64 H, .slice (some ⟨fb, fo, none⟩) n fc, .slice (ta) tn tc, .slice (pa) pn pc] 25)) z) := ⟨by first | exact kw_step HB.out hNW hb | exact kw_step HB.out.drew hNW hb⟩; clear hb; replace HB := hB2; replace HJ := HJ2; replace HR := HR2; clear hB2 HJ2 HR2; clear hc hf hl hn' hm; obtain ⟨hc, hf, hl, hn', hm⟩ := kw_rules HB.out hNW))
                        refine hK.out _ _ ?_ (fun hHeld => ?_)
                        · exact ⟨kw_S HB.out, HCU.out _ HJ.out, HCT.out _ HJ.out⟩
                        clear hK K
                        (try simp only [Act.put, List.getElem_toArray, List.getElem_cons_succ, List.getElem_cons_zero, List.setIfInBounds_toArray, List.set_cons_zero, List.set_cons_succ])
                        refine wpAnyH_take (i := 20) (v := ?_) rfl (by kernel_rfl) (by kernel_rfl) (by kernel_rfl) (fun _ _ _ h => h) (Or.inl ⟨by rfl, fun wX hSw => ?_⟩) (by assumption) ?_
                        rotate_left
                        · (try dsimp only at hSw); go_simp; try with_reducible rfl
                        (try simp only [Act.put, List.getElem_toArray, List.getElem_cons_succ, List.getElem_cons_zero, List.setIfInBounds_toArray, List.set_cons_zero, List.set_cons_succ])
                        refine wpAnyH_take (i := 21) (v := ?_) rfl (by kernel_rfl) (by kernel_rfl) (by kernel_rfl) (fun _ _ _ h => h) (Or.inl ⟨by rfl, fun wX hSw => ?_⟩) (by assumption) ?_
                        rotate_left
                        · (try dsimp only at hSw); go_simp; try with_reducible rfl
                        (try simp only [Act.put, List.getElem_toArray, List.getElem_cons_succ, List.getElem_cons_zero, List.setIfInBounds_toArray, List.set_cons_zero, List.set_cons_succ])
                        refine wpAnyH_take (i := 22) (v := undef) rfl (by kernel_rfl) (by kernel_rfl) (by kernel_rfl) (fun _ _ _ h => h) (Or.inr ⟨by rfl, rfl⟩) (by assumption) ?_
                        (try simp only [Act.put, List.getElem_toArray, List.getElem_cons_succ, List.getElem_cons_zero, List.setIfInBounds_toArray, List.set_cons_zero, List.set_cons_succ])
                        refine wpAnyH_take (i := 23) (v := undef) rfl (by kernel_rfl) (by kernel_rfl) (by kernel_rfl) (fun _ _ _ h => h) (Or.inr ⟨by rfl, rfl⟩) (by assumption) ?_
                        (try simp only [Act.put, List.getElem_toArray, List.getElem_cons_succ, List.getElem_cons_zero, List.setIfInBounds_toArray, List.set_cons_zero, List.set_cons_succ])
                        refine wpAnyH_take (i := 24) (v := undef) rfl (by kernel_rfl) (by kernel_rfl) (by kernel_rfl) (fun _ _ _ h => h) (Or.inr ⟨by rfl, rfl⟩) (by assumption) ?_
                        (try simp only [Act.put, List.getElem_toArray, List.getElem_cons_succ, List.getElem_cons_zero, List.setIfInBounds_toArray, List.set_cons_zero, List.set_cons_succ])
                        refine wpAnyH_take (i := 25) (v := undef) rfl (by kernel_rfl) (by kernel_rfl) (by kernel_rfl) (fun _ _ _ h => h) (Or.inr ⟨by rfl, rfl⟩) (by assumption) ?_
                        (try simp only [Act.put, List.getElem_toArray, List.getElem_cons_succ, List.getElem_cons_zero, List.setIfInBounds_toArray, List.set_cons_zero, List.set_cons_succ])
                        refine wpAnyH_take (i := 26) (v := undef) rfl (by kernel_rfl) (by kernel_rfl) (by kernel_rfl) (fun _ _ _ h => h) (Or.inr ⟨by rfl, rfl⟩) (by assumption) ?_
                        (try simp only [Act.put, List.getElem_toArray, List.getElem_cons_succ, List.getElem_cons_zero, List.setIfInBounds_toArray, List.set_cons_zero, List.set_cons_succ])
                        refine wpAnyH_take (i := 27) (v := undef) rfl (by kernel_rfl) (by kernel_rfl) (by kernel_rfl) (fun _ _ _ h => h) (Or.inr ⟨by rfl, rfl⟩) (by assumption) ?_
                        (try simp only [Act.put, List.getElem_toArray, List.getElem_cons_succ, List.getElem_cons_zero, List.setIfInBounds_toArray, List.set_cons_zero, List.set_cons_succ])
                        refine wpAnyH_take (i := 28) (v := undef) rfl (by kernel_rfl) (by kernel_rfl) (by kernel_rfl) (fun _ _ _ h => h) (Or.inr ⟨by rfl, rfl⟩) (by assumption) ?_
                        (try simp only [Act.put, List.getElem_toArray, List.getElem_cons_succ, List.getElem_cons_zero, List.setIfInBounds_toArray, List.set_cons_zero, List.set_cons_succ])
                        refine wpAnyH_take (i := 29) (v := undef) rfl (by kernel_rfl) (by kernel_rfl) (by kernel_rfl) (fun _ _ _ h => h) (Or.inr ⟨by rfl, rfl⟩) (by assumption) ?_
                        (try simp only [Act.put, List.getElem_toArray, List.getElem_cons_succ, List.getElem_cons_zero, List.setIfInBounds_toArray, List.set_cons_zero, List.set_cons_succ])
                        refine wpAnyH_take (i := 30) (v := undef) rfl (by kernel_rfl) (by kernel_rfl) (by kernel_rfl) (fun _ _ _ h => h) (Or.inr ⟨by rfl, rfl⟩) (by assumption) ?_
                        (try simp only [Act.put, List.getElem_toArray, List.getElem_cons_succ, List.getElem_cons_zero, List.setIfInBounds_toArray, List.set_cons_zero, List.set_cons_succ])
                        refine wpAnyH_take (i := 31) (v := ?_) rfl (by kernel_rfl) (by kernel_rfl) (by kernel_rfl) (fun _ _ _ h => h) (Or.inl ⟨by rfl, fun wX hSw => ?_⟩) (by assumption) ?_
                        rotate_left
                        · (try dsimp only at hSw); go_simp; try with_reducible rfl
                        (try simp only [Act.put, List.getElem_toArray, List.getElem_cons_succ, List.getElem_cons_zero, List.setIfInBounds_toArray, List.set_cons_zero, List.set_cons_succ])
                        refine wpAnyH_done (by kernel_rfl) ?_ _
                        go_wp2_with fail
                        go_meet
                        case rel => exact ⟨rfl, HJ, HR, HB⟩
                · have dx : decide ((t : Int) % W < W - 1) = false := decide_eq_false hx
                  as_aux_lemma =>
                    go_quiet (fail)
                    go_wp2_with fail
                    go_meet
                    case rel => exact ⟨rfl, ⟨HJ.out.drewN nq⟩, ⟨HR.out.drewN nq⟩, ⟨below_drewN HB.out nq⟩⟩
              case rest =>
              obtain ⟨rfl, HJ, HR, HB⟩ := hcut
              clear hc hf hl hn' hm
              obtain ⟨hc, hf, hl, hn', hm⟩ := kw_rules HB.out hNW
              clear g1 HU
              obtain ⟨u, hu'⟩ : ∃ u : Nat, (u : Int) = t + W := ⟨((t : Int) + W).toNat, by omega⟩
              have g1 : IntKind.i64.wrap ((t : Int) + W) = (u : Int) := by rw [hu']; exact wr_in' (by omega)
              have HU := Hk.mk hu'
              clear hu'
              have g3 : IntKind.i64.wrap ((t : Int) / W) = (t : Int) / W := e3
              go_upto_region 28 with fail
              go_cut [218] (fun x wx => x = .bool false ∧ Hk (Arr wx J n 3 (fun k => .int .i64 (P k))) ∧ Hk (Arp wx R n rc Q) ∧ Hk (Below (w.heap.size + 1) (w.alloc (.cells #[.int .i64 W, .int .i64 H, .slice (some ⟨fb, fo, none⟩) n fc, .slice (ta) tn tc, .slice (pa) pn pc] 25)) wx))
              case first =>
                by_cases hx : (t : Int) / W < H - 1
                · have dx : decide ((t : Int) / W < H - 1) = true := decide_eq_true hx
                  obtain ⟨hun, hnb⟩ : u < n ∧ (fr t = true → fr u = true → Fx.ofS W (u : Int) = Fx.ofS W (t : Int) → (nbN W n fr) t u) := (nb_down (fr := fr) w1 HN.out htn hx HU.out)
                  have u0 : (0 : Int) ≤ (u : Int) := by omega
                  have u1 : (u : Int) < (n : Int) := by omega
                  have u2 : u < n := hun
                  have cFu := HFR.out _ HB.out u hun
                  have cFw := HF0.out u hun
                  cases hfu : fr u
                  · rw [hfu] at cFu cFw
                    clear hfu hnb
                    as_aux_lemma =>
                      go_quiet (fail)
                      go_wp2_with fail
                      go_meet
                      case rel => exact ⟨rfl, ⟨HJ.out.drewN nq⟩, ⟨HR.out.drewN nq⟩, ⟨below_drewN HB.out nq⟩⟩
                  · rw [hfu] at cFu cFw
                    obtain ⟨v, hv⟩ : ∃ v, P u = v := ⟨_, rfl⟩
                    have HCU : Hk (∀ X, Arr X J n 3 (fun k => .int .i64 (P k)) → X.cell? ⟨J, u, none⟩ = some (.int .i64 v)) := ⟨fun X hX => by rw [hX.cell hun, hv]⟩
                    by_cases hs : Fx.ofS W (u : Int) = s
                    · have hvm : v = (m : Nat) := by rw [← hv, ← HPM.out]; exact part_next HP.out (hnb HFT.out hfu (by rw [hs, ES.out]))
                      have RS : Hk (Fx.ofS W (u : Int) = s ↔ true = true) := ⟨⟨fun _ => rfl, fun _ => hs⟩⟩
                      clear hfu hnb hv hs
                      as_aux_lemma =>
                        refine wp_region_held_drew (S := (fun X => ((∀ b o, b < (w.heap.size + 1) → X.cell? ⟨b, o, none⟩ = ((w.alloc (.cells #[.int .i64 W, .int .i64 H, .slice (some ⟨fb, fo, none⟩) n fc, .slice (ta) tn tc, .slice (pa) pn pc] 25))).cell? ⟨b, o, none⟩) ∧ Below (w.heap.size + 1) (w.alloc (.cells #[.int .i64 W, .int .i64 H, .slice (some ⟨fb, fo, none⟩) n fc, .slice (ta) tn tc, .slice (pa) pn pc] 25)) X) ∧ X.cell? ⟨J, u, none⟩ = some (.int .i64 v) ∧ X.cell? ⟨J, t, none⟩ = some (.int .i64 (m : Nat)))) (by kernel_rfl) ?_ (fun hHeld => ?_)
                        · exact ⟨kw_S (kw_drew HB.out), HCU.out _ HJ.out.drew, HCT.out _ HJ.out.drew⟩
                        refine wpAnyH_take (i := 0) (v := ?_) rfl (by kernel_rfl) (by kernel_rfl) (by kernel_rfl) (fun _ _ _ h => h) (Or.inl ⟨by rfl, fun wX hSw => ?_⟩) (by assumption) ?_
                        rotate_left
                        · (try dsimp only at hSw); go_simp; try with_reducible rfl
                        (try simp only [Act.put, List.getElem_toArray, List.getElem_cons_succ, List.getElem_cons_zero, List.setIfInBounds_toArray, List.set_cons_zero, List.set_cons_succ])
                        refine wpAnyH_take (i := 1) (v := ?_) rfl (by kernel_rfl) (by kernel_rfl) (by kernel_rfl) (fun _ _ _ h => h) (Or.inl ⟨by rfl, fun wX hSw => ?_⟩) (by assumption) ?_
                        rotate_left
                        · (try dsimp only at hSw); go_simp; try with_reducible rfl
                        (try simp only [Act.put, List.getElem_toArray, List.getElem_cons_succ, List.getElem_cons_zero, List.setIfInBounds_toArray, List.set_cons_zero, List.set_cons_succ])
                        refine wpAnyH_take (i := 2) (v := ?_) rfl (by kernel_rfl) (by kernel_rfl) (by kernel_rfl) (fun _ _ _ h => h) (Or.inl ⟨by rfl, fun wX hSw => ?_⟩) (by assumption) ?_
                        rotate_left
                        · (try dsimp only at hSw); go_simp; try with_reducible rfl
                        (try simp only [Act.put, List.getElem_toArray, List.getElem_cons_succ, List.getElem_cons_zero, List.setIfInBounds_toArray, List.set_cons_zero, List.set_cons_succ])
                        refine wpAnyH_take (i := 3) (v := ?_) rfl (by kernel_rfl) (by kernel_rfl) (by kernel_rfl) (fun _ _ _ h => h) (Or.inl ⟨by rfl, fun wX hSw => ?_⟩) (by assumption) ?_
                        rotate_left
                        · (try dsimp only at hSw); go_simp; try with_reducible rfl
                        (try simp only [Act.put, List.getElem_toArray, List.getElem_cons_succ, List.getElem_cons_zero, List.setIfInBounds_toArray, List.set_cons_zero, List.set_cons_succ])
                        refine wpAnyH_take (i := 4) (v := ?_) rfl (by kernel_rfl) (by kernel_rfl) (by kernel_rfl) (fun _ _ _ h => h) (Or.inl ⟨by rfl, fun wX hSw => ?_⟩) (by assumption) ?_
                        rotate_left
                        · (try dsimp only at hSw); go_simp; try with_reducible rfl
                        (try simp only [Act.put, List.getElem_toArray, List.getElem_cons_succ, List.getElem_cons_zero, List.setIfInBounds_toArray, List.set_cons_zero, List.set_cons_succ])
                        refine wpAnyH_take (i := 5) (v := ?_) rfl (by kernel_rfl) (by kernel_rfl) (by kernel_rfl) (fun _ _ _ h => h) (Or.inl ⟨by rfl, fun wX hSw => ?_⟩) (by assumption) ?_
                        rotate_left
                        · (try dsimp only at hSw); go_simp; try with_reducible rfl
                        (try simp only [Act.put, List.getElem_toArray, List.getElem_cons_succ, List.getElem_cons_zero, List.setIfInBounds_toArray, List.set_cons_zero, List.set_cons_succ])
                        refine wpAnyH_take (i := 6) (v := ?_) rfl (by kernel_rfl) (by kernel_rfl) (by kernel_rfl) (fun _ _ _ h => h) (Or.inl ⟨by rfl, fun wX hSw => ?_⟩) (by assumption) ?_
                        rotate_left
                        · (try dsimp only at hSw); go_simp; try with_reducible rfl
                        (try simp only [Act.put, List.getElem_toArray, List.getElem_cons_succ, List.getElem_cons_zero, List.setIfInBounds_toArray, List.set_cons_zero, List.set_cons_succ])
                        refine wpAnyH_take (i := 7) (v := ?_) rfl (by kernel_rfl) (by kernel_rfl) (by kernel_rfl) (fun _ _ _ h => h) (Or.inl ⟨by rfl, fun wX hSw => ?_⟩) (by assumption) ?_
                        rotate_left
                        · (try dsimp only at hSw); go_simp; try with_reducible rfl
                        (try simp only [Act.put, List.getElem_toArray, List.getElem_cons_succ, List.getElem_cons_zero, List.setIfInBounds_toArray, List.set_cons_zero, List.set_cons_succ])
                        refine wpAnyH_take (i := 8) (v := ?_) rfl (by kernel_rfl) (by kernel_rfl) (by kernel_rfl) (fun _ _ _ h => h) (Or.inl ⟨by rfl, fun wX hSw => ?_⟩) (by assumption) ?_
                        rotate_left
                        · (try dsimp only at hSw); go_simp; try with_reducible rfl
                        (try simp only [Act.put, List.getElem_toArray, List.getElem_cons_succ, List.getElem_cons_zero, List.setIfInBounds_toArray, List.set_cons_zero, List.set_cons_succ])
                        refine wpAnyH_take (i := 9) (v := ?_) rfl (by kernel_rfl) (by kernel_rfl) (by kernel_rfl) (fun _ _ _ h => h) (Or.inl ⟨by rfl, fun wX hSw => ?_⟩) (by assumption) ?_
                        rotate_left
                        · (try dsimp only at hSw); go_simp; try with_reducible rfl
                        (try simp only [Act.put, List.getElem_toArray, List.getElem_cons_succ, List.getElem_cons_zero, List.setIfInBounds_toArray, List.set_cons_zero, List.set_cons_succ])
                        refine wpAnyH_take (i := 10) (v := ?_) rfl (by kernel_rfl) (by kernel_rfl) (by kernel_rfl) (fun _ _ _ h => h) (Or.inl ⟨by rfl, fun wX hSw => ?_⟩) (by assumption) ?_
                        rotate_left
                        · (try dsimp only at hSw); go_simp; try with_reducible rfl
                        (try simp only [Act.put, List.getElem_toArray, List.getElem_cons_succ, List.getElem_cons_zero, List.setIfInBounds_toArray, List.set_cons_zero, List.set_cons_succ])
                        refine wpAnyH_take (i := 11) (v := ?_) rfl (by kernel_rfl) (by kernel_rfl) (by kernel_rfl) (fun _ _ _ h => h) (Or.inl ⟨by rfl, fun wX hSw => ?_⟩) (by assumption) ?_
                        rotate_left
                        · (try dsimp only at hSw); go_simp; try with_reducible rfl
                        (try simp only [Act.put, List.getElem_toArray, List.getElem_cons_succ, List.getElem_cons_zero, List.setIfInBounds_toArray, List.set_cons_zero, List.set_cons_succ])
                        refine wpAnyH_take (i := 12) (v := ?_) rfl (by kernel_rfl) (by kernel_rfl) (by kernel_rfl) (fun _ _ _ h => h) (Or.inl ⟨by rfl, fun wX hSw => ?_⟩) (by assumption) ?_
                        rotate_left
                        · (try dsimp only at hSw); go_simp; try with_reducible rfl
                        (try simp only [Act.put, List.getElem_toArray, List.getElem_cons_succ, List.getElem_cons_zero, List.setIfInBounds_toArray, List.set_cons_zero, List.set_cons_succ])
                        refine wpAnyH_take (i := 13) (v := ?_) rfl (by kernel_rfl) (by kernel_rfl) (by kernel_rfl) (fun _ _ _ h => h) (Or.inl ⟨by rfl, fun wX hSw => ?_⟩) (by assumption) ?_
                        rotate_left
                        · (try dsimp only at hSw); go_simp; try with_reducible rfl
                        (try simp only [Act.put, List.getElem_toArray, List.getElem_cons_succ, List.getElem_cons_zero, List.setIfInBounds_toArray, List.set_cons_zero, List.set_cons_succ])
                        refine wpAnyH_take (i := 14) (v := ?_) rfl (by kernel_rfl) (by kernel_rfl) (by kernel_rfl) (fun _ _ _ h => h) (Or.inl ⟨by rfl, fun wX hSw => ?_⟩) (by assumption) ?_
                        rotate_left
                        · (try dsimp only at hSw); go_simp; try with_reducible rfl
                        (try simp only [Act.put, List.getElem_toArray, List.getElem_cons_succ, List.getElem_cons_zero, List.setIfInBounds_toArray, List.set_cons_zero, List.set_cons_succ])
                        refine wpAnyH_take (i := 15) (v := ?_) rfl (by kernel_rfl) (by kernel_rfl) (by kernel_rfl) (fun _ _ _ h => h) (Or.inl ⟨by rfl, fun wX hSw => ?_⟩) (by assumption) ?_
                        rotate_left
                        · (try dsimp only at hSw); go_simp; try with_reducible rfl
                        (try simp only [Act.put, List.getElem_toArray, List.getElem_cons_succ, List.getElem_cons_zero, List.setIfInBounds_toArray, List.set_cons_zero, List.set_cons_succ])
                        refine wpAnyH_take (i := 16) (v := ?_) rfl (by kernel_rfl) (by kernel_rfl) (by kernel_rfl) (fun _ _ _ h => h) (Or.inl ⟨by rfl, fun wX hSw => ?_⟩) (by assumption) ?_
                        rotate_left
                        · (try dsimp only at hSw); go_simp; try with_reducible rfl
                        (try simp only [Act.put, List.getElem_toArray, List.getElem_cons_succ, List.getElem_cons_zero, List.setIfInBounds_toArray, List.set_cons_zero, List.set_cons_succ])
                        refine wpAnyH_take (i := 17) (v := ?_) rfl (by kernel_rfl) (by kernel_rfl) (by kernel_rfl) (fun _ _ _ h => h) (Or.inl ⟨by rfl, fun wX hSw => ?_⟩) (by assumption) ?_
                        rotate_left
                        · (try dsimp only at hSw); go_simp; try with_reducible rfl
                        (try simp only [Act.put, List.getElem_toArray, List.getElem_cons_succ, List.getElem_cons_zero, List.setIfInBounds_toArray, List.set_cons_zero, List.set_cons_succ])
                        refine wpAnyH_take (i := 18) (v := ?_) rfl (by kernel_rfl) (by kernel_rfl) (by kernel_rfl) (fun _ _ _ h => h) (Or.inl ⟨by rfl, fun wX hSw => ?_⟩) (by assumption) ?_
                        rotate_left
                        · (try dsimp only at hSw); go_simp; try with_reducible rfl
                        (try simp only [Act.put, List.getElem_toArray, List.getElem_cons_succ, List.getElem_cons_zero, List.setIfInBounds_toArray, List.set_cons_zero, List.set_cons_succ])
                        refine wpAnyH_ready (rs := [19]) (by kernel_rfl) (by simp) ?_
                        refine AllReadyH.cons rfl (fun K hK => ?_) (AllReadyH.nil)
                        go_simp
                        ((go_at_call 20; (with_reducible refine (same10_as true W H u n s _ ta pa n fc tn tc pn pc _ w1 w2 h1 h2 HN.out hun RS).mono ?_); rintro e z ⟨rfl, hb⟩; have HJ2 : Hk (Arr z J n 3 (fun k => .int .i64 (P k))) := ⟨by first | exact HJ.out.later hb | exact HJ.out.drew.later hb⟩; have HR2 : Hk (Arp z R n rc Q) := ⟨by first | exact HR.out.later hb | exact (arp_drewW HR.out).later hb⟩; have hB2 : Hk (Below (w.heap.size + 1) (w.alloc (.cells #[.int .i64 W, .int .i64 H, .slice (some ⟨fb, fo, none⟩) n fc, .slice (ta) tn tc, .slice (pa) pn pc] 25)) z) := ⟨by first | exact kw_step HB.out hNW hb | exact kw_step HB.out.drew hNW hb⟩; clear hb; replace HB := hB2; replace HJ := HJ2; replace HR := HR2; clear hB2 HJ2 HR2; clear hc hf hl hn' hm; obtain ⟨hc, hf, hl, hn', hm⟩ := kw_rules HB.out hNW))
                        refine hK.out _ _ ?_ (fun hHeld => ?_)
                        · exact ⟨kw_S HB.out, HCU.out _ HJ.out, HCT.out _ HJ.out⟩
                        clear hK K
                        (try simp only [Act.put, List.getElem_toArray, List.getElem_cons_succ, List.getElem_cons_zero, List.setIfInBounds_toArray, List.set_cons_zero, List.set_cons_succ])
                        refine wpAnyH_take (i := 20) (v := ?_) rfl (by kernel_rfl) (by kernel_rfl) (by kernel_rfl) (fun _ _ _ h => h) (Or.inl ⟨by rfl, fun wX hSw => ?_⟩) (by assumption) ?_
                        rotate_left
                        · (try dsimp only at hSw); go_simp; try with_reducible rfl
                        (try simp only [Act.put, List.getElem_toArray, List.getElem_cons_succ, List.getElem_cons_zero, List.setIfInBounds_toArray, List.set_cons_zero, List.set_cons_succ])
                        refine wpAnyH_take (i := 21) (v := ?_) rfl (by kernel_rfl) (by kernel_rfl) (by kernel_rfl) (fun _ _ _ h => h) (Or.inl ⟨by rfl, fun wX hSw => ?_⟩) (by assumption) ?_
                        rotate_left
                        · (try dsimp only at hSw); go_simp; try with_reducible rfl
                        (try simp only [Act.put, List.getElem_toArray, List.getElem_cons_succ, List.getElem_cons_zero, List.setIfInBounds_toArray, List.set_cons_zero, List.set_cons_succ])
                        refine wpAnyH_take (i := 22) (v := ?_) rfl (by kernel_rfl) (by kernel_rfl) (by kernel_rfl) (fun _ _ _ h => h) (Or.inl ⟨by rfl, fun wX hSw => ?_⟩) (by assumption) ?_
                        rotate_left
                        · (try dsimp only at hSw); go_simp; try with_reducible rfl
                        (try simp only [Act.put, List.getElem_toArray, List.getElem_cons_succ, List.getElem_cons_zero, List.setIfInBounds_toArray, List.set_cons_zero, List.set_cons_succ])
                        refine wpAnyH_take (i := 23) (v := ?_) rfl (by kernel_rfl) (by kernel_rfl) (by kernel_rfl) (fun _ _ _ h => h) (Or.inl ⟨by rfl, fun wX hSw => ?_⟩) (by assumption) ?_
                        rotate_left
                        · (try dsimp only at hSw); go_simp; try with_reducible rfl
                        (try simp only [Act.put, List.getElem_toArray, List.getElem_cons_succ, List.getElem_cons_zero, List.setIfInBounds_toArray, List.set_cons_zero, List.set_cons_succ])
                        refine wpAnyH_take (i := 24) (v := ?_) rfl (by kernel_rfl) (by kernel_rfl) (by kernel_rfl) (fun _ _ _ h => h) (Or.inl ⟨by rfl, fun wX hSw => ?_⟩) (by assumption) ?_
                        rotate_left
                        · (try dsimp only at hSw); go_simp; try with_reducible rfl
                        (try simp only [Act.put, List.getElem_toArray, List.getElem_cons_succ, List.getElem_cons_zero, List.setIfInBounds_toArray, List.set_cons_zero, List.set_cons_succ])
                        refine wpAnyH_take (i := 25) (v := ?_) rfl (by kernel_rfl) (by kernel_rfl) (by kernel_rfl) (fun _ _ _ h => h) (Or.inl ⟨by rfl, fun wX hSw => ?_⟩) (by assumption) ?_
                        rotate_left
                        · (try dsimp only at hSw); go_simp; try with_reducible rfl
                        (try simp only [Act.put, List.getElem_toArray, List.getElem_cons_succ, List.getElem_cons_zero, List.setIfInBounds_toArray, List.set_cons_zero, List.set_cons_succ])
                        refine wpAnyH_take (i := 26) (v := ?_) rfl (by kernel_rfl) (by kernel_rfl) (by kernel_rfl) (fun _ _ _ h => h) (Or.inl ⟨by rfl, fun wX hSw => ?_⟩) (by assumption) ?_
                        rotate_left
                        · (try dsimp only at hSw); go_simp; try with_reducible rfl
                        (try simp only [Act.put, List.getElem_toArray, List.getElem_cons_succ, List.getElem_cons_zero, List.setIfInBounds_toArray, List.set_cons_zero, List.set_cons_succ])
                        refine wpAnyH_take (i := 27) (v := ?_) rfl (by kernel_rfl) (by kernel_rfl) (by kernel_rfl) (fun _ _ _ h => h) (Or.inl ⟨by rfl, fun wX hSw => ?_⟩) (by assumption) ?_
                        rotate_left
                        · (try dsimp only at hSw); go_simp; try with_reducible rfl
                        (try simp only [Act.put, List.getElem_toArray, List.getElem_cons_succ, List.getElem_cons_zero, List.setIfInBounds_toArray, List.set_cons_zero, List.set_cons_succ])
                        refine wpAnyH_take (i := 28) (v := ?_) rfl (by kernel_rfl) (by kernel_rfl) (by kernel_rfl) (fun _ _ _ h => h) (Or.inl ⟨by rfl, fun wX hSw => ?_⟩) (by assumption) ?_
                        rotate_left
                        · (try dsimp only at hSw); go_simp; try with_reducible rfl
                        (try simp only [Act.put, List.getElem_toArray, List.getElem_cons_succ, List.getElem_cons_zero, List.setIfInBounds_toArray, List.set_cons_zero, List.set_cons_succ])
                        refine wpAnyH_take (i := 29) (v := ?_) rfl (by kernel_rfl) (by kernel_rfl) (by kernel_rfl) (fun _ _ _ h => h) (Or.inl ⟨by rfl, fun wX hSw => ?_⟩) (by assumption) ?_
                        rotate_left
                        · (try dsimp only at hSw); go_simp; try with_reducible rfl
                        (try simp only [Act.put, List.getElem_toArray, List.getElem_cons_succ, List.getElem_cons_zero, List.setIfInBounds_toArray, List.set_cons_zero, List.set_cons_succ])
                        refine wpAnyH_take (i := 30) (v := ?_) rfl (by kernel_rfl) (by kernel_rfl) (by kernel_rfl) (fun _ _ _ h => h) (Or.inl ⟨by rfl, fun wX hSw => ?_⟩) (by assumption) ?_
                        rotate_left
                        · (try dsimp only at hSw); go_simp; try with_reducible rfl
                        (try simp only [Act.put, List.getElem_toArray, List.getElem_cons_succ, List.getElem_cons_zero, List.setIfInBounds_toArray, List.set_cons_zero, List.set_cons_succ])
                        refine wpAnyH_take (i := 31) (v := ?_) rfl (by kernel_rfl) (by kernel_rfl) (by kernel_rfl) (fun _ _ _ h => h) (Or.inl ⟨by rfl, fun wX hSw => ?_⟩) (by assumption) ?_
                        rotate_left
                        · (try dsimp only at hSw); go_simp; try with_reducible rfl
                        (try simp only [Act.put, List.getElem_toArray, List.getElem_cons_succ, List.getElem_cons_zero, List.setIfInBounds_toArray, List.set_cons_zero, List.set_cons_succ])
                        refine wpAnyH_done (by kernel_rfl) ?_ _
                        go_wp2_with fail
                        go_meet
                        case rel => exact ⟨rfl, HJ, HR, HB⟩
                    · have RS : Hk (Fx.ofS W (u : Int) = s ↔ false = true) := ⟨⟨fun h => absurd h hs, fun h => by cases h⟩⟩
                      clear hfu hnb hv
                      as_aux_lemma =>
                        refine wp_region_held_drew (S := (fun X => ((∀ b o, b < (w.heap.size + 1) → X.cell? ⟨b, o, none⟩ = ((w.alloc (.cells #[.int .i64 W, .int .i64 H, .slice (some ⟨fb, fo, none⟩) n fc, .slice (ta) tn tc, .slice (pa) pn pc] 25))).cell? ⟨b, o, none⟩) ∧ Below (w.heap.size + 1) (w.alloc (.cells #[.int .i64 W, .int .i64 H, .slice (some ⟨fb, fo, none⟩) n fc, .slice (ta) tn tc, .slice (pa) pn pc] 25)) X) ∧ X.cell? ⟨J, u, none⟩ = some (.int .i64 v) ∧ X.cell? ⟨J, t, none⟩ = some (.int .i64 (m : Nat)))) (by kernel_rfl) ?_ (fun hHeld => ?_)
                        · exact ⟨kw_S (kw_drew HB.out), HCU.out _ HJ.out.drew, HCT.out _ HJ.out.drew⟩
                        refine wpAnyH_take (i := 0) (v := ?_) rfl (by kernel_rfl) (by kernel_rfl) (by kernel_rfl) (fun _ _ _ h => h) (Or.inl ⟨by rfl, fun wX hSw => ?_⟩) (by assumption) ?_
                        rotate_left
                        · (try dsimp only at hSw); go_simp; try with_reducible rfl
                        (try simp only [Act.put, List.getElem_toArray, List.getElem_cons_succ, List.getElem_cons_zero, List.setIfInBounds_toArray, List.set_cons_zero, List.set_cons_succ])
                        refine wpAnyH_take (i := 1) (v := ?_) rfl (by kernel_rfl) (by kernel_rfl) (by kernel_rfl) (fun _ _ _ h => h) (Or.inl ⟨by rfl, fun wX hSw => ?_⟩) (by assumption) ?_
                        rotate_left
                        · (try dsimp only at hSw); go_simp; try with_reducible rfl
                        (try simp only [Act.put, List.getElem_toArray, List.getElem_cons_succ, List.getElem_cons_zero, List.setIfInBounds_toArray, List.set_cons_zero, List.set_cons_succ])
                        refine wpAnyH_take (i := 2) (v := ?_) rfl (by kernel_rfl) (by kernel_rfl) (by kernel_rfl) (fun _ _ _ h => h) (Or.inl ⟨by rfl, fun wX hSw => ?_⟩) (by assumption) ?_
                        rotate_left
                        · (try dsimp only at hSw); go_simp; try with_reducible rfl
                        (try simp only [Act.put, List.getElem_toArray, List.getElem_cons_succ, List.getElem_cons_zero, List.setIfInBounds_toArray, List.set_cons_zero, List.set_cons_succ])
                        refine wpAnyH_take (i := 3) (v := ?_) rfl (by kernel_rfl) (by kernel_rfl) (by kernel_rfl) (fun _ _ _ h => h) (Or.inl ⟨by rfl, fun wX hSw => ?_⟩) (by assumption) ?_
                        rotate_left
                        · (try dsimp only at hSw); go_simp; try with_reducible rfl
                        (try simp only [Act.put, List.getElem_toArray, List.getElem_cons_succ, List.getElem_cons_zero, List.setIfInBounds_toArray, List.set_cons_zero, List.set_cons_succ])
                        refine wpAnyH_take (i := 4) (v := ?_) rfl (by kernel_rfl) (by kernel_rfl) (by kernel_rfl) (fun _ _ _ h => h) (Or.inl ⟨by rfl, fun wX hSw => ?_⟩) (by assumption) ?_
                        rotate_left
                        · (try dsimp only at hSw); go_simp; try with_reducible rfl
                        (try simp only [Act.put, List.getElem_toArray, List.getElem_cons_succ, List.getElem_cons_zero, List.setIfInBounds_toArray, List.set_cons_zero, List.set_cons_succ])
                        refine wpAnyH_take (i := 5) (v := ?_) rfl (by kernel_rfl) (by kernel_rfl) (by kernel_rfl) (fun _ _ _ h => h) (Or.inl ⟨by rfl, fun wX hSw => ?_⟩) (by assumption) ?_
                        rotate_left
                        · (try dsimp only at hSw); go_simp; try with_reducible rfl
                        (try simp only [Act.put, List.getElem_toArray, List.getElem_cons_succ, List.getElem_cons_zero, List.setIfInBounds_toArray, List.set_cons_zero, List.set_cons_succ])
                        refine wpAnyH_take (i := 6) (v := ?_) rfl (by kernel_rfl) (by kernel_rfl) (by kernel_rfl) (fun _ _ _ h => h) (Or.inl ⟨by rfl, fun wX hSw => ?_⟩) (by assumption) ?_
                        rotate_left
                        · (try dsimp only at hSw); go_simp; try with_reducible rfl
                        (try simp only [Act.put, List.getElem_toArray, List.getElem_cons_succ, List.getElem_cons_zero, List.setIfInBounds_toArray, List.set_cons_zero, List.set_cons_succ])
                        refine wpAnyH_take (i := 7) (v := ?_) rfl (by kernel_rfl) (by kernel_rfl) (by kernel_rfl) (fun _ _ _ h => h) (Or.inl ⟨by rfl, fun wX hSw => ?_⟩) (by assumption) ?_
                        rotate_left
                        · (try dsimp only at hSw); go_simp; try with_reducible rfl
                        (try simp only [Act.put, List.getElem_toArray, List.getElem_cons_succ, List.getElem_cons_zero, List.setIfInBounds_toArray, List.set_cons_zero, List.set_cons_succ])
                        refine wpAnyH_take (i := 8) (v := ?_) rfl (by kernel_rfl) (by kernel_rfl) (by kernel_rfl) (fun _ _ _ h => h) (Or.inl ⟨by rfl, fun wX hSw => ?_⟩) (by assumption) ?_
                        rotate_left
                        · (try dsimp only at hSw); go_simp; try with_reducible rfl
                        (try simp only [Act.put, List.getElem_toArray, List.getElem_cons_succ, List.getElem_cons_zero, List.setIfInBounds_toArray, List.set_cons_zero, List.set_cons_succ])
                        refine wpAnyH_take (i := 9) (v := ?_) rfl (by kernel_rfl) (by kernel_rfl) (by kernel_rfl) (fun _ _ _ h => h) (Or.inl ⟨by rfl, fun wX hSw => ?_⟩) (by assumption) ?_
                        rotate_left
                        · (try dsimp only at hSw); go_simp; try with_reducible rfl
                        (try simp only [Act.put, List.getElem_toArray, List.getElem_cons_succ, List.getElem_cons_zero, List.setIfInBounds_toArray, List.set_cons_zero, List.set_cons_succ])
                        refine wpAnyH_take (i := 10) (v := ?_) rfl (by kernel_rfl) (by kernel_rfl) (by kernel_rfl) (fun _ _ _ h => h) (Or.inl ⟨by rfl, fun wX hSw => ?_⟩) (by assumption) ?_
                        rotate_left
                        · (try dsimp only at hSw); go_simp; try with_reducible rfl
                        (try simp only [Act.put, List.getElem_toArray, List.getElem_cons_succ, List.getElem_cons_zero, List.setIfInBounds_toArray, List.set_cons_zero, List.set_cons_succ])
                        refine wpAnyH_take (i := 11) (v := ?_) rfl (by kernel_rfl) (by kernel_rfl) (by kernel_rfl) (fun _ _ _ h => h) (Or.inl ⟨by rfl, fun wX hSw => ?_⟩) (by assumption) ?_
                        rotate_left
                        · (try dsimp only at hSw); go_simp; try with_reducible rfl
                        (try simp only [Act.put, List.getElem_toArray, List.getElem_cons_succ, List.getElem_cons_zero, List.setIfInBounds_toArray, List.set_cons_zero, List.set_cons_succ])
                        refine wpAnyH_take (i := 12) (v := ?_) rfl (by kernel_rfl) (by kernel_rfl) (by kernel_rfl) (fun _ _ _ h => h) (Or.inl ⟨by rfl, fun wX hSw => ?_⟩) (by assumption) ?_
                        rotate_left
                        · (try dsimp only at hSw); go_simp; try with_reducible rfl
                        (try simp only [Act.put, List.getElem_toArray, List.getElem_cons_succ, List.getElem_cons_zero, List.setIfInBounds_toArray, List.set_cons_zero, List.set_cons_succ])
                        refine wpAnyH_take (i := 13) (v := ?_) rfl (by kernel_rfl) (by kernel_rfl) (by kernel_rfl) (fun _ _ _ h => h) (Or.inl ⟨by rfl, fun wX hSw => ?_⟩) (by assumption) ?_
                        rotate_left
                        · (try dsimp only at hSw); go_simp; try with_reducible rfl
                        (try simp only [Act.put, List.getElem_toArray, List.getElem_cons_succ, List.getElem_cons_zero, List.setIfInBounds_toArray, List.set_cons_zero, List.set_cons_succ])
                        refine wpAnyH_take (i := 14) (v := ?_) rfl (by kernel_rfl) (by kernel_rfl) (by kernel_rfl) (fun _ _ _ h => h) (Or.inl ⟨by rfl, fun wX hSw => ?_⟩) (by assumption) ?_
                        rotate_left
                        · (try dsimp only at hSw); go_simp; try with_reducible rfl
                        (try simp only [Act.put, List.getElem_toArray, List.getElem_cons_succ, List.getElem_cons_zero, List.setIfInBounds_toArray, List.set_cons_zero, List.set_cons_succ])
                        refine wpAnyH_take (i := 15) (v := ?_) rfl (by kernel_rfl) (by kernel_rfl) (by kernel_rfl) (fun _ _ _ h => h) (Or.inl ⟨by rfl, fun wX hSw => ?_⟩) (by assumption) ?_
                        rotate_left
                        · (try dsimp only at hSw); go_simp; try with_reducible rfl
                        (try simp only [Act.put, List.getElem_toArray, List.getElem_cons_succ, List.getElem_cons_zero, List.setIfInBounds_toArray, List.set_cons_zero, List.set_cons_succ])
                        refine wpAnyH_take (i := 16) (v := ?_) rfl (by kernel_rfl) (by kernel_rfl) (by kernel_rfl) (fun _ _ _ h => h) (Or.inl ⟨by rfl, fun wX hSw => ?_⟩) (by assumption) ?_
                        rotate_left
                        · (try dsimp only at hSw); go_simp; try with_reducible rfl
                        (try simp only [Act.put, List.getElem_toArray, List.getElem_cons_succ, List.getElem_cons_zero, List.setIfInBounds_toArray, List.set_cons_zero, List.set_cons_succ])
                        refine wpAnyH_take (i := 17) (v := ?_) rfl (by kernel_rfl) (by kernel_rfl) (by kernel_rfl) (fun _ _ _ h => h) (Or.inl ⟨by rfl, fun wX hSw => ?_⟩) (by assumption) ?_
                        rotate_left
                        · (try dsimp only at hSw); go_simp; try with_reducible rfl
                        (try simp only [Act.put, List.getElem_toArray, List.getElem_cons_succ, List.getElem_cons_zero, List.setIfInBounds_toArray, List.set_cons_zero, List.set_cons_succ])
                        refine wpAnyH_take (i := 18) (v := ?_) rfl (by kernel_rfl) (by kernel_rfl) (by kernel_rfl) (fun _ _ _ h => h) (Or.inl ⟨by rfl, fun wX hSw => ?_⟩) (by assumption) ?_
                        rotate_left
                        · (try dsimp only at hSw); go_simp; try with_reducible rfl
                        (try simp only [Act.put, List.getElem_toArray, List.getElem_cons_succ, List.getElem_cons_zero, List.setIfInBounds_toArray, List.set_cons_zero, List.set_cons_succ])
                        refine wpAnyH_ready (rs := [19]) (by kernel_rfl) (by simp) ?_
                        refine AllReadyH.cons rfl (fun K hK => ?_) (AllReadyH.nil)
                        go_simp
                        ((go_at_call 20; (with_reducible refine (same10_as false W H u n s _ ta pa n fc tn tc pn pc _ w1 w2 h1 h2 HN.out hun RS).mono ?_); rintro e z ⟨rfl, hb⟩; have HJ2 : Hk (Arr z J n 3 (fun k => .int .i64 (P k))) := ⟨by first | exact HJ.out.later hb | exact HJ.out.drew.later hb⟩; have HR2 : Hk (Arp z R n rc Q) := ⟨by first | exact HR.out.later hb | exact (arp_drewW HR.out).later hb⟩; have hB2 : Hk (Below (w.heap.size + 1) (w.alloc (.cells #[.int .i64 W, .int .i64 H, .slice (some ⟨fb, fo, none⟩) n fc, .slice (ta) tn tc, .slice (pa) pn pc] 25)) z) := ⟨by first | exact kw_step HB.out hNW hb | exact kw_step HB.out.drew hNW hb⟩; clear hb; replace HB := hB2; replace HJ := HJ2; replace HR := HR2; clear hB2 HJ2 HR2; clear hc hf hl hn' hm; obtain ⟨hc, hf, hl, hn', hm⟩ := kw_rules HB.out hNW))
                        refine hK.out _ _ ?_ (fun hHeld => ?_)
                        · exact ⟨kw_S HB.out, HCU.out _ HJ.out, HCT.out _ HJ.out⟩
                        clear hK K
                        (try simp only [Act.put, List.getElem_toArray, List.getElem_cons_succ, List.getElem_cons_zero, List.setIfInBounds_toArray, List.set_cons_zero, List.set_cons_succ])
                        refine wpAnyH_take (i := 20) (v := ?_) rfl (by kernel_rfl) (by kernel_rfl) (by kernel_rfl) (fun _ _ _ h => h) (Or.inl ⟨by rfl, fun wX hSw => ?_⟩) (by assumption) ?_
                        rotate_left
                        · (try dsimp only at hSw); go_simp; try with_reducible rfl
                        (try simp only [Act.put, List.getElem_toArray, List.getElem_cons_succ, List.getElem_cons_zero, List.setIfInBounds_toArray, List.set_cons_zero, List.set_cons_succ])
                        refine wpAnyH_take (i := 21) (v := ?_) rfl (by kernel_rfl) (by kernel_rfl) (by kernel_rfl) (fun _ _ _ h => h) (Or.inl ⟨by rfl, fun wX hSw => ?_⟩) (by assumption) ?_
                        rotate_left
                        · (try dsimp only at hSw); go_simp; try with_reducible rfl
                        (try simp only [Act.put, List.getElem_toArray, List.getElem_cons_succ, List.getElem_cons_zero, List.setIfInBounds_toArray, List.set_cons_zero, List.set_cons_succ])
                        refine wpAnyH_take (i := 22) (v := undef) rfl (by kernel_rfl) (by kernel_rfl) (by kernel_rfl) (fun _ _ _ h => h) (Or.inr ⟨by rfl, rfl⟩) (by assumption) ?_
                        (try simp only [Act.put, List.getElem_toArray, List.getElem_cons_succ, List.getElem_cons_zero, List.setIfInBounds_toArray, List.set_cons_zero, List.set_cons_succ])
                        refine wpAnyH_take (i := 23) (v := undef) rfl (by kernel_rfl) (by kernel_rfl) (by kernel_rfl) (fun _ _ _ h => h) (Or.inr ⟨by rfl, rfl⟩) (by assumption) ?_
                        (try simp only [Act.put, List.getElem_toArray, List.getElem_cons_succ, List.getElem_cons_zero, List.setIfInBounds_toArray, List.set_cons_zero, List.set_cons_succ])
                        refine wpAnyH_take (i := 24) (v := undef) rfl (by kernel_rfl) (by kernel_rfl) (by kernel_rfl) (fun _ _ _ h => h) (Or.inr ⟨by rfl, rfl⟩) (by assumption) ?_
                        (try simp only [Act.put, List.getElem_toArray, List.getElem_cons_succ, List.getElem_cons_zero, List.setIfInBounds_toArray, List.set_cons_zero, List.set_cons_succ])
                        refine wpAnyH_take (i := 25) (v := undef) rfl (by kernel_rfl) (by kernel_rfl) (by kernel_rfl) (fun _ _ _ h => h) (Or.inr ⟨by rfl, rfl⟩) (by assumption) ?_
                        (try simp only [Act.put, List.getElem_toArray, List.getElem_cons_succ, List.getElem_cons_zero, List.setIfInBounds_toArray, List.set_cons_zero, List.set_cons_succ])
                        refine wpAnyH_take (i := 26) (v := undef) rfl (by kernel_rfl) (by kernel_rfl) (by kernel_rfl) (fun _ _ _ h => h) (Or.inr ⟨by rfl, rfl⟩) (by assumption) ?_
                        (try simp only [Act.put, List.getElem_toArray, List.getElem_cons_succ, List.getElem_cons_zero, List.setIfInBounds_toArray, List.set_cons_zero, List.set_cons_succ])
                        refine wpAnyH_take (i := 27) (v := undef) rfl (by kernel_rfl) (by kernel_rfl) (by kernel_rfl) (fun _ _ _ h => h) (Or.inr ⟨by rfl, rfl⟩) (by assumption) ?_
                        (try simp only [Act.put, List.getElem_toArray, List.getElem_cons_succ, List.getElem_cons_zero, List.setIfInBounds_toArray, List.set_cons_zero, List.set_cons_succ])
                        refine wpAnyH_take (i := 28) (v := undef) rfl (by kernel_rfl) (by kernel_rfl) (by kernel_rfl) (fun _ _ _ h => h) (Or.inr ⟨by rfl, rfl⟩) (by assumption) ?_
                        (try simp only [Act.put, List.getElem_toArray, List.getElem_cons_succ, List.getElem_cons_zero, List.setIfInBounds_toArray, List.set_cons_zero, List.set_cons_succ])
                        refine wpAnyH_take (i := 29) (v := undef) rfl (by kernel_rfl) (by kernel_rfl) (by kernel_rfl) (fun _ _ _ h => h) (Or.inr ⟨by rfl, rfl⟩) (by assumption) ?_
                        (try simp only [Act.put, List.getElem_toArray, List.getElem_cons_succ, List.getElem_cons_zero, List.setIfInBounds_toArray, List.set_cons_zero, List.set_cons_succ])
                        refine wpAnyH_take (i := 30) (v := undef) rfl (by kernel_rfl) (by kernel_rfl) (by kernel_rfl) (fun _ _ _ h => h) (Or.inr ⟨by rfl, rfl⟩) (by assumption) ?_
                        (try simp only [Act.put, List.getElem_toArray, List.getElem_cons_succ, List.getElem_cons_zero, List.setIfInBounds_toArray, List.set_cons_zero, List.set_cons_succ])
                        refine wpAnyH_take (i := 31) (v := ?_) rfl (by kernel_rfl) (by kernel_rfl) (by kernel_rfl) (fun _ _ _ h => h) (Or.inl ⟨by rfl, fun wX hSw => ?_⟩) (by assumption) ?_
                        rotate_left
                        · (try dsimp only at hSw); go_simp; try with_reducible rfl
                        (try simp only [Act.put, List.getElem_toArray, List.getElem_cons_succ, List.getElem_cons_zero, List.setIfInBounds_toArray, List.set_cons_zero, List.set_cons_succ])
                        refine wpAnyH_done (by kernel_rfl) ?_ _
                        go_wp2_with fail
                        go_meet
                        case rel => exact ⟨rfl, HJ, HR, HB⟩
                · have dx : decide ((t : Int) / W < H - 1) = false := decide_eq_false hx
                  as_aux_lemma =>
                    go_quiet (fail)
                    go_wp2_with fail
                    go_meet
                    case rel => exact ⟨rfl, ⟨HJ.out.drewN nq⟩, ⟨HR.out.drewN nq⟩, ⟨below_drewN HB.out nq⟩⟩
              case rest =>
              obtain ⟨rfl, HJ, HR, HB⟩ := hcut
              clear hc hf hl hn' hm
              obtain ⟨hc, hf, hl, hn', hm⟩ := kw_rules HB.out hNW
              clear g1 HU
              as_aux_lemma =>
                go_wp2_with fail
                exact ⟨⟨t + 1, R, rc, Q, rfl, by go_num, by omega, HI, HJ, HR, HB⟩, by simp [intOf]; omega⟩
    · obtain rfl : t = n := by omega
      have HQ := Hk.mk (HI.out.done w1)
      have HR2 : Hk (Arp wr R t rc P) := ⟨HR.out.congr fun k hk => (HQ.out k hk).symm⟩
      clear htn HR
      as_aux_lemma =>
        go_wp2_with (first
          | (go_at_call 12; (with_reducible refine (eqn_yes (some ⟨R, 0, none⟩) (some ⟨J, 0, none⟩) t _ _ (R + 1) (J + 1) ((List.range t).map P) _ (arp_nqW HR2.out) (HJ.out.nq (Nat.lt_succ_self J)) (by omega)).mono ?_); rintro e z ⟨rfl, mm, hz⟩; replace HB := Hk.mk (below_to HB.out hz); clear hz; clear hc hf hl hn' hm; obtain ⟨hc, hf, hl, hn', hm⟩ := kw_rules HB.out hNW)
          | (go_at_call 15; (with_reducible refine (wakes10_any _).mono ?_); rintro e z ⟨rfl, hb⟩; replace HB := Hk.mk (kw_step HB.out hNW hb); clear hb; clear hc hf hl hn' hm; obtain ⟨hc, hf, hl, hn', hm⟩ := kw_rules HB.out hNW))
        go_ret
        exact ⟨rfl, HTR.out _ HB.out⟩
end Go.Proofs.Ytifnmgbeepgfiaa
