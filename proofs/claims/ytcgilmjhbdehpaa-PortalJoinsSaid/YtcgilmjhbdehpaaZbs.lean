import Derived.Deep.QuietTactic
import Derived.BigQuiet
import Derived.Deep.RegionWith
import Derived.Deep.RegionHeld3
import Derived.Deep.DeepCutAuto
import Derived.Deep.DeepFit
import Derived.Outline
import Derived.Test.YtcgilmjhbdehpaaZbr
/- Layer 11: PortalJoins where the map may be: the walk. -/
namespace Go.Proofs.Ytcgilmjhbdehpaa
open Go.ChangeShapes Go.WideShapes Go.ChangeAt Go.RowKit Go.Deep
set_option linter.unusedVariables false
set_option linter.unusedSimpArgs false
theorem q_later {w w' : World} {S : Nat} {a : Option Addr} {L : List (Int × Int × Int)} (h : Ptq w S a L ∧ S ≤ w.heap.size) (hb : Below w.heap.size w w') : Ptq w' S a L ∧ S ≤ w'.heap.size := ⟨h.1.below hb h.2, Nat.le_trans h.2 hb.size⟩
theorem q_drew {w : World} {S : Nat} {a : Option Addr} {L : List (Int × Int × Int)} (h : Ptq w S a L ∧ S ≤ w.heap.size) : Ptq w.drew S a L ∧ S ≤ w.drew.heap.size := h
theorem q_drewN {w : World} {S : Nat} {a : Option Addr} {L : List (Int × Int × Int)} (h : Ptq w S a L ∧ S ≤ w.heap.size) (m : Nat) : Ptq (w.drewN m) S a L ∧ S ≤ (w.drewN m).heap.size := h
theorem ptq_at {w : World} {B pb po : Nat} {L : List (Int × Int × Int)} (h : Ptq w B (some ⟨pb, po, none⟩) L) (k : Nat) (hk : k < L.length) : w.cell? ⟨pb, po + k * 3, none⟩ = some (.int .i64 L[k].1) ∧ w.cell? ⟨pb, po + k * 3 + 1, none⟩ = some (.int .i64 L[k].2.1) ∧ w.cell? ⟨pb, po + k * 3 + 2, none⟩ = some (.int .i64 L[k].2.2) := by
  obtain ⟨b, off, e, _, hc⟩ := h (by omega)
  injection e with e
  injection e with e1 e2
  subst e1
  subst e2
  exact hc k hk
theorem nx_le {i n : Nat} (h : i < n) : i + 1 ≤ n := h
theorem nx_ms {i n : Nat} (h : i < n) : n - (intOf (.int .i64 ((i : Int) + 1))).toNat < n - (intOf (.int .i64 (i : Int))).toNat := by simp [intOf]; omega
theorem nx_ms' {i n : Nat} (h : i < n) : n - (intOf (.int .i64 ((i + 1 : Nat) : Int))).toNat < n - (intOf (.int .i64 (i : Int))).toNat := by simp [intOf]; omega
/-- Is it found among the first i? -/
def fndP (P : Nat → Int) (L : List (Int × Int × Int)) (t u i : Nat) : Bool := (L.take i).any fun p => decide (P p.1.toNat = P t) && decide (P p.2.1.toNat = P u)
theorem fndP_step (P : Nat → Int) {L : List (Int × Int × Int)} {t u i a b : Nat} (h : i < L.length) (ha : (L[i]'h).1 = (a : Int)) (hb : (L[i]'h).2.1 = (b : Int)) : fndP P L t u (i + 1) = (fndP P L t u i || (decide (P a = P t) && decide (P b = P u))) := by
  unfold fndP
  rw [List.take_succ_eq_append_getElem h, List.any_append]
  congr 1
  show ((decide (P (L[i]'h).1.toNat = P t) && decide (P (L[i]'h).2.1.toNat = P u)) || false) = _
  rw [ha, hb, Int.toNat_natCast, Int.toNat_natCast, Bool.or_false]
theorem fndP_end {P : Nat → Int} {L A : List (Int × Int × Int)} {n t u : Nat} (hm : ∀ p, p ∈ A → p ∈ L) (h : Joins n P A t u) : fndP P L t u L.length = true := by
  obtain ⟨p, hp, a, b, e1, e2, _, _, e3, e4⟩ := h
  unfold fndP
  rw [List.take_length]
  refine List.any_eq_true.2 ⟨p, hm p hp, ?_⟩
  rw [e1, e2, Int.toNat_natCast, Int.toNat_natCast, e3, e4]; simp
theorem ok_in {fr : Nat → Bool} {Wn Hn : Nat} {p : Int × Int × Int} (h : OkP fr Wn Hn p) : ∃ a b : Nat, p.1 = (a : Int) ∧ p.2.1 = (b : Int) ∧ a < Wn * Hn ∧ b < Wn * Hn := by
  obtain ⟨_, _, t, e, h | h⟩ := h
  · exact ⟨t, _, e, h.2.1, by omega, h.2.2⟩
  · exact ⟨t, _, e, h.2.1, by omega, h.2.2⟩
theorem find_yesJ (W H : Int) (Wn Hn : Nat) (eW : W = (Wn : Int)) (eH : H = (Hn : Int)) (fb fo fc n : Nat) (fr : Nat → Bool) (w : World) (w1 : 1 ≤ W) (w2 : W ≤ 128) (h1 : 1 ≤ H) (h2 : H ≤ 128) (hn : (n : Int) = W * H) (hfl : fb < w.heap.size) (hF : ∀ k, k < n → w.cell? ⟨fb, fo + k, none⟩ = some (.bool (fr k))) :
    Calls Try.prog 12 #[.int .i64 W, .int .i64 H, .slice (some ⟨fb, fo, none⟩) n fc] w fun e w' => ∃ (a : Option Addr) (c : Nat) (L : List (Int × Int × Int)), e = .returned (.tuple #[.slice a L.length c, .int .i64 0]) ∧ (L.Perm (allP fr Wn Hn) ∧ L.length ≤ 5000) ∧ Ptq w' w'.heap.size a L ∧ Below w.heap.size w w' := by
  subst eW
  subst eH
  have hn2 : n = Wn * Hn := by
    have : (n : Int) = ((Wn * Hn : Nat) : Int) := by rw [hn]; push_cast; rfl
    omega
  refine (find_yes Wn Hn fb fo fc n fr w (by omega) (by omega) (by omega) (by omega) hn2 hfl hF).mono ?_
  rintro e z ⟨a, c, L, rfl, hp, hs, ho, hb⟩
  exact ⟨a, c, L, rfl, ⟨hp, (LstP.of (by omega) (by omega) (by omega) hp hs).len⟩, ptq_own ho, hb⟩
set_option maxRecDepth 1000000 in
set_option maxHeartbeats 40000000 in
theorem portalJoins_yes (W H : Int) (Wn Hn : Nat) (eW : W = (Wn : Int)) (eH : H = (Hn : Int)) (fb fo fc n : Nat) (fr : Nat → Bool) (ta : Option Addr) (tn tc : Nat) (pa : Option Addr) (pn pc : Nat) (w : World) (hfs : n ≤ 900) (hfl : fb < w.heap.size) (hF : ∀ k, k < n → w.cell? ⟨fb, fo + k, none⟩ = some (.bool (fr k))) (w1 : 1 ≤ W) (w2 : W ≤ 128) (h1 : 1 ≤ H) (h2 : H ≤ 128) (hn : (n : Int) = W * H) :
    Calls Try.prog 5 #[.agg #[.int .i64 W, .int .i64 H, .slice (some ⟨fb, fo, none⟩) n fc, .slice (ta) tn tc, .slice (pa) pn pc]] w fun e w' => e = .returned (.bool true) ∧ Below w.heap.size w w' := by
  have HWB : Hk (Below w.heap.size w (w.alloc (.cells #[.int .i64 W, .int .i64 H, .slice (some ⟨fb, fo, none⟩) n fc, .slice (ta) tn tc, .slice (pa) pn pc] 25))) := ⟨(Below.refl _ _).alloc (Nat.le_refl _) _⟩
  have hNW : (w.heap.size + 1) ≤ (w.alloc (.cells #[.int .i64 W, .int .i64 H, .slice (some ⟨fb, fo, none⟩) n fc, .slice (ta) tn tc, .slice (pa) pn pc] 25)).heap.size := by simp
  have HB : Hk (Below (w.heap.size + 1) (w.alloc (.cells #[.int .i64 W, .int .i64 H, .slice (some ⟨fb, fo, none⟩) n fc, .slice (ta) tn tc, .slice (pa) pn pc] 25)) (w.alloc (.cells #[.int .i64 W, .int .i64 H, .slice (some ⟨fb, fo, none⟩) n fc, .slice (ta) tn tc, .slice (pa) pn pc] 25))) := ⟨Below.refl _ _⟩
  have HTR : Hk (∀ X, Below (w.heap.size + 1) (w.alloc (.cells #[.int .i64 W, .int .i64 H, .slice (some ⟨fb, fo, none⟩) n fc, .slice (ta) tn tc, .slice (pa) pn pc] 25)) X → Below w.heap.size w X) := ⟨fun X hX => HWB.out.trans (hX.mono (by omega))⟩
  have HFR := Hk.mk (fun (X : World) (hX : Below (w.heap.size + 1) (w.alloc (.cells #[.int .i64 W, .int .i64 H, .slice (some ⟨fb, fo, none⟩) n fc, .slice (ta) tn tc, .slice (pa) pn pc] 25)) X) (k : Nat) (hk : k < n) => ((HTR.out X hX).cell (p := ⟨fb, fo + k, none⟩) hfl).trans (hF k hk))
  have HN := Hk.mk hn
  have e1 : IntKind.i64.wrap (W * H) = (n : Int) := by rw [← hn]; exact wr_in' (by omega)
  have hfb1 : fb < w.heap.size + 1 := by omega
  have hNN : n = Wn * Hn := by
    have : (n : Int) = ((Wn * Hn : Nat) : Int) := by rw [hn, eW, eH]; push_cast; rfl
    omega
  have HNN := Hk.mk hNN
  have HEW := Hk.mk eW
  have HEH := Hk.mk eH
  have gw : IntKind.i64.wrap (W - 1) = W - 1 := wr_in' (by omega)
  have gh : IntKind.i64.wrap (H - 1) = H - 1 := wr_in' (by omega)
  have hw0 : ¬ W = 0 := by omega
  clear hF hn hNN eW eH
  obtain ⟨hc, hf, hl, hn', hm⟩ := kw_rules HB.out hNW
  go_enter Try.func5, Try.ntmps5
  go_wp2_with (first
    | (go_at_call 8; (with_reducible refine (heavy11_any W H _ ta pa n fc tn tc pn pc _ false (decide_eq_false (by omega))).mono ?_); rintro e z ⟨rfl, hb⟩; replace HB := Hk.mk (kw_step HB.out hNW hb); clear hb; clear hc hf hl hn' hm; obtain ⟨hc, hf, hl, hn', hm⟩ := kw_rules HB.out hNW)
    | (go_at_call 12; (with_reducible refine (find_yesJ W H Wn Hn HEW.out HEH.out fb fo fc n fr _ w1 w2 h1 h2 HN.out (Nat.lt_of_lt_of_le hfl (HTR.out _ HB.out).size) (HFR.out _ HB.out)).mono ?_); rintro e z ⟨pa0, pc0, L, rfl, hls, hpq, hb⟩; have HL := Hk.mk hls; have HQ0 := Hk.mk hpq; clear hls hpq; replace HB := Hk.mk (kw_step HB.out hNW hb); clear hb; clear hc hf hl hn' hm; obtain ⟨hc, hf, hl, hn', hm⟩ := kw_rules HB.out hNW)
    | (go_at_call 19; (with_reducible refine (sparts_any W H fb fo n fc fr _ w1 w2 h1 h2 HN.out (HFR.out _ HB.out) (Nat.lt_of_lt_of_le hfl (HTR.out _ HB.out).size)).mono ?_); rintro e z2 ⟨J, PV, rfl, hg2, hA2, hp2, hb⟩; have HA := Hk.mk hA2; have HP := Hk.mk hp2; replace HQ0 := Hk.mk (HQ0.out.below hb (Nat.le_refl _)); have HS2 := Hk.mk hb.size; clear hA2 hp2 hg2; replace HB := Hk.mk (kw_step HB.out hNW hb); clear hb; clear hc hf hl hn' hm; obtain ⟨hc, hf, hl, hn', hm⟩ := kw_rules HB.out hNW)
    | (go_at_call 13; (with_reducible refine (num11_any _ _).mono ?_); rintro e z2 ⟨rfl, hz⟩; rw [hz]; clear hz z2))
  obtain ⟨wo, rfl⟩ : ∃ wo : World, wo = z2 := ⟨z2, rfl⟩
  obtain ⟨SZ, hSZ⟩ : ∃ S, S = z.heap.size := ⟨_, rfl⟩
  have HQ : Hk (Ptq wo SZ pa0 L ∧ SZ ≤ wo.heap.size) := ⟨by rw [hSZ]; exact ⟨HQ0.out, HS2.out⟩⟩
  have HOK : Hk (∀ p, p ∈ L → ∃ a b : Nat, p.1 = (a : Int) ∧ p.2.1 = (b : Int) ∧ a < n ∧ b < n) := ⟨fun p hp => by rw [HNN.out]; exact ok_in (all_ok p (HL.out.1.mem_iff.1 hp))⟩
  have HSB : Hk (∀ p, p ∈ allP fr Wn Hn → p ∈ L) := ⟨fun p hp => HL.out.1.mem_iff.2 hp⟩
  have hWn : 1 ≤ Wn := by have := HEW.out; omega
  clear HQ0 hSZ HS2
  go_loopw [7] (fun tt wr => ∃ t : Nat, tt = .int .i64 t ∧ t ≤ n ∧ Hk (Ptq wr SZ pa0 L ∧ SZ ≤ (wr).heap.size) ∧ Hk (Arr wr J n 3 (fun k => .int .i64 (PV k))) ∧ Hk (Below (w.heap.size + 1) (w.alloc (.cells #[.int .i64 W, .int .i64 H, .slice (some ⟨fb, fo, none⟩) n fc, .slice (ta) tn tc, .slice (pa) pn pc] 25)) wr)) (fun tt _ => n - (intOf tt).toNat)
  case atStart => exact ⟨0, rfl, by omega, HQ, HA, HB⟩
  case round =>
    clear HQ HA HB
    obtain ⟨t, rfl, ht, HQ, HA, HB⟩ := hrel
    clear hc hf hl hn' hm
    obtain ⟨hc, hf, hl, hn', hm⟩ := kw_rules HB.out hNW
    by_cases htn : t < n
    · have t0 : (0 : Int) ≤ (t : Int) := by omega
      have t1 : (t : Int) < (n : Int) := by omega
      obtain ⟨s, hs⟩ : ∃ s, Fx.ofS W (t : Nat) = s := ⟨_, rfl⟩
      have ES := Hk.mk hs
      clear hs
      have a0 := Int.emod_nonneg (t : Int) (show W ≠ 0 by omega)
      have a1 := Int.emod_lt_of_pos (t : Int) (show 0 < W by omega)
      have b0 : 0 ≤ (t : Int) / W := Int.ediv_nonneg (by omega) (by omega)
      have b2 : (t : Int) / W ≤ t := Int.ediv_le_self _ (by omega)
      have g3 : IntKind.i64.wrap ((t : Int) / W) = (t : Int) / W := wr_in' (by omega)
      have tm : (t : Int).tmod W = (t : Int) % W := Int.tmod_eq_emod_of_nonneg (by omega)
      have td : (t : Int).tdiv W = (t : Int) / W := Int.tdiv_eq_ediv_of_nonneg (by omega)
      have g4 : IntKind.i64.wrap ((t : Int) % W) = (t : Int) % W := wr_in' (by omega)
      have HX : Hk (∀ h : ¬ (t : Int) % W = W - 1, (t : Int) % W < W - 1) := ⟨fun h => by omega⟩
      have y1 : (t : Int) / W < H := Int.ediv_lt_of_lt_mul (by omega) (by rw [Int.mul_comm]; have := HN.out; omega)
      have HY : Hk (∀ h : ¬ (t : Int) / W = H - 1, (t : Int) / W < H - 1) := ⟨fun h => by omega⟩
      have gt : IntKind.i64.wrap ((t : Int) + 1) = ((t + 1 : Nat) : Int) := by push_cast; exact wr_in' (by omega)
      clear a0 a1 b0 b2 y1
      as_aux_lemma =>
        go_wp2_with fail
        obtain ⟨wk, rfl⟩ : ∃ wk : World, wk = wr := ⟨wr, rfl⟩
        go_loopw [8] (fun kk wr => ∃ k : Nat, kk = .int .i64 k ∧ k ≤ 2 ∧ Hk (Ptq wr SZ pa0 L ∧ SZ ≤ (wr).heap.size) ∧ Hk (Arr wr J n 3 (fun k => .int .i64 (PV k))) ∧ Hk (Below (w.heap.size + 1) (w.alloc (.cells #[.int .i64 W, .int .i64 H, .slice (some ⟨fb, fo, none⟩) n fc, .slice (ta) tn tc, .slice (pa) pn pc] 25)) wr)) (fun kk _ => 2 - (intOf kk).toNat)
        case atStart => exact ⟨0, rfl, by omega, HQ, HA, HB⟩
        case round =>
          clear HQ HA HB
          obtain ⟨k, rfl, hk, HQ, HA, HB⟩ := hrel
          clear hc hf hl hn' hm
          obtain ⟨hc, hf, hl, hn', hm⟩ := kw_rules HB.out hNW
          by_cases hk2 : k < 2
          · have k0 : (0 : Int) ≤ (k : Int) := by omega
            have k1 : (k : Int) < 2 := by omega
            by_cases hk0 : k = 0
            · have hkq : ((k : Int) == 1) = false := by simp; omega
              have hkd : decide ((k : Int) = 1) = false := decide_eq_false (by omega)
              have hkn : ¬ k = 1 := by omega
              clear gt hk0
              obtain ⟨u, hu⟩ : ∃ u : Nat, u = t + 1 := ⟨_, rfl⟩
              have g1 : IntKind.i64.wrap ((t : Int) + 1) = (u : Int) := by rw [hu]; push_cast; exact wr_in' (by omega)
              have HU := Hk.mk hu
              clear hu
              by_cases hx : (t : Int) % W = W - 1
              · have dx : decide ((t : Int) % W = W - 1) = true := decide_eq_true hx
                have dxn := hx
                clear hx
                as_aux_lemma =>
                  go_upto_region 19 with fail
                  go_quiet (fail)
                  replace HQ := Hk.mk (q_drewN HQ.out nq)
                  replace HA := Hk.mk (HA.out.drewN nq)
                  replace HB := Hk.mk (below_drewN HB.out nq)
                  go_wp2_with fail
                  exact ⟨⟨k + 1, by go_num, nx_le hk2, HQ, HA, HB⟩, by first | exact nx_ms hk2 | exact nx_ms' hk2⟩
              · have dx : decide ((t : Int) % W = W - 1) = false := decide_eq_false hx
                have hun : u < n := (by rw [HU.out]; exact rgt_in w1 HN.out htn (HX.out hx))
                have u0 : (0 : Int) ≤ (u : Int) := by omega
                have u1 : (u : Int) < (n : Int) := by omega
                obtain ⟨z0, hz0⟩ : ∃ z, Fx.ofS W (u : Nat) = z := ⟨_, rfl⟩
                have EZ := Hk.mk hz0
                clear hz0
                obtain ⟨r, hr⟩ : ∃ r, rgP fr Wn t = r := ⟨_, rfl⟩
                have RS : Hk ((fr t && fr u && !(decide (s = z0))) = r) := ⟨by rw [← hr]; (exact by have hu := HU.out; subst hu; exact rg_on HEW.out w1 (HX.out hx) ES EZ)⟩
                have HJ : Hk (r = true → fndP PV L t u L.length = true) := ⟨fun h => by rw [h] at hr; exact (by have := fndP_end HSB.out (rg_join HEW.out HNN.out hWn HP.out htn hr); rw [HU.out]; exact this)⟩
                clear hr
                have hxn := hx
                clear hx
                as_aux_lemma =>
                  go_upto_region 19 with fail
                  go_quiet (fail)
                  replace HQ := Hk.mk (q_drewN HQ.out nq)
                  replace HA := Hk.mk (HA.out.drewN nq)
                  replace HB := Hk.mk (below_drewN HB.out nq)
                  clear hc hf hl hn' hm
                  generalize World.drewN _ nq = VR at *
                  obtain ⟨hc, hf, hl, hn', hm⟩ := kw_rules HB.out hNW
                  go_upto_region 20 with fail
                  cases r
                  · as_aux_lemma =>
                      go_wp2_with (go_at_call 18; (with_reducible refine (apart11_any W H t u n s z0 fb fo fc ta pa tn tc pn pc (fr t) (fr u) _ w1 w2 h1 h2 HN.out htn hun (by first | exact Nat.lt_of_lt_of_le hfl (HTR.out _ HB.out).size | exact Nat.lt_of_lt_of_le hfl (HTR.out _ HB.out.drew).size) (by first | exact HFR.out _ HB.out t htn | exact HFR.out _ HB.out.drew t htn) (by first | exact HFR.out _ HB.out u hun | exact HFR.out _ HB.out.drew u hun) ES EZ false RS.out).mono ?_); rintro e z ⟨rfl, hb⟩; have HQ2 : Hk (Ptq z SZ pa0 L ∧ SZ ≤ z.heap.size) := ⟨by first | exact q_later HQ.out hb | exact q_later (q_drew HQ.out) hb⟩; have HA2 : Hk (Arr z J n 3 (fun k => .int .i64 (PV k))) := ⟨by first | exact HA.out.later hb | exact HA.out.drew.later hb⟩; have hB2 : Hk (Below (w.heap.size + 1) (w.alloc (.cells #[.int .i64 W, .int .i64 H, .slice (some ⟨fb, fo, none⟩) n fc, .slice (ta) tn tc, .slice (pa) pn pc] 25)) z) := ⟨by first | exact kw_step HB.out hNW hb | exact kw_step HB.out.drew hNW hb⟩; clear hb; replace HB := hB2; replace HQ := HQ2; replace HA := HA2; clear hB2 HQ2 HA2; clear hc hf hl hn' hm; obtain ⟨hc, hf, hl, hn', hm⟩ := kw_rules HB.out hNW)
                      exact ⟨⟨k + 1, by go_num, nx_le hk2, HQ, HA, HB⟩, by first | exact nx_ms hk2 | exact nx_ms' hk2⟩
                  · as_aux_lemma =>
                      go_wp2_with (go_at_call 18; (with_reducible refine (apart11_any W H t u n s z0 fb fo fc ta pa tn tc pn pc (fr t) (fr u) _ w1 w2 h1 h2 HN.out htn hun (by first | exact Nat.lt_of_lt_of_le hfl (HTR.out _ HB.out).size | exact Nat.lt_of_lt_of_le hfl (HTR.out _ HB.out.drew).size) (by first | exact HFR.out _ HB.out t htn | exact HFR.out _ HB.out.drew t htn) (by first | exact HFR.out _ HB.out u hun | exact HFR.out _ HB.out.drew u hun) ES EZ true RS.out).mono ?_); rintro e z ⟨rfl, hb⟩; have HQ2 : Hk (Ptq z SZ pa0 L ∧ SZ ≤ z.heap.size) := ⟨by first | exact q_later HQ.out hb | exact q_later (q_drew HQ.out) hb⟩; have HA2 : Hk (Arr z J n 3 (fun k => .int .i64 (PV k))) := ⟨by first | exact HA.out.later hb | exact HA.out.drew.later hb⟩; have hB2 : Hk (Below (w.heap.size + 1) (w.alloc (.cells #[.int .i64 W, .int .i64 H, .slice (some ⟨fb, fo, none⟩) n fc, .slice (ta) tn tc, .slice (pa) pn pc] 25)) z) := ⟨by first | exact kw_step HB.out hNW hb | exact kw_step HB.out.drew hNW hb⟩; clear hb; replace HB := hB2; replace HQ := HQ2; replace HA := HA2; clear hB2 HQ2 HA2; clear hc hf hl hn' hm; obtain ⟨hc, hf, hl, hn', hm⟩ := kw_rules HB.out hNW)
                      obtain ⟨wq, rfl⟩ : ∃ wq : World, wq = z := ⟨z, rfl⟩
                      go_loopw [10, 11] (fun ff ii wr => ∃ i : Nat, ff = .bool (fndP PV L t u i) ∧ ii = .int .i64 i ∧ i ≤ L.length ∧ Hk (Ptq wr SZ pa0 L ∧ SZ ≤ (wr).heap.size) ∧ Hk (Arr wr J n 3 (fun k => .int .i64 (PV k))) ∧ Hk (Below (w.heap.size + 1) (w.alloc (.cells #[.int .i64 W, .int .i64 H, .slice (some ⟨fb, fo, none⟩) n fc, .slice (ta) tn tc, .slice (pa) pn pc] 25)) wr)) (fun _ ii _ => L.length - (intOf ii).toNat)
                      case atStart => exact ⟨0, rfl, rfl, by omega, HQ, HA, HB⟩
                      case round =>
                        clear HQ HA HB
                        obtain ⟨i, rfl, rfl, hi, HQ, HA, HB⟩ := hrel
                        clear hc hf hl hn' hm
                        obtain ⟨hc, hf, hl, hn', hm⟩ := kw_rules HB.out hNW
                        by_cases hil : i < L.length
                        · obtain ⟨pb, po, rfl, hpb, hno⟩ := HQ.out.1 (by omega)
                          clear hno
                          obtain ⟨a, b, ha, hb', han, hbn⟩ := HOK.out (L[i]'hil) (List.getElem_mem hil)
                          obtain ⟨c0, c1, c2⟩ := ptq_at HQ.out.1 i hil
                          have hst := fndP_step PV hil ha hb' (t := t) (u := u)
                          have HST := Hk.mk hst
                          rw [ha] at c0
                          rw [hb'] at c1
                          clear ha hb' c2 hst
                          have gi : IntKind.i64.wrap ((i : Int) + 1) = ((i + 1 : Nat) : Int) := by push_cast; have := HL.out.2; exact wr_in' (by omega)
                          have i1 : (0 : Int) ≤ (i : Int) := by omega
                          have i2 : (i : Int) < (L.length : Int) := by omega
                          have a1 : (0 : Int) ≤ (a : Int) := by omega
                          have a2 : (a : Int) < (n : Int) := by omega
                          have b1' : (0 : Int) ≤ (b : Int) := by omega
                          have b2 : (b : Int) < (n : Int) := by omega
                          have ca := HA.out.cell han
                          have cb := HA.out.cell hbn
                          have ct := HA.out.cell htn
                          have cu := HA.out.cell hun
                          have e1d : decide ((a : Int) < 0) = false := decide_eq_false (by omega)
                          have e2d : decide ((n : Int) ≤ (a : Int)) = false := decide_eq_false (by omega)
                          have e2n : ¬ n ≤ a := by omega
                          have e3d : decide ((b : Int) < 0) = false := decide_eq_false (by omega)
                          have e4d : decide ((n : Int) ≤ (b : Int)) = false := decide_eq_false (by omega)
                          have e4n : ¬ n ≤ b := by omega
                          clear hpb
                          obtain ⟨fd, hfd⟩ : ∃ fd, fndP PV L t u i = fd := ⟨_, rfl⟩
                          rw [hfd]
                          replace HST : Hk (fndP PV L t u (i + 1) = (fd || (decide (PV a = PV t) && decide (PV b = PV u)))) := ⟨by rw [← hfd]; exact HST.out⟩
                          clear hfd
                          have hax : @decide (a < 0) (Nat.decLt a 0) = false := by simp
                          as_aux_lemma =>
                            go_upto_region 27 with fail
                            cases fd
                            · by_cases q1 : PV a = PV t
                              · have q1d : decide (PV a = PV t) = true := decide_eq_true q1; have q1b : (PV a == PV t) = true := beq_iff_eq.2 q1
                                rw [q1d] at HST
                                by_cases q2 : PV b = PV u
                                · have q2d : decide (PV b = PV u) = true := decide_eq_true q2; have q2b : (PV b == PV u) = true := beq_iff_eq.2 q2
                                  rw [q2d] at HST
                                  as_aux_lemma =>
                                    go_quiet (fail)
                                    replace HQ := Hk.mk (q_drewN HQ.out nq)
                                    replace HA := Hk.mk (HA.out.drewN nq)
                                    replace HB := Hk.mk (below_drewN HB.out nq)
                                    go_wp2_with fail
                                    exact ⟨⟨i + 1, by rw [HST.out]; rfl, by go_num, nx_le hil, HQ, HA, HB⟩, by first | exact nx_ms hil | exact nx_ms' hil⟩
                                · have q2d : decide (PV b = PV u) = false := decide_eq_false q2; have q2b : (PV b == PV u) = false := beq_eq_false_iff_ne.2 q2
                                  rw [q2d] at HST
                                  as_aux_lemma =>
                                    go_quiet (fail)
                                    replace HQ := Hk.mk (q_drewN HQ.out nq)
                                    replace HA := Hk.mk (HA.out.drewN nq)
                                    replace HB := Hk.mk (below_drewN HB.out nq)
                                    go_wp2_with fail
                                    exact ⟨⟨i + 1, by rw [HST.out]; rfl, by go_num, nx_le hil, HQ, HA, HB⟩, by first | exact nx_ms hil | exact nx_ms' hil⟩
                              · have q1d : decide (PV a = PV t) = false := decide_eq_false q1; have q1b : (PV a == PV t) = false := beq_eq_false_iff_ne.2 q1
                                rw [q1d] at HST
                                as_aux_lemma =>
                                  go_quiet (fail)
                                  replace HQ := Hk.mk (q_drewN HQ.out nq)
                                  replace HA := Hk.mk (HA.out.drewN nq)
                                  replace HB := Hk.mk (below_drewN HB.out nq)
                                  go_wp2_with fail
                                  exact ⟨⟨i + 1, by rw [HST.out]; rfl, by go_num, nx_le hil, HQ, HA, HB⟩, by first | exact nx_ms hil | exact nx_ms' hil⟩
                            · as_aux_lemma =>
                                go_quiet (fail)
                                replace HQ := Hk.mk (q_drewN HQ.out nq)
                                replace HA := Hk.mk (HA.out.drewN nq)
                                replace HB := Hk.mk (below_drewN HB.out nq)
                                go_wp2_with fail
                                exact ⟨⟨i + 1, by rw [HST.out]; rfl, by go_num, nx_le hil, HQ, HA, HB⟩, by first | exact nx_ms hil | exact nx_ms' hil⟩
                        · obtain rfl : i = L.length := by omega
                          have hjn := HJ.out (by first | rfl | trivial)
                          rw [hjn]
                          clear hil hi hjn
                          as_aux_lemma =>
                            go_wp2_with fail
                            exact ⟨⟨k + 1, by go_num, nx_le hk2, HQ, HA, HB⟩, by first | exact nx_ms hk2 | exact nx_ms' hk2⟩
            · have hkq : ((k : Int) == 1) = true := by simp; omega
              have hkd : decide ((k : Int) = 1) = true := decide_eq_true (by omega)
              clear hk0
              obtain ⟨u, hu⟩ : ∃ u : Nat, u = t + Wn := ⟨_, rfl⟩
              have huI : (u : Int) = t + W := by rw [HEW.out, hu]; push_cast; rfl
              have g1 : IntKind.i64.wrap ((t : Int) + W) = (u : Int) := by rw [huI]; exact wr_in' (by omega)
              have HU := Hk.mk hu
              have HUI := Hk.mk huI
              clear hu huI
              by_cases hx : (t : Int) / W = H - 1
              · have dx : decide ((t : Int) / W = H - 1) = true := decide_eq_true hx
                have dxn := hx
                clear hx
                as_aux_lemma =>
                  go_upto_region 18 with fail
                  go_quiet (fail)
                  replace HQ := Hk.mk (q_drewN HQ.out nq)
                  replace HA := Hk.mk (HA.out.drewN nq)
                  replace HB := Hk.mk (below_drewN HB.out nq)
                  go_wp2_with fail
                  exact ⟨⟨k + 1, by go_num, nx_le hk2, HQ, HA, HB⟩, by first | exact nx_ms hk2 | exact nx_ms' hk2⟩
              · have dx : decide ((t : Int) / W = H - 1) = false := decide_eq_false hx
                have hun : u < n := (dwn_in w1 HN.out htn (HY.out hx) HUI.out)
                have u0 : (0 : Int) ≤ (u : Int) := by omega
                have u1 : (u : Int) < (n : Int) := by omega
                obtain ⟨z0, hz0⟩ : ∃ z, Fx.ofS W (u : Nat) = z := ⟨_, rfl⟩
                have EZ := Hk.mk hz0
                clear hz0
                obtain ⟨r, hr⟩ : ∃ r, dnP fr Wn Hn t = r := ⟨_, rfl⟩
                have RS : Hk ((fr t && fr u && !(decide (s = z0))) = r) := ⟨by rw [← hr]; (exact dn_on HEW.out HEH.out w1 (HY.out hx) HUI.out ES EZ)⟩
                have HJ : Hk (r = true → fndP PV L t u L.length = true) := ⟨fun h => by rw [h] at hr; exact (by have := fndP_end HSB.out (dn_join HEW.out HNN.out hWn HP.out htn hr); rw [HU.out]; exact this)⟩
                clear hr
                have hxn := hx
                clear hx
                as_aux_lemma =>
                  go_upto_region 18 with fail
                  go_quiet (fail)
                  replace HQ := Hk.mk (q_drewN HQ.out nq)
                  replace HA := Hk.mk (HA.out.drewN nq)
                  replace HB := Hk.mk (below_drewN HB.out nq)
                  clear hc hf hl hn' hm
                  generalize World.drewN _ nq = VR at *
                  obtain ⟨hc, hf, hl, hn', hm⟩ := kw_rules HB.out hNW
                  go_upto_region 20 with fail
                  cases r
                  · as_aux_lemma =>
                      go_wp2_with (go_at_call 18; (with_reducible refine (apart11_any W H t u n s z0 fb fo fc ta pa tn tc pn pc (fr t) (fr u) _ w1 w2 h1 h2 HN.out htn hun (by first | exact Nat.lt_of_lt_of_le hfl (HTR.out _ HB.out).size | exact Nat.lt_of_lt_of_le hfl (HTR.out _ HB.out.drew).size) (by first | exact HFR.out _ HB.out t htn | exact HFR.out _ HB.out.drew t htn) (by first | exact HFR.out _ HB.out u hun | exact HFR.out _ HB.out.drew u hun) ES EZ false RS.out).mono ?_); rintro e z ⟨rfl, hb⟩; have HQ2 : Hk (Ptq z SZ pa0 L ∧ SZ ≤ z.heap.size) := ⟨by first | exact q_later HQ.out hb | exact q_later (q_drew HQ.out) hb⟩; have HA2 : Hk (Arr z J n 3 (fun k => .int .i64 (PV k))) := ⟨by first | exact HA.out.later hb | exact HA.out.drew.later hb⟩; have hB2 : Hk (Below (w.heap.size + 1) (w.alloc (.cells #[.int .i64 W, .int .i64 H, .slice (some ⟨fb, fo, none⟩) n fc, .slice (ta) tn tc, .slice (pa) pn pc] 25)) z) := ⟨by first | exact kw_step HB.out hNW hb | exact kw_step HB.out.drew hNW hb⟩; clear hb; replace HB := hB2; replace HQ := HQ2; replace HA := HA2; clear hB2 HQ2 HA2; clear hc hf hl hn' hm; obtain ⟨hc, hf, hl, hn', hm⟩ := kw_rules HB.out hNW)
                      exact ⟨⟨k + 1, by go_num, nx_le hk2, HQ, HA, HB⟩, by first | exact nx_ms hk2 | exact nx_ms' hk2⟩
                  · as_aux_lemma =>
                      go_wp2_with (go_at_call 18; (with_reducible refine (apart11_any W H t u n s z0 fb fo fc ta pa tn tc pn pc (fr t) (fr u) _ w1 w2 h1 h2 HN.out htn hun (by first | exact Nat.lt_of_lt_of_le hfl (HTR.out _ HB.out).size | exact Nat.lt_of_lt_of_le hfl (HTR.out _ HB.out.drew).size) (by first | exact HFR.out _ HB.out t htn | exact HFR.out _ HB.out.drew t htn) (by first | exact HFR.out _ HB.out u hun | exact HFR.out _ HB.out.drew u hun) ES EZ true RS.out).mono ?_); rintro e z ⟨rfl, hb⟩; have HQ2 : Hk (Ptq z SZ pa0 L ∧ SZ ≤ z.heap.size) := ⟨by first | exact q_later HQ.out hb | exact q_later (q_drew HQ.out) hb⟩; have HA2 : Hk (Arr z J n 3 (fun k => .int .i64 (PV k))) := ⟨by first | exact HA.out.later hb | exact HA.out.drew.later hb⟩; have hB2 : Hk (Below (w.heap.size + 1) (w.alloc (.cells #[.int .i64 W, .int .i64 H, .slice (some ⟨fb, fo, none⟩) n fc, .slice (ta) tn tc, .slice (pa) pn pc] 25)) z) := ⟨by first | exact kw_step HB.out hNW hb | exact kw_step HB.out.drew hNW hb⟩; clear hb; replace HB := hB2; replace HQ := HQ2; replace HA := HA2; clear hB2 HQ2 HA2; clear hc hf hl hn' hm; obtain ⟨hc, hf, hl, hn', hm⟩ := kw_rules HB.out hNW)
                      obtain ⟨wq, rfl⟩ : ∃ wq : World, wq = z := ⟨z, rfl⟩
                      go_loopw [10, 11] (fun ff ii wr => ∃ i : Nat, ff = .bool (fndP PV L t u i) ∧ ii = .int .i64 i ∧ i ≤ L.length ∧ Hk (Ptq wr SZ pa0 L ∧ SZ ≤ (wr).heap.size) ∧ Hk (Arr wr J n 3 (fun k => .int .i64 (PV k))) ∧ Hk (Below (w.heap.size + 1) (w.alloc (.cells #[.int .i64 W, .int .i64 H, .slice (some ⟨fb, fo, none⟩) n fc, .slice (ta) tn tc, .slice (pa) pn pc] 25)) wr)) (fun _ ii _ => L.length - (intOf ii).toNat)
                      case atStart => exact ⟨0, rfl, rfl, by omega, HQ, HA, HB⟩
                      case round =>
                        clear HQ HA HB
                        obtain ⟨i, rfl, rfl, hi, HQ, HA, HB⟩ := hrel
                        clear hc hf hl hn' hm
                        obtain ⟨hc, hf, hl, hn', hm⟩ := kw_rules HB.out hNW
                        by_cases hil : i < L.length
                        · obtain ⟨pb, po, rfl, hpb, hno⟩ := HQ.out.1 (by omega)
                          clear hno
                          obtain ⟨a, b, ha, hb', han, hbn⟩ := HOK.out (L[i]'hil) (List.getElem_mem hil)
                          obtain ⟨c0, c1, c2⟩ := ptq_at HQ.out.1 i hil
                          have hst := fndP_step PV hil ha hb' (t := t) (u := u)
                          have HST := Hk.mk hst
                          rw [ha] at c0
                          rw [hb'] at c1
                          clear ha hb' c2 hst
                          have gi : IntKind.i64.wrap ((i : Int) + 1) = ((i + 1 : Nat) : Int) := by push_cast; have := HL.out.2; exact wr_in' (by omega)
                          have i1 : (0 : Int) ≤ (i : Int) := by omega
                          have i2 : (i : Int) < (L.length : Int) := by omega
                          have a1 : (0 : Int) ≤ (a : Int) := by omega
                          have a2 : (a : Int) < (n : Int) := by omega
                          have b1' : (0 : Int) ≤ (b : Int) := by omega
                          have b2 : (b : Int) < (n : Int) := by omega
                          have ca := HA.out.cell han
                          have cb := HA.out.cell hbn
                          have ct := HA.out.cell htn
                          have cu := HA.out.cell hun
                          have e1d : decide ((a : Int) < 0) = false := decide_eq_false (by omega)
                          have e2d : decide ((n : Int) ≤ (a : Int)) = false := decide_eq_false (by omega)
                          have e2n : ¬ n ≤ a := by omega
                          have e3d : decide ((b : Int) < 0) = false := decide_eq_false (by omega)
                          have e4d : decide ((n : Int) ≤ (b : Int)) = false := decide_eq_false (by omega)
                          have e4n : ¬ n ≤ b := by omega
                          clear hpb
                          obtain ⟨fd, hfd⟩ : ∃ fd, fndP PV L t u i = fd := ⟨_, rfl⟩
                          rw [hfd]
                          replace HST : Hk (fndP PV L t u (i + 1) = (fd || (decide (PV a = PV t) && decide (PV b = PV u)))) := ⟨by rw [← hfd]; exact HST.out⟩
                          clear hfd
                          have hax : @decide (a < 0) (Nat.decLt a 0) = false := by simp
                          as_aux_lemma =>
                            go_upto_region 27 with fail
                            cases fd
                            · by_cases q1 : PV a = PV t
                              · have q1d : decide (PV a = PV t) = true := decide_eq_true q1; have q1b : (PV a == PV t) = true := beq_iff_eq.2 q1
                                rw [q1d] at HST
                                by_cases q2 : PV b = PV u
                                · have q2d : decide (PV b = PV u) = true := decide_eq_true q2; have q2b : (PV b == PV u) = true := beq_iff_eq.2 q2
                                  rw [q2d] at HST
                                  as_aux_lemma =>
                                    go_quiet (fail)
                                    replace HQ := Hk.mk (q_drewN HQ.out nq)
                                    replace HA := Hk.mk (HA.out.drewN nq)
                                    replace HB := Hk.mk (below_drewN HB.out nq)
                                    go_wp2_with fail
                                    exact ⟨⟨i + 1, by rw [HST.out]; rfl, by go_num, nx_le hil, HQ, HA, HB⟩, by first | exact nx_ms hil | exact nx_ms' hil⟩
                                · have q2d : decide (PV b = PV u) = false := decide_eq_false q2; have q2b : (PV b == PV u) = false := beq_eq_false_iff_ne.2 q2
                                  rw [q2d] at HST
                                  as_aux_lemma =>
                                    go_quiet (fail)
                                    replace HQ := Hk.mk (q_drewN HQ.out nq)
                                    replace HA := Hk.mk (HA.out.drewN nq)
                                    replace HB := Hk.mk (below_drewN HB.out nq)
                                    go_wp2_with fail
                                    exact ⟨⟨i + 1, by rw [HST.out]; rfl, by go_num, nx_le hil, HQ, HA, HB⟩, by first | exact nx_ms hil | exact nx_ms' hil⟩
                              · have q1d : decide (PV a = PV t) = false := decide_eq_false q1; have q1b : (PV a == PV t) = false := beq_eq_false_iff_ne.2 q1
                                rw [q1d] at HST
                                as_aux_lemma =>
                                  go_quiet (fail)
                                  replace HQ := Hk.mk (q_drewN HQ.out nq)
                                  replace HA := Hk.mk (HA.out.drewN nq)
                                  replace HB := Hk.mk (below_drewN HB.out nq)
                                  go_wp2_with fail
                                  exact ⟨⟨i + 1, by rw [HST.out]; rfl, by go_num, nx_le hil, HQ, HA, HB⟩, by first | exact nx_ms hil | exact nx_ms' hil⟩
                            · as_aux_lemma =>
                                go_quiet (fail)
                                replace HQ := Hk.mk (q_drewN HQ.out nq)
                                replace HA := Hk.mk (HA.out.drewN nq)
                                replace HB := Hk.mk (below_drewN HB.out nq)
                                go_wp2_with fail
                                exact ⟨⟨i + 1, by rw [HST.out]; rfl, by go_num, nx_le hil, HQ, HA, HB⟩, by first | exact nx_ms hil | exact nx_ms' hil⟩
                        · obtain rfl : i = L.length := by omega
                          have hjn := HJ.out (by first | rfl | trivial)
                          rw [hjn]
                          clear hil hi hjn
                          as_aux_lemma =>
                            go_wp2_with fail
                            exact ⟨⟨k + 1, by go_num, nx_le hk2, HQ, HA, HB⟩, by first | exact nx_ms hk2 | exact nx_ms' hk2⟩
          · obtain rfl : k = 2 := by omega
            as_aux_lemma =>
              go_wp2_with fail
              exact ⟨⟨t + 1, by go_num, nx_le htn, HQ, HA, HB⟩, by first | exact nx_ms htn | exact nx_ms' htn⟩
    · obtain rfl : n = t := by omega
      clear htn ht
      as_aux_lemma =>
        go_wp2_with (go_at_call 17; (with_reducible refine (wakes11_any _).mono ?_); rintro e z ⟨rfl, hb⟩; replace HB := Hk.mk (kw_step HB.out hNW hb); clear hb; clear hc hf hl hn' hm; obtain ⟨hc, hf, hl, hn', hm⟩ := kw_rules HB.out hNW)
        go_ret
        exact ⟨rfl, HTR.out _ HB.out⟩
end Go.Proofs.Ytcgilmjhbdehpaa
