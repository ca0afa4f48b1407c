import Derived.Deep.QuietTactic
import Derived.BigQuiet
import Derived.Deep.RegionWith
import Derived.Deep.RegionHeld3
import Derived.Deep.DeepCutAuto
import Derived.Deep.DeepFit
import Derived.Outline
import Derived.Test.YthabjihpjdlmoaaDoorSkf
import Derived.Test.YthabjihpjdlmoaaDoorSki
import Derived.Test.YthabjihpjdlmoaaDoorSko
/- Layer 13: the costs, spread from the goal on. -/
namespace Go.Proofs.YthabjihpjdlmoaaDoor
open Go.ChangeShapes Go.WideShapes Go.ChangeAt Go.RowKit Go.Deep
set_option linter.unusedVariables false
set_option linter.unusedSimpArgs false
theorem tD_ok {W H : Int} {gd : Nat → Bool} {kc : Nat → Int} {t i : Nat} (h : 0 ≤ tT W H gd t i) : tD W H gd kc t i = tC W H kc t i := if_pos (tT_ok h).1
theorem Hq.low {w : World} {base Q n c : Nat} {a : Option Addr} {F : Nat → PrQ} (h : Hq w base Q a n c F) : ∀ j, (Value.slice a n c).ownBlock = some j → base ≤ j := fun j hj => by
  rcases h.row.2 with ⟨e3, _⟩ | ⟨g, cap, cur, e3, hg, _⟩
  · rw [e3] at hj; simp [Value.ownBlock] at hj
  · rw [e3] at hj
    simp [Value.ownBlock] at hj
    omega
theorem Hq.farJ {w : World} {base Q n c J : Nat} {a : Option Addr} {F : Nat → PrQ} (h : Hq w base Q a n c F) (hJ : J < base) (o : Nat) (v : Value) : Hq (w.setCell ⟨J, o, none⟩ v) base Q a n c F :=
  h.fr (M := fun j => j = J) ((Fr.refl (fun j => j = J) w).setCell (p := ⟨J, o, none⟩) (fun _ => rfl) v) (by have := h.bs; omega) (fun j hj e => by have := h.low j hj; omega)
set_option maxRecDepth 100000 in
theorem idx16_any (N E : Nat → Int) (k : Nat) (hk : k < 8) : ∀ w, (Instr.index 113 (.agg #[.int .i64 (N 0), .int .i64 (E 0), .int .i64 (N 1), .int .i64 (E 1), .int .i64 (N 2), .int .i64 (E 2), .int .i64 (N 3), .int .i64 (E 3), .int .i64 (N 4), .int .i64 (E 4), .int .i64 (N 5), .int .i64 (E 5), .int .i64 (N 6), .int .i64 (E 6), .int .i64 (N 7), .int .i64 (E 7)]) (.int .i64 k)).run Tryd.prog w = .ok (.agg #[.int .i64 (N k), .int .i64 (E k)]) w := by
  match k, hk with
  | 0, _ => exact fun w => by kernel_rfl
  | 1, _ => exact fun w => by kernel_rfl
  | 2, _ => exact fun w => by kernel_rfl
  | 3, _ => exact fun w => by kernel_rfl
  | 4, _ => exact fun w => by kernel_rfl
  | 5, _ => exact fun w => by kernel_rfl
  | 6, _ => exact fun w => by kernel_rfl
  | 7, _ => exact fun w => by kernel_rfl
set_option maxRecDepth 100000 in
set_option maxHeartbeats 1600000 in
theorem spread_any (W H : Int) (n I K : Nat) (gd : Nat → Bool) (kc : Nat → Int) (goal : Nat) (w : World) (hL : LF w) (hA : Arr w I n 4 (fun k => .bool (gd k))) (hK : Arr w K n 3 (fun k => .int .i64 (kc k))) (D : Dm W H n) (hg : goal < n) (hk : Hk (∀ k, 0 ≤ kc k ∧ kc k ≤ 6)) (hS : Hk (Stp n (tT W H gd) (tC W H kc))) :
    Calls Tryd.prog 81 #[.agg #[.int .i64 W, .int .i64 H, .slice (some ⟨I, 0, none⟩) n n, .slice (some ⟨K, 0, none⟩) n n], .slice (some ⟨I, 0, none⟩) n n, .int .i64 goal] w fun e w' => ∃ J D', e = .returned (.slice (some ⟨J, 0, none⟩) n n) ∧ w.heap.size ≤ J ∧ Arr w' J n 3 (fun k => .int .i64 (D' k)) ∧ TabG n (tT W H gd) (tC W H kc) goal (gd goal) D' ∧ Below w.heap.size w w' := by
  obtain ⟨i0, hi, hz0, hz1, hz2⟩ := info_parts info_int
  have HWB : Hk (Below w.heap.size w (w.alloc (.cells #[.int .i64 W, .int .i64 H, .slice (some ⟨I, 0, none⟩) n n, .slice (some ⟨K, 0, none⟩) n n] 82))) := ⟨(Below.refl _ _).alloc (Nat.le_refl _) _⟩
  have hNW : w.heap.size + 1 ≤ (w.alloc (.cells #[.int .i64 W, .int .i64 H, .slice (some ⟨I, 0, none⟩) n n, .slice (some ⟨K, 0, none⟩) n n] 82)).heap.size := by simp
  have HB : Hk (Below (w.heap.size + 1) (w.alloc (.cells #[.int .i64 W, .int .i64 H, .slice (some ⟨I, 0, none⟩) n n, .slice (some ⟨K, 0, none⟩) n n] 82)) (w.alloc (.cells #[.int .i64 W, .int .i64 H, .slice (some ⟨I, 0, none⟩) n n, .slice (some ⟨K, 0, none⟩) n n] 82))) := ⟨Below.refl _ _⟩
  have HTR : Hk (∀ X, Below (w.heap.size + 1) (w.alloc (.cells #[.int .i64 W, .int .i64 H, .slice (some ⟨I, 0, none⟩) n n, .slice (some ⟨K, 0, none⟩) n n] 82)) X → Below w.heap.size w X) := ⟨fun X hX => HWB.out.trans (hX.mono (by omega))⟩
  have HLL := Hk.mk (fun (X : World) (hX : Below (w.heap.size + 1) (w.alloc (.cells #[.int .i64 W, .int .i64 H, .slice (some ⟨I, 0, none⟩) n n, .slice (some ⟨K, 0, none⟩) n n] 82)) X) => hL.below (HTR.out X hX) (Nat.le_refl _))
  have HAI := Hk.mk (fun (X : World) (hX : Below (w.heap.size + 1) (w.alloc (.cells #[.int .i64 W, .int .i64 H, .slice (some ⟨I, 0, none⟩) n n, .slice (some ⟨K, 0, none⟩) n n] 82)) X) => hA.later (HTR.out X hX))
  have HAK := Hk.mk (fun (X : World) (hX : Below (w.heap.size + 1) (w.alloc (.cells #[.int .i64 W, .int .i64 H, .slice (some ⟨I, 0, none⟩) n n, .slice (some ⟨K, 0, none⟩) n n] 82)) X) => hK.later (HTR.out X hX))
  have hI := hA.lt
  have hKl := hK.lt
  have n16 := D.n16
  have HD := Hk.mk D
  have HA := Hk.mk hA
  have g0 : (0 : Int) ≤ (goal : Int) := by omega
  have g1 : (goal : Int) < (n : Int) := by omega
  have ag := hA.cell hg
  clear hL hA hK D
  obtain ⟨hc, hf, hl, hn', hm⟩ := kw_rules HB.out hNW
  go_enter Tryd.func81, Tryd.ntmps81
  go_wp2_with (at_make; go_must (refine wpList_make_full _ rfl _ _ 26 rfl (w.heap.size + 1) 3 i0 (.int .i64 0) 1 Tryd.underlying26 hi hz0 hz1 .i64 .i64 _ _ n rfl rfl rfl rfl (by rw [hz2]; omega) (by unfold maxLen; omega) (kw_size HB.out hNW) ?_); intro z1 hown hgrow; have HJ := Hk.mk (Arr.made hown rfl (z := .int .i64 0)); have hb := below_grown hgrow; replace HB := Hk.mk (kw_step HB.out hNW hb); clear hb; clear hc hf hl hn' hm; obtain ⟨hc, hf, hl, hn', hm⟩ := kw_rules HB.out hNW)
  have HJ := HJ
  clear hc hf hl hn' hm
  have hJ : (w.alloc (.cells #[.int .i64 W, .int .i64 H, .slice (some ⟨I, 0, none⟩) n n, .slice (some ⟨K, 0, none⟩) n n] 82)).heap.size = w.heap.size + 1 := by simp
  rw [hJ] at HJ
  clear hJ
  obtain ⟨J, hJ⟩ : ∃ J, w.heap.size + 1 = J := ⟨_, rfl⟩
  rw [hJ] at HJ ⊢
  have HJN : Hk (w.heap.size + 1 = J) := ⟨hJ⟩
  clear hJ
  generalize z1 = W1 at *
  go_loopw [20] (fun i wr => ∃ k : Nat, i = .int .i64 k ∧ k ≤ n ∧ Hk (Below (w.heap.size + 1) (w.alloc (.cells #[.int .i64 W, .int .i64 H, .slice (some ⟨I, 0, none⟩) n n, .slice (some ⟨K, 0, none⟩) n n] 82)) wr) ∧ Hk (Arr wr J n 3 (fun j => .int .i64 (if j < k then -1 else 0)))) (fun i _ => n - (intOf i).toNat)
  case atStart => exact ⟨0, rfl, by omega, HB, ⟨HJ.out.congr fun k hk => by rw [if_neg (by omega)]⟩⟩
  case round =>
    clear HB HJ
    obtain ⟨k, rfl, hkn, HB, HJ⟩ := hrel
    obtain ⟨hc, hf, hl, hn', hm⟩ := kw_rules HB.out hNW
    by_cases hlt : k < n
    · have k0 : (0 : Int) ≤ (k : Int) := by omega
      have k1 : (k : Int) < (n : Int) := by omega
      have c0 := HJ.out.cell hlt
      have f0 := HJ.out.frozen k
      rw [if_neg (by omega)] at c0
      as_aux_lemma =>
        go_wp2_with fail
        exact ⟨⟨k + 1, by go_num, by omega, ⟨HB.out.setCell (by have := HJN.out; show w.heap.size + 1 ≤ J; omega) _⟩, ⟨(HJ.out.set hlt _).congr fun j hj => by
          by_cases e : j = k
          · rw [if_pos e, if_pos (by omega)]
          · rw [if_neg e]
            by_cases e2 : j < k
            · rw [if_pos e2, if_pos (by omega)]
            · rw [if_neg e2, if_neg (by omega)]⟩⟩, by simp [intOf]; omega⟩
    obtain rfl : n = k := by omega
    have HJ1 : Hk (Arr wr J n 3 (fun _ => .int .i64 (-1))) := ⟨HJ.out.congr fun j hj => by rw [if_pos hj]⟩
    clear HJ hkn hlt
    by_cases hgd' : gd goal = false
    · rw [hgd'] at ag
      as_aux_lemma =>
        go_wp2_with fail
        go_ret
        exact ⟨J, fun _ => -1, rfl, by have := HJN.out; omega, HJ1.out, by unfold TabG; rw [if_neg (by rw [hgd']; decide)]; exact fun _ _ => rfl, HTR.out _ HB.out⟩
    have hgd : gd goal = true := by simpa using hgd'
    clear hgd'
    rw [hgd] at ag
    have c0 := HJ1.out.cell hg
    have f0 := HJ1.out.frozen goal
    go_upto_region 10 with fail
    have HJ2 : Hk (Arr _ J n 3 (fun j => .int .i64 (oneD goal j))) := ⟨(HJ1.out.set hg (.int .i64 0)).congr fun j hj => by
      by_cases e : j = goal
      · rw [if_pos e, e, oneD_at]
      · rw [if_neg e, oneD_no e]⟩
    have HB2 : Hk (Below (w.heap.size + 1) (w.alloc (.cells #[.int .i64 W, .int .i64 H, .slice (some ⟨I, 0, none⟩) n n, .slice (some ⟨K, 0, none⟩) n n] 82)) (wr.setCell ⟨J, goal, none⟩ (.int .i64 0))) := ⟨HB.out.setCell (by have := HJN.out; show w.heap.size + 1 ≤ J; omega) _⟩
    clear HB HJ1 c0 f0
    clear hc hf hl hn' hm
    have HB := HB2
    clear HB2
    generalize wr.setCell ⟨J, goal, none⟩ (.int .i64 0) = W2 at *
    obtain ⟨hc, hf, hl, hn', hm⟩ := kw_rules HB.out hNW
    have HJB : Hk (J < W2.heap.size) := ⟨HJ2.out.lt⟩
    have HWB0 : Hk (w.heap.size + 1 ≤ W2.heap.size) := ⟨by have := HJB.out; have := HJN.out; omega⟩
    have HP0 : Hk (HpQ (fun _ => ((0, 0) : PrQ)) 0) := ⟨fun k h0 hk => by omega⟩
    go_wp2_with (first
      | (go_at_call 90; (with_reducible refine (qnew _ W2.heap.size (Nat.le_refl _)).mono ?_); rintro e z2 ⟨Q, rfl, hQ, hq, hb⟩; have HQ0 := Hk.mk hq; replace HJ2 := Hk.mk (HJ2.out.later hb); clear hq hQ; replace HB := Hk.mk (kw_step HB.out hNW hb); clear hb; clear hc hf hl hn' hm; obtain ⟨hc, hf, hl, hn', hm⟩ := kw_rules HB.out hNW)
      | (go_at_call 91; (with_reducible refine (qpush_at W2.heap.size Q 0 0 none _ _ _ (0, (goal : Int)) ⟨rfl⟩ _ HQ0.out HP0.out (by omega)).mono ?_); rintro e z3 ⟨rfl, g2, c2, G2, hr⟩; have hbel := HQ0.out.bel hr.fr; have HQ := Hk.mk hr.q; have HP := Hk.mk hr.hp; have HC := Hk.mk hr.cn; replace HJ2 := Hk.mk (HJ2.out.below hbel HJB.out); replace HB := Hk.mk (HB.out.trans (hbel.mono HWB0.out)); clear hbel hr; clear hc hf hl hn' hm; obtain ⟨hc, hf, hl, hn', hm⟩ := kw_rules HB.out hNW))
    have HJ := HJ2; have HB := HB; have HQ := HQ; have HP := HP
    clear hc hf hl hn' hm
    have HLB : Hk (Lab0 n (tT W H gd) (tC W H kc) goal (oneD goal) (Pq (oneD goal) G2 1)) := ⟨Lab0.first hg HC.out⟩
    have HQK : Hk (QOk n (oneD goal) G2 1) := ⟨QOk.first hg HC.out⟩
    have HPT : Hk (2 * potD (oneD goal) n + 1 ≤ 100000000000) := ⟨by have := potD_one (g := goal) n; omega⟩
    clear HC HJ2
    generalize W2.heap.size = B0 at *
    go_loopw [10] (fun _ wr => ∃ (Dt : Nat → Int) (m c : Nat) (a : Option Addr) (F : Nat → PrQ), Hk (Below (w.heap.size + 1) (w.alloc (.cells #[.int .i64 W, .int .i64 H, .slice (some ⟨I, 0, none⟩) n n, .slice (some ⟨K, 0, none⟩) n n] 82)) wr) ∧ Hk (Arr wr J n 3 (fun j => .int .i64 (Dt j))) ∧ Hk (Hq wr B0 Q a m c F) ∧ Hk (HpQ F m) ∧ Hk (Lab0 n (tT W H gd) (tC W H kc) goal Dt (Pq Dt F m)) ∧ Hk (QOk n Dt F m) ∧ Hk (2 * potD Dt n + m ≤ 100000000000)) (fun _ wr => 2 * potD (cellD wr J) n + lenD wr Q)
    case atStart => exact ⟨oneD goal, 1, c2, _, G2, HB, HJ, HQ, HP, HLB, HQK, HPT⟩
    case round =>
      clear HB HJ HQ HP HLB HQK HPT
      obtain ⟨Dt, m, c, a, F, HB, HJ, HQ, HP, HLB, HQK, HPT⟩ := hrel
      obtain ⟨wo, rfl⟩ : ∃ wo : World, wo = wr := ⟨wr, rfl⟩
      obtain ⟨hc, hf, hl, hn', hm⟩ := kw_rules HB.out hNW
      cases m with
      | zero =>
        as_aux_lemma =>
          go_wp2_with (go_at_call 93; (with_reducible refine (qlen _ B0 Q 0 c a F HQ.out).mono ?_); rintro e z ⟨rfl, rfl⟩)
          go_ret
          exact ⟨J, Dt, rfl, by have := HJN.out; omega, HJ.out, by unfold TabG; rw [if_pos hgd]; exact HLB.out.empty, HTR.out _ HB.out⟩
      | succ m =>
        have HM0 : Hk (2 * potD (cellD wo J) n + lenD wo Q = 2 * potD Dt n + (m + 1)) := ⟨by rw [pot_cell (fun k hk => HJ.out.cell hk), len_cell HQ.out.cell]⟩
        obtain ⟨t, ht, e2, h0, hle, hbd⟩ := HQK.out.at_ 0 (by omega)
        obtain ⟨y, hy⟩ : ∃ y, (F 0).1 = y := ⟨_, rfl⟩
        rw [hy] at hle hbd
        have m1 : (0 : Int) < (m : Int) + 1 := by omega
        have t0 : (0 : Int) ≤ (t : Int) := by omega
        have t1 : (t : Int) < (n : Int) := by omega
        have HPL : Hk (m ≤ 100000000000) := ⟨by have := HPT.out; omega⟩
        obtain ⟨v, hv⟩ : ∃ v, Dt t = v := ⟨_, rfl⟩
        have HE2 := Hk.mk e2
        have HY := Hk.mk hy
        have HV := Hk.mk hv
        rw [hv] at h0 hle
        clear e2 hy
        by_cases hst : v < y
        · have d1 : decide (v < y) = true := by simpa using hst
          as_aux_lemma =>
            go_wp2_with (first | (go_at_call 93; (with_reducible refine (qlen _ B0 Q (m + 1) c a F HQ.out).mono ?_); rintro e z ⟨rfl, rfl⟩) | (go_at_call 94; (with_reducible refine (pop_any B0 Q m c a F _ HQ.out HP.out HPL.out).mono ?_); rintro e z ⟨rfl, G, hq, hp, hcn, hfr⟩; have hbel := HQ.out.bel hfr; have HQ2 := Hk.mk hq; have HP2 := Hk.mk hp; have HC := Hk.mk hcn; replace HJ := Hk.mk (HJ.out.below hbel HJB.out); replace HB := Hk.mk (HB.out.trans (hbel.mono HWB0.out)); clear hbel hfr hq hp hcn; clear hc hf hl hn' hm; obtain ⟨hc, hf, hl, hn', hm⟩ := kw_rules HB.out hNW; have jt := HJ.out.cell ht; rw [hv] at jt; rw [HY.out, HE2.out]))
            exact ⟨⟨Dt, m, c, a, G, HB, HJ, HQ2, HP2, ⟨HLB.out.stale HC.out HE2.out (by rw [HV.out, HY.out]; exact hst)⟩, ⟨HQK.out.pop HC.out⟩, ⟨by have := HPT.out; omega⟩⟩, by rw [HM0.out, pot_cell (fun k hk => HJ.out.cell hk), len_cell HQ2.out.cell]; omega⟩
        · have d1 : decide (v < y) = false := by simpa using hst
          obtain rfl : y = v := by omega
          go_wp2_with (first | (go_at_call 93; (with_reducible refine (qlen _ B0 Q (m + 1) c a F HQ.out).mono ?_); rintro e z ⟨rfl, rfl⟩) | (go_at_call 94; (with_reducible refine (pop_any B0 Q m c a F _ HQ.out HP.out HPL.out).mono ?_); rintro e z ⟨rfl, G, hq, hp, hcn, hfr⟩; have hbel := HQ.out.bel hfr; have HQ2 := Hk.mk hq; have HP2 := Hk.mk hp; have HC := Hk.mk hcn; replace HJ := Hk.mk (HJ.out.below hbel HJB.out); replace HB := Hk.mk (HB.out.trans (hbel.mono HWB0.out)); clear hbel hfr hq hp hcn; clear hc hf hl hn' hm; obtain ⟨hc, hf, hl, hn', hm⟩ := kw_rules HB.out hNW; have jt := HJ.out.cell ht; rw [hv] at jt; rw [HY.out, HE2.out]) | (go_at_call 82; (with_reducible refine (from_any W H n I K gd kc t _ (HLL.out _ HB.out) (HAI.out _ HB.out) (HAK.out _ HB.out) HD.out ht hk).mono ?_); rintro e z4 ⟨rfl, hb⟩; replace HJ := Hk.mk (HJ.out.later hb); replace HQ2 := Hk.mk (HQ2.out.later hb); clear jt; replace HB := Hk.mk (kw_step HB.out hNW hb); clear hb; clear hc hf hl hn' hm; obtain ⟨hc, hf, hl, hn', hm⟩ := kw_rules HB.out hNW))
          have HLF : Hk (Lab n (tT W H gd) (tC W H kc) goal Dt (Pq Dt G m) t 0) := ⟨HLB.out.fresh HC.out HE2.out ht (by rw [HV.out]; exact h0)⟩
          have HQF : Hk (QOk n Dt G m) := ⟨HQK.out.pop HC.out⟩
          have HP := HP2
          have HQ := HQ2
          have HB := HB
          have HJ := HJ
          have HT : Hk (∀ i, i < 8 → 0 ≤ tT W H gd t i → tT W H gd t i < (n : Int) ∧ 0 < tD W H gd kc t i ∧ tD W H gd kc t i ≤ 84 ∧ tD W H gd kc t i = tC W H kc t i) := ⟨fun i hi h => ⟨hS.out.lt t i ht, by rw [tD_ok h]; exact hS.out.pos t i ht h, by rw [tD_ok h]; exact hS.out.top t i ht, tD_ok h⟩⟩
          have HTT : Hk (∀ i, tT W H gd t i = tT W H gd t i) := ⟨fun _ => rfl⟩
          clear HLB HQK HC HP2 HQ2 hle d1 hst
          clear hc hf hl hn' hm
          obtain ⟨T, hT⟩ : ∃ T : Nat → Int, tT W H gd t = T := ⟨_, rfl⟩
          obtain ⟨E, hE⟩ : ∃ E : Nat → Int, tD W H gd kc t = E := ⟨_, rfl⟩
          rw [hT, hE] at HT ⊢
          have HTE := Hk.mk (And.intro hT hE)
          clear HTT hT hE
          go_loopw [58] (fun ii wr => ∃ (i : Nat) (D2 : Nat → Int) (m2 c3 : Nat) (a3 : Option Addr) (F2 : Nat → PrQ), ii = .int .i64 i ∧ i ≤ 8 ∧ Hk (Below (w.heap.size + 1) (w.alloc (.cells #[.int .i64 W, .int .i64 H, .slice (some ⟨I, 0, none⟩) n n, .slice (some ⟨K, 0, none⟩) n n] 82)) wr) ∧ Hk (Arr wr J n 3 (fun j => .int .i64 (D2 j))) ∧ Hk (Hq wr B0 Q a3 m2 c3 F2) ∧ Hk (HpQ F2 m2) ∧ Hk (Lab n (tT W H gd) (tC W H kc) goal D2 (Pq D2 F2 m2) t i) ∧ Hk (QOk n D2 F2 m2) ∧ Hk (D2 t = y) ∧ Hk (2 * potD D2 n + m2 ≤ 2 * potD Dt n + m)) (fun ii _ => 8 - (intOf ii).toNat)
          case atStart => exact ⟨0, Dt, m, c, a, G, rfl, by omega, HB, HJ, HQ, HP, HLF, HQF, HV, ⟨Nat.le_refl _⟩⟩
          case round =>
            clear HB HJ HQ HP HLF HQF
            obtain ⟨i, D2, m2, c3, a3, F2, rfl, hi8, HB, HJ, HQ, HP, HLI, HQI, HDY, HPI⟩ := hrel
            obtain ⟨hc, hf, hl, hn', hm⟩ := kw_rules HB.out hNW
            by_cases hlt : i < 8
            · have ix := idx16_any T E i hlt
              have i0' : (0 : Int) ≤ (i : Int) := by omega
              have i1' : (i : Int) < 8 := by omega
              obtain ⟨x, hx⟩ : ∃ x, T i = x := ⟨_, rfl⟩
              obtain ⟨ey, hey⟩ : ∃ ey, E i = ey := ⟨_, rfl⟩
              have HTI := Hk.mk (HT.out i hlt)
              rw [hx, hey] at ix HTI
              have HXE := Hk.mk (And.intro hx hey)
              clear hx hey
              have HB3 := Hk.mk (kw_al HB.out hNW (.cells #[.int .i64 x, .int .i64 ey] 112)).drew
              have HJ3 := Hk.mk (HJ.out.alloc (.cells #[.int .i64 x, .int .i64 ey] 112)).drew
              have HQ3 := Hk.mk (HQ.out.later ((Below.refl _ _).alloc (Nat.le_refl _) (.cells #[.int .i64 x, .int .i64 ey] 112))).drew
              by_cases hx0 : x < 0
              · have d0 : decide (0 ≤ x) = false := by simp; omega
                have hr : Rlx (tT W H gd) (tC W H kc) D2 t i := fun h => by rw [HTE.out.1, HXE.out.1] at h; omega
                as_aux_lemma =>
                  go_upto_region 18 with fail
                  go_region
                  go_wp2_with fail
                  exact ⟨⟨i + 1, D2, m2, c3, a3, F2, by go_num, by omega, HB3, HJ3, HQ3, HP, ⟨HLI.out.skip hr⟩, HQI, HDY, HPI⟩, by simp [intOf]; omega⟩
              have hti := HTI.out (by omega)
              obtain ⟨u, hu⟩ : ∃ u : Nat, x = u := ⟨x.toNat, by omega⟩
              subst hu
              obtain ⟨q1, q2, q3, q4⟩ := hti
              have HQ4 := Hk.mk q4
              clear HTI q4 hx0
              have hun : u < n := by omega
              have u0 : (0 : Int) ≤ (u : Int) := by omega
              have d0 : decide (0 ≤ (u : Int)) = true := by simp
              obtain ⟨z, hz⟩ : ∃ z, D2 u = z := ⟨_, rfl⟩
              have ju := HJ.out.cell hun
              have ju3 := HJ3.out.cell hun
              have HZ := Hk.mk hz
              rw [hz] at ju ju3
              clear hz
              by_cases hz0 : z < 0
              · have d1 : decide (z < 0) = true := by simpa using hz0
                have hd : D2 u < 0 ∨ y + ey < D2 u := Or.inl (by rw [HZ.out]; exact hz0)
                as_aux_lemma =>
                  have hTu : tT W H gd t i = (u : Int) := by rw [HTE.out.1, HXE.out.1]
                  obtain ⟨_, v0, vb, hpot⟩ := HLI.out.putBd hS.out n16 hTu (show y + ey = D2 t + tC W H kc t i by rw [HDY.out, HQ4.out]) hd
                  have htu : t ≠ u := fun e => by
                    subst e
                    have e1 := HDY.out
                    have e2 := HZ.out
                    omega
                  have HSB : Hk (J < wr.heap.size) := ⟨HJ.out.lt⟩
                  have HO3 := Hk.mk (Bk.new wr #[.int .i64 (u : Int), .int .i64 ey] 112).drew
                  have HPL2 : Hk (m2 ≤ 200000000000) := ⟨by have := HPI.out; have := HPT.out; omega⟩
                  have HHD := Hk.mk hd
                  have HPO := Hk.mk hpot
                  clear hd hpot
                  go_upto_region 18 with fail
                  apply reg_merge
                  · intro HG2
                    go_region
                    obtain ⟨W3, hW3⟩ : ∃ W3, (wr.alloc (.cells #[.int .i64 (u : Int), .int .i64 ey] 112)).drew = W3 := ⟨_, rfl⟩
                    rw [hW3] at HB3 HJ3 HQ3 HO3 ⊢
                    clear hW3
                    revert HO3
                    revert HQ3
                    revert HJ3
                    revert HB3
                    revert W3
                    exact HG2.out
                  clear HB HJ HQ HB3 HJ3 HQ3 HO3 ju ju3
                  clear hc hf hl hn' hm
                  intro W3 HB HJ HQ HO
                  obtain ⟨hc, hf, hl, hn', hm⟩ := kw_rules HB.out hNW
                  go_upto_region 19 with fail
                  have b0 := HO.out.c 0
                  have b1 := HO.out.c 1
                  simp at b0 b1
                  have ju := HJ.out.cell hun
                  have fj := HJ.out.frozen u
                  go_upto_region 20 with fail
                  have HJ4 : Hk (Arr (W3.setCell ⟨J, u, none⟩ (.int .i64 (y + ey))) J n 3 (fun j => .int .i64 (updD D2 u (y + ey) j))) := ⟨(HJ.out.set hun (.int .i64 (y + ey))).congr fun j hj => by
                    by_cases e : j = u
                    · rw [if_pos e, e, updD_at]
                    · rw [if_neg e, updD_far e]⟩
                  have HQ5 := Hk.mk (HQ.out.farJ HJB.out u (.int .i64 (y + ey)))
                  have HB4 : Hk (Below (w.heap.size + 1) (w.alloc (.cells #[.int .i64 W, .int .i64 H, .slice (some ⟨I, 0, none⟩) n n, .slice (some ⟨K, 0, none⟩) n n] 82)) (W3.setCell ⟨J, u, none⟩ (.int .i64 (y + ey)))) := ⟨HB.out.setCell (by have := HJN.out; show w.heap.size + 1 ≤ J; omega) _⟩
                  have HO4 := Hk.mk (HO.out.oth (Q := J) (by have := HSB.out; omega) u (.int .i64 (y + ey)))
                  clear HB HJ HQ HO b0 b1 ju fj
                  clear hc hf hl hn' hm
                  obtain ⟨W4, hW4⟩ : ∃ W4, W3.setCell ⟨J, u, none⟩ (.int .i64 (y + ey)) = W4 := ⟨_, rfl⟩
                  rw [hW4] at HJ4 HQ5 HB4 HO4 ⊢
                  clear hW4
                  have HB := HB4
                  have HJ := HJ4
                  have HQ := HQ5
                  clear HB4 HJ4 HQ5
                  obtain ⟨hc, hf, hl, hn', hm⟩ := kw_rules HB.out hNW
                  have b0 := HO4.out.c 0
                  have b1 := HO4.out.c 1
                  simp at b0 b1
                  go_wp2_with (go_at_call 91; (with_reducible refine (qpush_at B0 Q m2 c3 a3 F2 _ _ (y + ey, (u : Int)) ⟨rfl⟩ _ HQ.out HP.out HPL2.out).mono ?_); rintro e z5 ⟨rfl, g5, c5, G5, hr⟩; have hbel := HQ.out.bel hr.fr; have HQ6 := Hk.mk hr.q; have HP6 := Hk.mk hr.hp; have HC6 := Hk.mk hr.cn; replace HJ := Hk.mk (HJ.out.below hbel HJB.out); replace HB := Hk.mk (HB.out.trans (hbel.mono HWB0.out)); clear hbel hr b0 b1; clear hc hf hl hn' hm; obtain ⟨hc, hf, hl, hn', hm⟩ := kw_rules HB.out hNW)
                  exact ⟨⟨i + 1, updD D2 u (y + ey), m2 + 1, c5, _, G5, by go_num, by omega, HB, HJ, HQ6, HP6, ⟨HLI.out.push hS.out hlt hTu (by rw [HDY.out, HQ4.out]) HHD.out HC6.out⟩, ⟨HQI.out.push hun v0 vb HHD.out HC6.out⟩, ⟨by rw [updD_far htu]; exact HDY.out⟩, ⟨by have := HPO.out; have := HPI.out; omega⟩⟩, by simp [intOf]; omega⟩
              have d1 : decide (z < 0) = false := by simp; omega
              by_cases hz1 : y + ey < z
              · have d2 : decide (y + ey < z) = true := by simpa using hz1
                have hd : D2 u < 0 ∨ y + ey < D2 u := Or.inr (by rw [HZ.out]; exact hz1)
                as_aux_lemma =>
                  have hTu : tT W H gd t i = (u : Int) := by rw [HTE.out.1, HXE.out.1]
                  obtain ⟨_, v0, vb, hpot⟩ := HLI.out.putBd hS.out n16 hTu (show y + ey = D2 t + tC W H kc t i by rw [HDY.out, HQ4.out]) hd
                  have htu : t ≠ u := fun e => by
                    subst e
                    have e1 := HDY.out
                    have e2 := HZ.out
                    omega
                  have HSB : Hk (J < wr.heap.size) := ⟨HJ.out.lt⟩
                  have HO3 := Hk.mk (Bk.new wr #[.int .i64 (u : Int), .int .i64 ey] 112).drew
                  have HPL2 : Hk (m2 ≤ 200000000000) := ⟨by have := HPI.out; have := HPT.out; omega⟩
                  have HHD := Hk.mk hd
                  have HPO := Hk.mk hpot
                  clear hd hpot
                  go_upto_region 18 with fail
                  apply reg_merge
                  · intro HG2
                    go_region
                    obtain ⟨W3, hW3⟩ : ∃ W3, (wr.alloc (.cells #[.int .i64 (u : Int), .int .i64 ey] 112)).drew = W3 := ⟨_, rfl⟩
                    rw [hW3] at HB3 HJ3 HQ3 HO3 ⊢
                    clear hW3
                    revert HO3
                    revert HQ3
                    revert HJ3
                    revert HB3
                    revert W3
                    exact HG2.out
                  clear HB HJ HQ HB3 HJ3 HQ3 HO3 ju ju3
                  clear hc hf hl hn' hm
                  intro W3 HB HJ HQ HO
                  obtain ⟨hc, hf, hl, hn', hm⟩ := kw_rules HB.out hNW
                  go_upto_region 19 with fail
                  have b0 := HO.out.c 0
                  have b1 := HO.out.c 1
                  simp at b0 b1
                  have ju := HJ.out.cell hun
                  have fj := HJ.out.frozen u
                  go_upto_region 20 with fail
                  have HJ4 : Hk (Arr (W3.setCell ⟨J, u, none⟩ (.int .i64 (y + ey))) J n 3 (fun j => .int .i64 (updD D2 u (y + ey) j))) := ⟨(HJ.out.set hun (.int .i64 (y + ey))).congr fun j hj => by
                    by_cases e : j = u
                    · rw [if_pos e, e, updD_at]
                    · rw [if_neg e, updD_far e]⟩
                  have HQ5 := Hk.mk (HQ.out.farJ HJB.out u (.int .i64 (y + ey)))
                  have HB4 : Hk (Below (w.heap.size + 1) (w.alloc (.cells #[.int .i64 W, .int .i64 H, .slice (some ⟨I, 0, none⟩) n n, .slice (some ⟨K, 0, none⟩) n n] 82)) (W3.setCell ⟨J, u, none⟩ (.int .i64 (y + ey)))) := ⟨HB.out.setCell (by have := HJN.out; show w.heap.size + 1 ≤ J; omega) _⟩
                  have HO4 := Hk.mk (HO.out.oth (Q := J) (by have := HSB.out; omega) u (.int .i64 (y + ey)))
                  clear HB HJ HQ HO b0 b1 ju fj
                  clear hc hf hl hn' hm
                  obtain ⟨W4, hW4⟩ : ∃ W4, W3.setCell ⟨J, u, none⟩ (.int .i64 (y + ey)) = W4 := ⟨_, rfl⟩
                  rw [hW4] at HJ4 HQ5 HB4 HO4 ⊢
                  clear hW4
                  have HB := HB4
                  have HJ := HJ4
                  have HQ := HQ5
                  clear HB4 HJ4 HQ5
                  obtain ⟨hc, hf, hl, hn', hm⟩ := kw_rules HB.out hNW
                  have b0 := HO4.out.c 0
                  have b1 := HO4.out.c 1
                  simp at b0 b1
                  go_wp2_with (go_at_call 91; (with_reducible refine (qpush_at B0 Q m2 c3 a3 F2 _ _ (y + ey, (u : Int)) ⟨rfl⟩ _ HQ.out HP.out HPL2.out).mono ?_); rintro e z5 ⟨rfl, g5, c5, G5, hr⟩; have hbel := HQ.out.bel hr.fr; have HQ6 := Hk.mk hr.q; have HP6 := Hk.mk hr.hp; have HC6 := Hk.mk hr.cn; replace HJ := Hk.mk (HJ.out.below hbel HJB.out); replace HB := Hk.mk (HB.out.trans (hbel.mono HWB0.out)); clear hbel hr b0 b1; clear hc hf hl hn' hm; obtain ⟨hc, hf, hl, hn', hm⟩ := kw_rules HB.out hNW)
                  exact ⟨⟨i + 1, updD D2 u (y + ey), m2 + 1, c5, _, G5, by go_num, by omega, HB, HJ, HQ6, HP6, ⟨HLI.out.push hS.out hlt hTu (by rw [HDY.out, HQ4.out]) HHD.out HC6.out⟩, ⟨HQI.out.push hun v0 vb HHD.out HC6.out⟩, ⟨by rw [updD_far htu]; exact HDY.out⟩, ⟨by have := HPO.out; have := HPI.out; omega⟩⟩, by simp [intOf]; omega⟩
              have d2 : decide (y + ey < z) = false := by simpa using hz1
              have hr : Rlx (tT W H gd) (tC W H kc) D2 t i := fun h => by
                rw [HTE.out.1, HXE.out.1, ← HQ4.out, HDY.out]
                simp only [Int.toNat_natCast]
                rw [HZ.out]
                omega
              as_aux_lemma =>
                go_upto_region 18 with fail
                go_region
                go_wp2_with fail
                exact ⟨⟨i + 1, D2, m2, c3, a3, F2, by go_num, by omega, HB3, HJ3, HQ3, HP, ⟨HLI.out.skip hr⟩, HQI, HDY, HPI⟩, by simp [intOf]; omega⟩
            · obtain rfl : i = 8 := by omega
              as_aux_lemma =>
                go_wp2_with fail
                exact ⟨⟨D2, m2, c3, a3, F2, HB, HJ, HQ, HP, ⟨HLI.out.done⟩, HQI, ⟨by have := HPI.out; have := HPT.out; omega⟩⟩, by rw [HM0.out, pot_cell (fun k hk => HJ.out.cell hk), len_cell HQ.out.cell]; have := HPI.out; omega⟩
end Go.Proofs.YthabjihpjdlmoaaDoor
