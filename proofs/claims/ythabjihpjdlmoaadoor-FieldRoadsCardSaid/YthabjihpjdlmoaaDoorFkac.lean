import Derived.Deep.QuietTactic
import Derived.BigQuiet
import Derived.Deep.RegionWith
import Derived.Deep.RegionHeld3
import Derived.Deep.DeepCutAuto
import Derived.Deep.DeepFit
import Derived.Outline
import Derived.Test.YthabjihpjdlmoaaDoorFkz
import Derived.Test.YthabjihpjdlmoaaDoorFkab
/- Layer 13: roads, where tiles are asked for. -/
namespace Go.Proofs.YthabjihpjdlmoaaDoor
open Go.ChangeShapes Go.WideShapes Go.ChangeAt Go.RowKit Go.Deep
set_option linter.unusedVariables false
set_option linter.unusedSimpArgs false
theorem own_some {w : World} {base n c : Nat} {a : Option Addr} {xs : List Int} (h : OwnB w base (.slice a n c) n xs) (hn : 0 < n) : ∃ g, a = some ⟨g, 0, none⟩ ∧ base ≤ g ∧ g < w.heap.size := by
  rcases h.2.2.2 with ⟨e, h0⟩ | ⟨g, cap, cur, e, hg, hh, _⟩
  · omega
  · injection e with e1 e2 e3
    exact ⟨g, e1, hg, (Array.getElem?_eq_some_iff.1 hh).1⟩
theorem own_al {w : World} {base n : Nat} {v : Value} {xs : List Int} (h : OwnB w base v n xs) (o : Obj) : OwnB (w.alloc o) base v n xs := ⟨h.1, h.2.1, h.2.2.alloc o⟩
set_option maxRecDepth 1000000 in
set_option maxHeartbeats 3200000 in
theorem fieldRoads_in (W H : Int) (a : Option Addr) (n c : Nat) (xs : List Int) (la : Option Addr) (ln lc : Nat) (bs : List Bd) (cl s : Nat) (tb toff : Nat) (tn tc : Nat) (ts : List Int) (w : World) (hL : LF w) (h : By w w.heap.size a n xs) (hb0 : Bq w w.heap.size la ln bs) (hq : Nq w w.heap.size ((some ⟨tb, toff, none⟩)) tn ts) (hn : n ≤ 700) (hln : ln ≤ 30) (htn : tn ≤ 30) (hlc : ln ≤ lc) (HV : Hk (hv13 n ln tn = false)) (hc3 : cl < 3) (hs : s ≤ 3) (MM : Hk (MOk W H n xs bs)) :
    Calls Tryd.prog 10 #[.agg #[.int .i64 W, .int .i64 H, .slice a n c, .slice la ln lc, .int .i64 cl, .int .i64 s, .slice (some ⟨tb, toff, none⟩) tn tc]] w fun e w' => e = .returned (.bool true) ∧ Below w.heap.size w w' := by
  have HWB : Hk (Below w.heap.size w (w.alloc (.cells #[.int .i64 W, .int .i64 H, .slice a n c, .slice la ln lc, .int .i64 cl, .int .i64 s, .slice (some ⟨tb, toff, none⟩) tn tc] 28))) := ⟨(Below.refl _ _).alloc (Nat.le_refl _) _⟩
  have hNW : w.heap.size + 1 ≤ (w.alloc (.cells #[.int .i64 W, .int .i64 H, .slice a n c, .slice la ln lc, .int .i64 cl, .int .i64 s, .slice (some ⟨tb, toff, none⟩) tn tc] 28)).heap.size := by simp
  have HB : Hk (Below (w.heap.size + 1) (w.alloc (.cells #[.int .i64 W, .int .i64 H, .slice a n c, .slice la ln lc, .int .i64 cl, .int .i64 s, .slice (some ⟨tb, toff, none⟩) tn tc] 28)) (w.alloc (.cells #[.int .i64 W, .int .i64 H, .slice a n c, .slice la ln lc, .int .i64 cl, .int .i64 s, .slice (some ⟨tb, toff, none⟩) tn tc] 28))) := ⟨Below.refl _ _⟩
  have HTR : Hk (∀ X, Below (w.heap.size + 1) (w.alloc (.cells #[.int .i64 W, .int .i64 H, .slice a n c, .slice la ln lc, .int .i64 cl, .int .i64 s, .slice (some ⟨tb, toff, none⟩) tn tc] 28)) X → Below w.heap.size w X) := ⟨fun X hX => HWB.out.trans (hX.mono (by omega))⟩
  have HBY := Hk.mk (fun (X : World) (hX : Below (w.heap.size + 1) (w.alloc (.cells #[.int .i64 W, .int .i64 H, .slice a n c, .slice la ln lc, .int .i64 cl, .int .i64 s, .slice (some ⟨tb, toff, none⟩) tn tc] 28)) X) => h.below (HTR.out X hX) (Nat.le_refl _))
  have HBQ := Hk.mk (fun (X : World) (hX : Below (w.heap.size + 1) (w.alloc (.cells #[.int .i64 W, .int .i64 H, .slice a n c, .slice la ln lc, .int .i64 cl, .int .i64 s, .slice (some ⟨tb, toff, none⟩) tn tc] 28)) X) => hb0.below (HTR.out X hX) (Nat.le_refl _))
  have HNQT := Hk.mk (fun (X : World) (hX : Below (w.heap.size + 1) (w.alloc (.cells #[.int .i64 W, .int .i64 H, .slice a n c, .slice la ln lc, .int .i64 cl, .int .i64 s, .slice (some ⟨tb, toff, none⟩) tn tc] 28)) X) => hq.below (HTR.out X hX) (Nat.le_refl _))
  have HLF := Hk.mk (fun (X : World) (hX : Below (w.heap.size + 1) (w.alloc (.cells #[.int .i64 W, .int .i64 H, .slice a n c, .slice la ln lc, .int .i64 cl, .int .i64 s, .slice (some ⟨tb, toff, none⟩) tn tc] 28)) X) => hL.below (HTR.out X hX) (Nat.le_refl _))
  have hxl : xs.length = n := h.len
  clear h hb0 hL
  obtain ⟨hc, hf, hl, hn', hm⟩ := kw_rules HB.out hNW
  have GG : Hk (GOk W H n xs) := ⟨MM.out.g⟩
  have hn1 : n ≤ 140737488355328 := by omega
  have hn2 : n ≤ 1099511627776 := by omega
  have hln1 : ln ≤ 1099511627776 := by omega
  go_enter Tryd.func10, Tryd.ntmps10
  go_wp2_with (first | (go_at_call 17; (with_reducible refine (heavy13_as false W H cl s a la (some ⟨tb, toff, none⟩) n c ln lc tn tc _ (by omega) (by omega) (by omega) HV).mono ?_); rintro e z ⟨rfl, hb⟩; replace HB := Hk.mk (kw_step HB.out hNW hb); clear hb; clear hc hf hl hn' hm; obtain ⟨hc, hf, hl, hn', hm⟩ := kw_rules HB.out hNW) | (go_at_call 18; (with_reducible refine (form13_yes W H a n c xs la ln lc bs cl s (some ⟨tb, toff, none⟩) tn tc _ ?_ ?_ (by omega) (by omega) hc3 hs MM).mono ?_); (exact (HBY.out _ HB.out).mono (hsz1 HB.out)); (exact (HBQ.out _ HB.out).mono (hsz1 HB.out)); rintro e z ⟨rfl, hb⟩; replace HB := Hk.mk (kw_step HB.out hNW hb); clear hb; clear hc hf hl hn' hm; obtain ⟨hc, hf, hl, hn', hm⟩ := kw_rules HB.out hNW))
  have HB := HB
  clear hc hf hl hn' hm
  have HNT := Hk.mk hq
  go_loopw [3] (fun i wr => ∃ k : Nat, i = .int .i64 k ∧ k ≤ 3 ∧ Hk (Below (w.heap.size + 1) (w.alloc (.cells #[.int .i64 W, .int .i64 H, .slice a n c, .slice la ln lc, .int .i64 cl, .int .i64 s, .slice (some ⟨tb, toff, none⟩) tn tc] 28)) wr)) (fun i _ => 3 - (intOf i).toNat)
  case atStart => exact ⟨0, rfl, by omega, HB⟩
  case round =>
    clear HB
    obtain ⟨k, rfl, hk3, HB⟩ := hrel
    obtain ⟨hc, hf, hl, hn', hm⟩ := kw_rules HB.out hNW
    by_cases hlt : k + 1 < tn ∧ k < 3
    · obtain ⟨hlt, hl3⟩ := hlt
      have k0 : (0 : Int) ≤ (k : Int) := by omega
      have k1 : (k : Int) < (tn : Int) := by omega
      have k2 : (k : Int) < 3 := by omega
      have k4 : (k : Int) + 1 < (tn : Int) := by omega
      have dk : decide ((k : Int) + 1 < (tn : Int)) = true := by simp; omega
      have dk3 : decide ((k : Int) < 3) = true := by simp; omega
      obtain ⟨tb', toff', hta, htb, hcell⟩ := HNT.out.rd (by omega)
      injection hta with hta
      injection hta with hta1 hta2
      subst hta1 hta2
      have tc0 := hcell k (by omega)
      have tc1 := hcell (k + 1) hlt
      have htb1 : tb < w.heap.size + 1 := by omega
      clear hcell
      obtain ⟨q, hqe⟩ : ∃ q, ts.getD k 0 = q := ⟨_, rfl⟩
      obtain ⟨p, hpe⟩ : ∃ p, ts.getD (k + 1) 0 = p := ⟨_, rfl⟩
      rw [hqe] at tc0
      rw [hpe] at tc1
      clear hqe hpe
      go_upto_region 6 with fail
      go_region
      have HB := Hk.mk HB.out.drew
      clear hc hf hl hn' hm
      obtain ⟨W6, hW6⟩ : ∃ W6, wr.drew = W6 := ⟨_, rfl⟩
      rw [hW6] at HB ⊢
      clear hW6
      obtain ⟨hc, hf, hl, hn', hm⟩ := kw_rules HB.out hNW
      by_cases ht1 : ¬ (0 ≤ q ∧ q < W * H)
      · have HQ1 : Hk (decide (0 ≤ q ∧ q < W * H) = false) := ⟨decide_eq_false ht1⟩
        as_aux_lemma =>
          go_wp2_with (go_at_call 25; (with_reducible refine (rtile_as false q W H _ _ GG.out.w1 GG.out.w2 GG.out.h1 GG.out.h2 HQ1).mono ?_); rintro e z ⟨rfl, hb⟩; replace HB := Hk.mk (kw_step HB.out hNW hb); clear hb; clear hc hf hl hn' hm; obtain ⟨hc, hf, hl, hn', hm⟩ := kw_rules HB.out hNW)
          exact ⟨⟨k + 1, by go_num, by omega, HB⟩, by simp [intOf]; omega⟩
      have HQ1 : Hk (decide (0 ≤ q ∧ q < W * H) = true) := ⟨decide_eq_true (Decidable.not_not.1 ht1)⟩
      by_cases ht2 : ¬ (0 ≤ p ∧ p < W * H)
      · have HQ2 : Hk (decide (0 ≤ p ∧ p < W * H) = false) := ⟨decide_eq_false ht2⟩
        as_aux_lemma =>
          go_wp2_with (first | (go_at_call 25; (with_reducible refine (rtile_as true q W H _ _ GG.out.w1 GG.out.w2 GG.out.h1 GG.out.h2 HQ1).mono ?_); rintro e z ⟨rfl, hb⟩; replace HB := Hk.mk (kw_step HB.out hNW hb); clear hb; clear hc hf hl hn' hm; obtain ⟨hc, hf, hl, hn', hm⟩ := kw_rules HB.out hNW) | (go_at_call 25; (with_reducible refine (rtile_as false p W H _ _ GG.out.w1 GG.out.w2 GG.out.h1 GG.out.h2 HQ2).mono ?_); rintro e z ⟨rfl, hb⟩; replace HB := Hk.mk (kw_step HB.out hNW hb); clear hb; clear hc hf hl hn' hm; obtain ⟨hc, hf, hl, hn', hm⟩ := kw_rules HB.out hNW))
          exact ⟨⟨k + 1, by go_num, by omega, HB⟩, by simp [intOf]; omega⟩
      have HQ2 : Hk (decide (0 ≤ p ∧ p < W * H) = true) := ⟨decide_eq_true (Decidable.not_not.1 ht2)⟩
      obtain ⟨goal, rfl⟩ : ∃ goal : Nat, q = goal := ⟨q.toNat, by omega⟩
      obtain ⟨at', rfl⟩ : ∃ at' : Nat, p = at' := ⟨p.toNat, by omega⟩
      have hg : goal < n := by have := GG.out.nn; omega
      have hat : at' < n := by have := GG.out.nn; omega
      have p0 : (0 : Int) ≤ (at' : Int) := by omega
      have p1 : (at' : Int) < (n : Int) := by omega
      clear ht1 ht2
      as_aux_lemma =>
        go_upto_region 9 with (first | (go_at_call 25; (with_reducible refine (rtile_as true goal W H _ _ GG.out.w1 GG.out.w2 GG.out.h1 GG.out.h2 HQ1).mono ?_); rintro e z ⟨rfl, hb⟩; replace HB := Hk.mk (kw_step HB.out hNW hb); clear hb; clear hc hf hl hn' hm; obtain ⟨hc, hf, hl, hn', hm⟩ := kw_rules HB.out hNW) | (go_at_call 25; (with_reducible refine (rtile_as true at' W H _ _ GG.out.w1 GG.out.w2 GG.out.h1 GG.out.h2 HQ2).mono ?_); rintro e z ⟨rfl, hb⟩; replace HB := Hk.mk (kw_step HB.out hNW hb); clear hb; clear hc hf hl hn' hm; obtain ⟨hc, hf, hl, hn', hm⟩ := kw_rules HB.out hNW) | (go_at_call 27; (with_reducible refine (copyg13 W H a n c xs _ ?_ hn2).mono ?_); (exact (HBY.out _ HB.out).mono (hsz1 HB.out)); rintro e z hcg; obtain ⟨a2, c2, rfl, hown, hb⟩ := hcg; obtain ⟨g2, rfl, hg2b, hg2l⟩ := own_some hown (by omega); have HOW := Hk.mk hown; have HG2 : Hk (w.heap.size + 1 ≤ g2) := ⟨Nat.le_trans (kw_size HB.out hNW) hg2b⟩; clear hown hg2b; replace HB := Hk.mk (kw_step HB.out hNW hb); clear hb; clear hc hf hl hn' hm; obtain ⟨hc, hf, hl, hn', hm⟩ := kw_rules HB.out hNW))
        have HOA := Hk.mk (own_al HOW.out (.cells #[.int .i64 W, .int .i64 H, .slice (some ⟨g2, 0, none⟩) n c2] 24))
        have HBA := Hk.mk (kw_al HB.out hNW (.cells #[.int .i64 W, .int .i64 H, .slice (some ⟨g2, 0, none⟩) n c2] 24))
        have HGK := Hk.mk (Bk.new z #[.int .i64 W, .int .i64 H, .slice (some ⟨g2, 0, none⟩) n c2] 24)
        clear HB HOW
        clear hc hf hl hn' hm
        obtain ⟨W8, hW8⟩ : ∃ W8, z.alloc (.cells #[.int .i64 W, .int .i64 H, .slice (some ⟨g2, 0, none⟩) n c2] 24) = W8 := ⟨_, rfl⟩
        rw [hW8] at HOA HBA HGK ⊢
        clear hW8
        obtain ⟨GB, hGB⟩ : ∃ GB, z.heap.size = GB := ⟨_, rfl⟩
        rw [hGB] at HGK hg2l ⊢
        clear hGB
        have HB := HBA
        clear HBA
        obtain ⟨hc, hf, hl, hn', hm⟩ := kw_rules HB.out hNW
        have gw2 : W8.cell? ⟨GB, 2, none⟩ = some (.slice (some ⟨g2, 0, none⟩) n c2) := HGK.out.c 2
        obtain ⟨a9, c9, e9, -, hby9, -⟩ := HOA.out.by_
        injection e9 with e91 e92 e93
        subst e91 e93
        obtain ⟨b9, o9, e94, hb9, hcc9⟩ := hby9.at_ (by omega)
        injection e94 with e94
        injection e94 with e95 e96
        subst e95 e96
        have s0 := hcc9 at' hat
        rw [Nat.zero_add] at s0
        have sf := HOA.out.2.2.frozenAt at'
        clear hcc9 hby9
        go_upto_region 10 with fail
        have HO9 := Hk.mk (HOA.out.set_ at' (y := 1) ⟨by omega, by omega⟩)
        have HG9 := Hk.mk (HGK.out.oth (Q := g2) (by omega) at' (.int .u8 1))
        have HB9 : Hk (Below (w.heap.size + 1) (w.alloc (.cells #[.int .i64 W, .int .i64 H, .slice a n c, .slice la ln lc, .int .i64 cl, .int .i64 s, .slice (some ⟨tb, toff, none⟩) tn tc] 28)) (W8.setCell ⟨g2, at', none⟩ (.int .u8 1))) := ⟨HB.out.setCell HG2.out _⟩
        clear HB HOA HGK gw2 s0 sf
        clear hc hf hl hn' hm
        obtain ⟨W9, hW9⟩ : ∃ W9, W8.setCell ⟨g2, at', none⟩ (.int .u8 1) = W9 := ⟨_, rfl⟩
        rw [hW9] at HO9 HG9 HB9 ⊢
        clear hW9
        have HB := HB9
        clear HB9
        have HYC : Hk (By W9 W9.heap.size (some ⟨g2, 0, none⟩) n (rdL xs at')) := ⟨own_byS HO9.out⟩
        clear HO9
        obtain ⟨hc, hf, hl, hn', hm⟩ := kw_rules HB.out hNW
        have MR : Hk (MOk W H n (rdL xs at') bs) := ⟨mok_road MM.out⟩
        as_aux_lemma =>
          go_upto_region 11 with (go_at_call 28; (with_reducible refine (make_yes W H a n c xs la ln lc bs cl s goal _ (HLF.out _ HB.out) ?_ ?_ hn1 hln1 hc3 hs MM hg).mono ?_); (exact (HBY.out _ HB.out).mono (hsz1 HB.out)); (exact (HBQ.out _ HB.out).mono (hsz1 HB.out)); rintro e z ⟨J1, D1, rfl, hJ, hA, hT, hb⟩; have HA1 := Hk.mk hA; have HT1 := Hk.mk hT; replace HYC := Hk.mk ((HYC.out.below hb (Nat.le_refl _)).mono hb.size); replace HG9 := Hk.mk (HG9.out.below hb); have gz0 : z.cell? ⟨GB, 0, none⟩ = some (.int .i64 W) := HG9.out.c 0; have gz1 : z.cell? ⟨GB, 1, none⟩ = some (.int .i64 H) := HG9.out.c 1; have gz2 : z.cell? ⟨GB, 2, none⟩ = some (.slice (some ⟨g2, 0, none⟩) n c2) := HG9.out.c 2; clear hJ hA hT; replace HB := Hk.mk (kw_step HB.out hNW hb); clear hb; clear hc hf hl hn' hm; obtain ⟨hc, hf, hl, hn', hm⟩ := kw_rules HB.out hNW)
          as_aux_lemma =>
            go_wp2_with (first
              | (go_at_call 21; (with_reducible refine (num13_any _ _).mono ?_); rintro e z ⟨rfl, rfl⟩)
              | (go_at_call 28; (with_reducible refine (make_yes W H (some ⟨g2, 0, none⟩) n c2 (rdL xs at') la ln lc bs cl s goal _ (HLF.out _ HB.out) HYC.out ?_ hn1 hln1 hc3 hs MR hg).mono ?_); (exact (HBQ.out _ HB.out).mono (hsz1 HB.out)); rintro e z ⟨J2, D2, rfl, hJ, hA, hT, hb⟩; replace HA1 := Hk.mk (HA1.out.later hb); have HA2 := Hk.mk hA; have HTS : Hk (∀ t, t < n → 0 ≤ D1 t → 0 ≤ D2 t ∧ D2 t ≤ D1 t) := ⟨tab_roads GG.out.w2 hc3 HT1.out hT⟩; clear hJ hA hT; replace HB := Hk.mk (kw_step HB.out hNW hb); clear hb; clear hc hf hl hn' hm; obtain ⟨hc, hf, hl, hn', hm⟩ := kw_rules HB.out hNW))
            have HB := HB
            have HA1 := HA1
            have HA2 := HA2
            clear hc hf hl hn' hm
            go_loopw [11] (fun i wr => ∃ t : Nat, i = .int .i64 t ∧ t ≤ n ∧ Hk (Below (w.heap.size + 1) (w.alloc (.cells #[.int .i64 W, .int .i64 H, .slice a n c, .slice la ln lc, .int .i64 cl, .int .i64 s, .slice (some ⟨tb, toff, none⟩) tn tc] 28)) wr) ∧ Hk (Arr wr J1 n 3 (fun t => .int .i64 (D1 t))) ∧ Hk (Arr wr J2 n 3 (fun t => .int .i64 (D2 t)))) (fun i _ => n - (intOf i).toNat)
            case atStart => exact ⟨0, rfl, by omega, HB, HA1, HA2⟩
            case round =>
              clear HB HA1 HA2
              obtain ⟨t, rfl, ht, HB, HA1, HA2⟩ := hrel
              obtain ⟨hc, hf, hl, hn', hm⟩ := kw_rules HB.out hNW
              by_cases htn : t < n
              · have t0 : (0 : Int) ≤ (t : Int) := by omega
                have t1 : (t : Int) < (n : Int) := by omega
                have c1 := HA1.out.cell htn
                have c3 := HA2.out.cell htn
                have hts := HTS.out t htn
                generalize D1 t = x at *
                generalize D2 t = y at *
                by_cases hx : 0 ≤ x
                · obtain ⟨hy0, hyx⟩ := hts hx
                  have d1 : decide (0 ≤ x) = true := by simpa using hx
                  have d2 : decide (y < 0) = false := by simp; omega
                  have d3 : decide (x < y) = false := by simp; omega
                  clear hts
                  as_aux_lemma =>
                    go_upto_region 17 with fail
                    go_region
                    go_wp2_with fail
                    exact ⟨⟨t + 1, by go_num, by omega, ⟨HB.out.drew⟩, ⟨HA1.out.drew⟩, ⟨HA2.out.drew⟩⟩, by simp [intOf]; omega⟩
                · have d1 : decide (0 ≤ x) = false := by simpa using hx
                  clear hts
                  as_aux_lemma =>
                    go_upto_region 17 with fail
                    go_region
                    go_wp2_with fail
                    exact ⟨⟨t + 1, by go_num, by omega, ⟨HB.out.drew⟩, ⟨HA1.out.drew⟩, ⟨HA2.out.drew⟩⟩, by simp [intOf]; omega⟩
              · obtain rfl : n = t := by omega
                go_wp2_with fail
                exact ⟨⟨k + 1, by go_num, by omega, HB⟩, by simp [intOf]; omega⟩
    · have hor : (¬ k + 1 < tn) ∨ (k + 1 < tn ∧ ¬ k < 3) := by omega
      rcases hor with h1 | ⟨h1, h3⟩
      · have dk : decide ((k : Int) + 1 < (tn : Int)) = false := by simp; omega
        as_aux_lemma =>
          go_wp2_with (first
            | (go_at_call 37; (with_reducible refine (rmay13_as true W H a n c xs la ln lc bs cl s _ ?_ ?_ hn1 hln1 ⟨⟨fun _ => ⟨MM.out, by omega, by omega⟩, fun _ => rfl⟩⟩).mono ?_); (exact (HBY.out _ HB.out).mono (hsz1 HB.out)); (exact (HBQ.out _ HB.out).mono (hsz1 HB.out)); rintro e z ⟨rfl, hb⟩; replace HB := Hk.mk (kw_step HB.out hNW hb); clear hb; clear hc hf hl hn' hm; obtain ⟨hc, hf, hl, hn', hm⟩ := kw_rules HB.out hNW)
            | (go_at_call 24; (with_reducible refine (wakes13_any _ (HLF.out _ HB.out)).mono ?_); rintro e z ⟨rfl, hb⟩; replace HB := Hk.mk (kw_step HB.out hNW hb); clear hb; clear hc hf hl hn' hm; obtain ⟨hc, hf, hl, hn', hm⟩ := kw_rules HB.out hNW))
          go_ret
          exact ⟨rfl, HTR.out _ HB.out⟩
      · have dk : decide ((k : Int) + 1 < (tn : Int)) = true := by simp; omega
        have dk3 : decide ((k : Int) < 3) = false := by simp; omega
        as_aux_lemma =>
          go_wp2_with (first
            | (go_at_call 37; (with_reducible refine (rmay13_as true W H a n c xs la ln lc bs cl s _ ?_ ?_ hn1 hln1 ⟨⟨fun _ => ⟨MM.out, by omega, by omega⟩, fun _ => rfl⟩⟩).mono ?_); (exact (HBY.out _ HB.out).mono (hsz1 HB.out)); (exact (HBQ.out _ HB.out).mono (hsz1 HB.out)); rintro e z ⟨rfl, hb⟩; replace HB := Hk.mk (kw_step HB.out hNW hb); clear hb; clear hc hf hl hn' hm; obtain ⟨hc, hf, hl, hn', hm⟩ := kw_rules HB.out hNW)
            | (go_at_call 24; (with_reducible refine (wakes13_any _ (HLF.out _ HB.out)).mono ?_); rintro e z ⟨rfl, hb⟩; replace HB := Hk.mk (kw_step HB.out hNW hb); clear hb; clear hc hf hl hn' hm; obtain ⟨hc, hf, hl, hn', hm⟩ := kw_rules HB.out hNW))
          go_ret
          exact ⟨rfl, HTR.out _ HB.out⟩
end Go.Proofs.YthabjihpjdlmoaaDoor
