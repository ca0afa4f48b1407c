/- Layer 9: the reference's Grid. -/
import Derived.Test.YtjjodfdmbiebnaaDoorClg
import Derived.Deep.QuietTactic
import Derived.BigQuiet
import Derived.Deep.RegionWith
import Derived.Deep.RegionHeld3
import Derived.Deep.DeepCutAuto
import Derived.Deep.DeepFit
import Derived.Outline
namespace Go.Proofs.YtjjodfdmbiebnaaDoor
open Go.RowKit
set_option linter.unusedVariables false
set_option linter.unusedSimpArgs false
theorem fr2_rules {P Q : Nat} {Z X : World} (h : Fr (fun j => j = P ∨ j = Q) Z X) :
    (∀ b o, b < Z.heap.size → ¬ b = P → ¬ b = Q → X.cell? ⟨b, o, none⟩ = Z.cell? ⟨b, o, none⟩) ∧ (∀ b, b < Z.heap.size → b < X.heap.size) ∧ (∀ b, b < Z.heap.size → ¬ b = X.heap.size) ∧ (∀ b, b < Z.heap.size → ¬ X.heap.size = b) := by
  have hs := h.size
  exact ⟨fun b o hb h1 h2 => h.cell hb (fun e => by rcases e with e | e; exact h1 e; exact h2 e), fun b hb => by omega, fun b hb => by omega, fun b hb => by omega⟩
set_option maxRecDepth 100000 in
set_option maxHeartbeats 1600000 in
theorem rgrid_any (W H : Int) (a : Option Addr) (n c : Nat) (xs : List Int) (la : Option Addr) (ln lc : Nat) (bs : List Bd) (w : World) (h : By w w.heap.size a n xs) (hb0 : Bq w w.heap.size la ln bs) (cl : Nat) (hc3 : cl < 3) (MM : Hk (MOk W H n xs bs)) :
    Calls Tryd.prog 31 #[.agg #[.int .i64 W, .int .i64 H, .slice a n c], .slice la ln lc, .int .i64 cl] w fun e w' => ∃ g, e = .returned (.slice (some ⟨g, 0, none⟩) n n) ∧ w.heap.size ≤ g ∧ Arr w' g n 3 (fun k => .int .i64 (sC W H (opn W xs bs cl) k)) ∧ Below w.heap.size w w' := by
  have HWB : Hk (Below w.heap.size w (w.alloc (.cells #[.int .i64 W, .int .i64 H, .slice a n c] 24))) := ⟨(Below.refl _ _).alloc (Nat.le_refl _) _⟩
  have hNW : w.heap.size + 1 ≤ (w.alloc (.cells #[.int .i64 W, .int .i64 H, .slice a n c] 24)).heap.size := by simp
  have HB : Hk (Below (w.heap.size + 1) (w.alloc (.cells #[.int .i64 W, .int .i64 H, .slice a n c] 24)) (w.alloc (.cells #[.int .i64 W, .int .i64 H, .slice a n c] 24))) := ⟨Below.refl _ _⟩
  have HTR : Hk (∀ X, Below (w.heap.size + 1) (w.alloc (.cells #[.int .i64 W, .int .i64 H, .slice a n c] 24)) X → Below w.heap.size w X) := ⟨fun X hX => HWB.out.trans (hX.mono (by omega))⟩
  have HBY := Hk.mk (fun (X : World) (hX : Below (w.heap.size + 1) (w.alloc (.cells #[.int .i64 W, .int .i64 H, .slice a n c] 24)) X) => h.below (HTR.out X hX) (Nat.le_refl _))
  have HBQ := Hk.mk (fun (X : World) (hX : Below (w.heap.size + 1) (w.alloc (.cells #[.int .i64 W, .int .i64 H, .slice a n c] 24)) X) => hb0.below (HTR.out X hX) (Nat.le_refl _))
  have info_b : (Tryd.prog.info? 4).map (fun i => (i.zero, i.size, i.bytes)) = some (some (.bool false), 1, 1) := by kernel_rfl
  obtain ⟨ib, bi, bz0, bz1, bz2⟩ := info_parts info_b
  have info_i : (Tryd.prog.info? 3).map (fun i => (i.zero, i.size, i.bytes)) = some (some (.int .i64 0), 1, 8) := by kernel_rfl
  obtain ⟨i0, hi, hz0, hz1, hz2⟩ := info_parts info_i
  clear info_b info_i h hb0
  have w1 := MM.out.g.w1; have w2 := MM.out.g.w2; have h1 := MM.out.g.h1; have h2 := MM.out.g.h2
  have hn16 : n ≤ 16384 := by have := MM.out.g.nn; have := mul_bd w1 w2 h1 h2; omega
  have HNN := Hk.mk MM.out.g.nn
  go_enter Tryd.func31, Tryd.ntmps31
  go_wp2_with (first | (go_at_call 25; (with_reducible refine (ropen_any W H a n c xs la ln lc bs _ ?_ ?_ cl hc3 MM).mono ?_); (exact (HBY.out _ HB.out).mono (hsz1 HB.out)); (exact (HBQ.out _ HB.out).mono (hsz1 HB.out)); rintro e z1 ⟨I, rfl, hg1, hA1, hb⟩; have HG1 : Hk (w.heap.size + 1 ≤ I) := ⟨Nat.le_trans (kw_size HB.out hNW) hg1⟩; have HA1 := Hk.mk hA1; clear hA1 hg1; replace HB := Hk.mk (kw_step HB.out hNW hb); clear hb; obtain ⟨hc, hf, hl, hn', hm⟩ := kw_rules HB.out hNW) | (at_make; go_must (refine wpList_make_full _ rfl _ _ 25 rfl (w.heap.size + 1) 3 i0 (.int .i64 0) 1 Tryd.underlying25 hi hz0 hz1 .i64 .i64 _ _ n rfl rfl rfl rfl (by rw [hz2]; omega) (by unfold maxLen; omega) (kw_size HB.out hNW) ?_); intro z4 hown hgrow; have HG2 : Hk (w.heap.size + 1 ≤ z1.heap.size ∧ I < z1.heap.size) := ⟨⟨kw_size HB.out hNW, HA1.out.lt⟩⟩; have hb := below_grown hgrow; replace HA1 := Hk.mk (HA1.out.later hb); replace HB := Hk.mk (kw_step HB.out hNW hb); have HA2 := Hk.mk (Arr.made hown rfl); clear hb hown hgrow))
  clear hc hf hl hn' hm
  generalize z1.heap.size = P at *
  have HIP : Hk (I ≠ P ∧ w.heap.size + 1 ≤ P) := ⟨⟨by have := HG2.out; omega, HG2.out.1⟩⟩
  clear HG2
  have hwP : ¬ w.heap.size = P := by have := HIP.out.2; omega
  go_loopg [7, 9] 200 (fun k s l wr => ∃ m I, ∃ lv : Bool, s = .slice (some ⟨I, 0, none⟩) n n ∧ l = .bool lv ∧ k = 200 - m ∧ (lv = true → m ≤ 128) ∧ Hk (lv = false → ∀ t, t < n → sC W H (opn W xs bs cl) t ≤ m) ∧ Hk (I ≠ P ∧ w.heap.size + 1 ≤ I) ∧ Hk (Below (w.heap.size + 1) (w.alloc (.cells #[.int .i64 W, .int .i64 H, .slice a n c] 24)) wr) ∧ Hk (Arr wr I n 4 (fun j => .bool (sqT W H (opn W xs bs cl) (m + 1) j))) ∧ Hk (Arr wr P n 3 (fun j => .int .i64 ((min m (sC W H (opn W xs bs cl) j) : Nat) : Int))))
  case atStart => exact ⟨0, I, true, rfl, rfl, rfl, fun _ => by omega, ⟨fun h => by cases h⟩, ⟨⟨HIP.out.1, HG1.out⟩⟩, HB, ⟨HA1.out.congr fun j hj => by rw [sqT_one w1 HNN.out hj]⟩, ⟨HA2.out.congr fun j hj => by simp⟩⟩
  case round =>
    clear HA1 HA2 HB HG1
    obtain ⟨m, J, lv, rfl, rfl, rfl, hm128, HLV, HJ, HB, HA1, HA2⟩ := hrel
    cases lv
    case false =>
      go_wp2
      go_ret
      exact ⟨P, rfl, by have := HIP.out; omega, HA2.out.congr fun j hj => by rw [Nat.min_eq_right (HLV.out (by simp) j hj)], HTR.out _ HB.out⟩
    case true =>
      have hm := hm128 rfl
      clear hm128 HLV
      obtain ⟨hc, hf, hl, hn', hm⟩ := kw_rules HB.out hNW
      go_wp2_with (at_make; go_must (refine wpList_make_full _ rfl _ _ 51 rfl (w.heap.size + 1) 4 ib (.bool false) 1 Tryd.underlying51 bi bz0 bz1 .i64 .i64 _ _ n rfl rfl rfl rfl (by rw [bz2]; omega) (by unfold maxLen; omega) (kw_size HB.out hNW) ?_); intro z4 hown hgrow)
      have HQ0 : Hk (w.heap.size + 1 ≤ wr.heap.size ∧ J < wr.heap.size ∧ P < wr.heap.size) := ⟨⟨kw_size HB.out hNW, HA1.out.lt, HA2.out.lt⟩⟩
      have hb := below_grown hgrow
      replace HA1 := Hk.mk (HA1.out.later hb)
      replace HA2 := Hk.mk (HA2.out.later hb)
      replace HB := Hk.mk (kw_step HB.out hNW hb)
      have HA3 := Hk.mk (Arr.made hown rfl)
      clear hb hown hgrow
      clear hc hf hl hn' hm
      generalize wr.heap.size = Q at *
      have hwQ : ¬ w.heap.size = Q := by have := HQ0.out.1; omega
      have hJQ : ¬ J = Q := by have := HQ0.out.2.1; omega
      have hPQ : ¬ P = Q := by have := HQ0.out.2.2; omega
      have hQP : ¬ Q = P := by omega
      have hJP : ¬ J = P := HJ.out.1
      have hwl : w.heap.size < z4.heap.size := by have := HB.out.size; simp at this; omega
      have D0 : z4.cell? ⟨w.heap.size, 0, none⟩ = some (.int .i64 W) := by rw [HB.out.cell (p := ⟨w.heap.size, 0, none⟩) (by show w.heap.size < _; omega)]; go_simp
      have D1 : z4.cell? ⟨w.heap.size, 1, none⟩ = some (.int .i64 H) := by rw [HB.out.cell (p := ⟨w.heap.size, 1, none⟩) (by show w.heap.size < _; omega)]; go_simp
      have D2 : z4.cell? ⟨w.heap.size, 2, none⟩ = some (.slice a n c) := by rw [HB.out.cell (p := ⟨w.heap.size, 2, none⟩) (by show w.heap.size < _; omega)]; go_simp
      obtain ⟨wo, rfl⟩ : ∃ wo : World, wo = wr := ⟨wr, rfl⟩
      go_loopw [9, 11] (fun l s wr => ∃ t : Nat, ∃ lv : Bool, l = .bool lv ∧ s = .int .i64 t ∧ t ≤ n ∧ Hk (lv = true → m + 1 ≤ 128) ∧ Hk (lv = false → ∀ j, j < t → sqT W H (opn W xs bs cl) (m + 2) j = false) ∧ Hk (Fr (fun q => q = P ∨ q = Q) z4 wr) ∧ Hk (Arr wr J n 4 (fun j => .bool (sqT W H (opn W xs bs cl) (m + 1) j))) ∧ Hk (Arr wr P n 3 (fun j => .int .i64 ((if j < t then min (m + 1) (sC W H (opn W xs bs cl) j) else min m (sC W H (opn W xs bs cl) j) : Nat) : Int))) ∧ Hk (Arr wr Q n 4 (fun j => .bool (if j < t then sqT W H (opn W xs bs cl) (m + 2) j else false)))) (fun _ s _ => n - (intOf s).toNat)
      case atStart => exact ⟨0, false, rfl, rfl, Nat.zero_le _, ⟨fun h => by cases h⟩, ⟨fun _ j hj => absurd hj (by omega)⟩, ⟨Fr.refl _ _⟩, HA1, ⟨HA2.out.congr fun j _ => by rw [if_neg (by omega)]⟩, ⟨HA3.out.congr fun j _ => by rw [if_neg (by omega)]⟩⟩
      case round =>
        clear HA1 HA2 HA3
        obtain ⟨t, lv, rfl, rfl, ht, HL1, HL0, HF, HA1, HA2, HA3⟩ := hrel
        obtain ⟨kc, kl, kn, km⟩ := fr2_rules HF.out
        by_cases hlt : t < n
        · have v0 := HA1.out.cell hlt
          have t0 : (0 : Int) ≤ (t : Int) := by omega
          have t1 : (t : Int) < (n : Int) := by omega
          cases hq : sqT W H (opn W xs bs cl) (m + 1) t
          case false =>
            rw [hq] at v0
            have HZ : Hk (min (m + 1) (sC W H (opn W xs bs cl) t) = min m (sC W H (opn W xs bs cl) t)) := ⟨by
              have : ¬ (m + 1 ≤ sC W H (opn W xs bs cl) t) := fun h => by rw [(sqT_sC w2 (m + 1) t).2 h] at hq; cases hq
              omega⟩
            have HS : Hk (sqT W H (opn W xs bs cl) (m + 2) t = false) := ⟨sqT_no w2 hq⟩
            clear hq
            go_wp2
            exact ⟨⟨t + 1, lv, rfl, by go_num, by omega, HL1, ⟨fun h j hj => by
              by_cases e : j = t
              · subst e; exact HS.out
              · exact HL0.out h j (by omega)⟩, HF, HA1, ⟨HA2.out.congr fun j _ => by
              by_cases e : j = t
              · subst e; rw [if_pos (by omega), if_neg (by omega), HZ.out]
              · by_cases e2 : j < t
                · rw [if_pos (by omega), if_pos e2]
                · rw [if_neg (by omega), if_neg e2]⟩, ⟨HA3.out.congr fun j _ => by
              by_cases e : j = t
              · subst e; rw [if_pos (by omega), if_neg (by omega), HS.out]
              · by_cases e2 : j < t
                · rw [if_pos (by omega), if_pos e2]
                · rw [if_neg (by omega), if_neg e2]⟩⟩, by simp [intOf]; omega⟩
          case true =>
            rw [hq] at v0
            have hms : m + 1 ≤ sC W H (opn W xs bs cl) t := (sqT_sC w2 (m + 1) t).1 hq
            have a0 := HA2.out.cell hlt
            have az := HA2.out.frozen t
            rw [if_neg (by omega), Nat.min_eq_left (by omega)] at a0
            have b0 := HA3.out.cell hlt
            have bz := HA3.out.frozen t
            rw [if_neg (by omega)] at b0
            have HZ : Hk (min (m + 1) (sC W H (opn W xs bs cl) t) = m + 1) := ⟨Nat.min_eq_left hms⟩
            have HAL : Hk (alO W H (opn W xs bs cl) m t 8 = sqT W H (opn W xs bs cl) (m + 2) t) := ⟨alO_full w1 HNN.out hlt hq⟩
            clear hq hms
            go_wp2_with (go_at_call 36; (with_reducible refine (rnear_q W H t (.slice a n c) _ w1 w2 h1 h2 t0 (by omega)).mono ?_); rintro e z5 ⟨gn, cn, rfl, hnq, hb⟩; have HA1' := Hk.mk (((HA1.out.far ⟨P, t, none⟩ (.int .i64 ((m : Int) + 1)) hJP).far ⟨Q, t, none⟩ (.bool true) hJQ).later hb); have HA2' := Hk.mk (((HA2.out.set hlt (.int .i64 ((m : Int) + 1))).far ⟨Q, t, none⟩ (.bool true) hPQ).later hb); have HA3' := Hk.mk (((HA3.out.far ⟨P, t, none⟩ (.int .i64 ((m : Int) + 1)) hQP).set hlt (.bool true)).later hb); have HF' := Hk.mk (((HF.out.setCell (p := ⟨P, t, none⟩) (fun _ => Or.inl rfl) (.int .i64 ((m : Int) + 1))).setCell (p := ⟨Q, t, none⟩) (fun _ => Or.inr rfl) (.bool true)).trans (Fr.of_all hb)); have HNQ := Hk.mk hnq; have hgq : Hk (Q < z5.heap.size) := ⟨HA3'.out.lt⟩; clear hnq)
            obtain ⟨bb, oo, hbo, hbl, hnear⟩ := HNQ.out.rd (by omega)
            simp only [Option.some.injEq, Addr.mk.injEq] at hbo
            obtain ⟨rfl, rfl, -⟩ := hbo
            have hgQ : ¬ gn = Q := by
              rintro rfl
              have e1 := hnear 0 (by omega)
              have e2 := HA3'.out.cell (k := 0) (by omega)
              rw [Nat.add_zero, e2] at e1
              by_cases e : 0 = t
              · rw [if_pos e] at e1; cases e1
              · rw [if_neg e] at e1; cases e1
            have HNR : Hk (∀ k, k < 8 → z5.cell? ⟨gn, k, none⟩ = some (.int .i64 (nb W H t k))) := ⟨fun k hk => by
              have := hnear k hk
              rw [Nat.zero_add, nb_getD W H t k hk] at this
              exact this⟩
            have hjl : J < z5.heap.size := HA1'.out.lt
            have hpl : P < z5.heap.size := HA2'.out.lt
            clear hnear HNQ HA1 HA2 HA3 HF kc kl kn km a0 az b0 bz v0
            go_loopw [13] (fun s wr => ∃ i : Nat, s = .int .i64 i ∧ i ≤ 8 ∧ Hk (Fr (fun q => q = Q) z5 wr) ∧ Hk (Arr wr Q n 4 (fun j => .bool (if j = t then alO W H (opn W xs bs cl) m t i else if j < t then sqT W H (opn W xs bs cl) (m + 2) j else false)))) (fun s _ => 8 - (intOf s).toNat)
            case atStart => exact ⟨0, rfl, by omega, ⟨Fr.refl _ _⟩, ⟨HA3'.out.congr fun j _ => by
              by_cases e : j = t
              · rw [if_pos e, if_pos e]; rfl
              · rw [if_neg e, if_neg e]⟩⟩
            case round =>
              clear HA3'
              obtain ⟨i, rfl, hi8, HG, HA3⟩ := hrel
              obtain ⟨ic, ifz, il, inn, im⟩ := fr_rules HG.out
              by_cases hlt8 : i < 8
              · have c0 := HNR.out i hlt8
                have b0 := HA3.out.cell hlt
                have bz := HA3.out.frozen t
                rw [if_pos rfl] at b0
                have i0' : (0 : Int) ≤ (i : Int) := by omega
                have i1' : (i : Int) < 8 := by omega
                have HNB : Hk (alO W H (opn W xs bs cl) m t (i + 1) = (alO W H (opn W xs bs cl) m t i && nbO W H (opn W xs bs cl) m t i)) := ⟨rfl⟩
                obtain ⟨u, hu⟩ : ∃ u, nb W H t i = u := ⟨_, rfl⟩
                rw [hu] at c0
                by_cases hu0 : 0 ≤ u
                · have hun : u < (n : Int) := by rw [HNN.out]; exact nb_lt w1 hu hu0
                  obtain ⟨q, rfl⟩ : ∃ q : Nat, u = q := ⟨u.toNat, by omega⟩
                  have hqn : q < n := by omega
                  have q0 := HA1'.out.cell hqn
                  have hdu : decide ((q : Int) < 0) = false := by simp
                  have HNV : Hk (nbO W H (opn W xs bs cl) m t i = sqT W H (opn W xs bs cl) (m + 1) q) := ⟨by unfold nbO; rw [hu, decide_eq_true hu0, Bool.true_and]; simp⟩
                  clear hu
                  cases hq2 : sqT W H (opn W xs bs cl) (m + 1) q
                  case false =>
                    rw [hq2] at q0
                    have HV : Hk (alO W H (opn W xs bs cl) m t (i + 1) = false) := ⟨by rw [HNB.out, HNV.out, hq2, Bool.and_false]⟩
                    clear hq2
                    go_wp2
                    exact ⟨⟨i + 1, by go_num, by omega, ⟨HG.out.setCell (p := ⟨Q, t, none⟩) (fun _ => rfl) _⟩, ⟨(HA3.out.set hlt _).congr fun j hj => by
                      by_cases e : j = t
                      · rw [if_pos e, if_pos e, HV.out]
                      · rw [if_neg e, if_neg e, if_neg e]⟩⟩, by simp [intOf]; omega⟩
                  case true =>
                    rw [hq2] at q0
                    have HV : Hk (alO W H (opn W xs bs cl) m t (i + 1) = alO W H (opn W xs bs cl) m t i) := ⟨by rw [HNB.out, HNV.out, hq2, Bool.and_true]⟩
                    clear hq2
                    go_wp2
                    exact ⟨⟨i + 1, by go_num, by omega, HG, ⟨HA3.out.congr fun j hj => by
                      by_cases e : j = t
                      · rw [if_pos e, if_pos e, HV.out]
                      · rw [if_neg e, if_neg e]⟩⟩, by simp [intOf]; omega⟩
                · have hdu : decide (u < 0) = true := by simp; omega
                  have HV : Hk (alO W H (opn W xs bs cl) m t (i + 1) = false) := ⟨by rw [HNB.out]; unfold nbO; rw [hu, decide_eq_false hu0, Bool.false_and, Bool.and_false]⟩
                  clear hu
                  go_wp2
                  exact ⟨⟨i + 1, by go_num, by omega, ⟨HG.out.setCell (p := ⟨Q, t, none⟩) (fun _ => rfl) _⟩, ⟨(HA3.out.set hlt _).congr fun j hj => by
                      by_cases e : j = t
                      · rw [if_pos e, if_pos e, HV.out]
                      · rw [if_neg e, if_neg e, if_neg e]⟩⟩, by simp [intOf]; omega⟩
              · have hi : i = 8 := by omega
                subst hi
                have b0 := HA3.out.cell hlt
                rw [if_pos rfl, HAL.out] at b0
                have HFF : Hk (Fr (fun q => q = P ∨ q = Q) z4 wr) := ⟨HF'.out.trans (HG.out.mono fun q _ e => Or.inr e)⟩
                have HB1 : Hk (Arr wr J n 4 (fun j => .bool (sqT W H (opn W xs bs cl) (m + 1) j))) := ⟨HA1'.out.fr HG.out hJQ⟩
                have HB2 : Hk (Arr wr P n 3 (fun j => .int .i64 ((if j < t + 1 then min (m + 1) (sC W H (opn W xs bs cl) j) else min m (sC W H (opn W xs bs cl) j) : Nat) : Int))) := ⟨(HA2'.out.fr HG.out hPQ).congr fun j _ => by
                  by_cases e : j = t
                  · subst e; rw [if_pos (by omega), if_pos rfl, HZ.out]; simp
                  · rw [if_neg e]
                    by_cases e2 : j < t
                    · rw [if_pos (by omega), if_pos e2]
                    · rw [if_neg (by omega), if_neg e2]⟩
                have HB3 : Hk (Arr wr Q n 4 (fun j => .bool (if j < t + 1 then sqT W H (opn W xs bs cl) (m + 2) j else false))) := ⟨HA3.out.congr fun j _ => by
                  by_cases e : j = t
                  · subst e; rw [if_pos (by omega), if_pos rfl, HAL.out]
                  · rw [if_neg e]
                    by_cases e2 : j < t
                    · rw [if_pos (by omega), if_pos e2]
                    · rw [if_neg (by omega), if_neg e2]⟩
                obtain ⟨x, hx⟩ : ∃ x, sqT W H (opn W xs bs cl) (m + 2) t = x := ⟨_, rfl⟩
                rw [hx] at b0
                have HX := Hk.mk hx
                clear hx
                cases lv
                case false =>
                  go_wp2
                  exact ⟨⟨t + 1, x, rfl, by go_num, by omega, ⟨fun h => by subst h; have := sqT_bd w2 HX.out; omega⟩, ⟨fun h j hj => by
                    by_cases e : j = t
                    · subst e; rw [HX.out]; exact h
                    · exact HL0.out (by simp) j (by omega)⟩, HFF, HB1, HB2, HB3⟩, by simp [intOf]; omega⟩
                case true =>
                  go_wp2
                  exact ⟨⟨t + 1, true, rfl, by go_num, by omega, HL1, ⟨fun h => by cases h⟩, HFF, HB1, HB2, HB3⟩, by simp [intOf]; omega⟩
        · have htn : t = n := by omega
          subst htn
          go_wp2
          go_roundg (200 - (m + 1))
          case measure => omega
          case rel =>
           exact ⟨m + 1, Q, lv, rfl, rfl, rfl, HL1.out, ⟨fun h j hj => by
            have := HL0.out h j hj
            by_cases c : sC W H (opn W xs bs cl) j ≤ m + 1
            · exact c
            · have := (sqT_sC (H := H) (f := (opn W xs bs cl)) w2 (m + 2) j).2 (by omega)
              rw [HL0.out h j hj] at this; cases this⟩, ⟨⟨by omega, by have := HQ0.out; omega⟩⟩, ⟨HB.out.trans (HF.out.below (B := w.heap.size + 1) (by have := HB.out.size; simp at this; omega) (fun q _ e => by rcases e with rfl | rfl; have := HIP.out; omega; have := HQ0.out; omega))⟩, ⟨HA3.out.congr fun j hj => by rw [if_pos hj]⟩, ⟨HA2.out.congr fun j hj => by rw [if_pos hj]⟩⟩
end Go.Proofs.YtjjodfdmbiebnaaDoor
