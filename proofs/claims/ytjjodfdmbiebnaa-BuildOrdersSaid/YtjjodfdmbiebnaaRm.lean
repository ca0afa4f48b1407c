import Derived.Shelf.Abstract
import Derived.Deep.QuietTactic
import Derived.BigQuiet
import Derived.Deep.RegionWith
import Derived.Deep.RegionHeld3
import Derived.Deep.DeepCutAuto
import Derived.Deep.DeepFit
import Derived.Outline
import Derived.Test.YtjjodfdmbiebnaaRl
/- Layer 8: package build's Add at any list. -/
namespace Go.Proofs.Ytjjodfdmbiebnaa
open Go.RowKit Go.Deep
set_option linter.unusedVariables false
set_option linter.unusedSimpArgs false
theorem insB_at : ∀ (bs : List Bd) (b : Bd) (i : Nat), i ≤ bs.length → (∀ k, k < i → (bs.getD k default).i < b.i) → (i < bs.length → ¬ (bs.getD i default).i < b.i) → insB bs b = bs.take i ++ [b] ++ bs.drop i
  | [], b, 0, _, _, _ => rfl
  | a :: bs, b, 0, _, _, h3 => by
    unfold insB
    rw [if_neg (show ¬ a.i < b.i from h3 (by simp))]
    rfl
  | a :: bs, b, i + 1, h1, h2, h3 => by
    unfold insB
    rw [if_pos (show a.i < b.i from h2 0 (by omega)), insB_at bs b i (by simpa using h1) (fun k hk => by have := h2 (k + 1) (by omega); simpa using this) (fun hi => by have := h3 (by simpa using hi); simpa using this)]
    rfl
theorem ins8_any (d : Bd) (S base : Nat) (v : Value) (n i : Nat) (bs : List Bd) (X : World) (h : OwnB8 X base v n bs) (hk : Bk X S #[.int .i64 d.i, .int .i64 d.o, .int .i64 d.x, .int .i64 d.y, .int .i64 d.w, .int .i64 d.h]) (hn : n ≤ 1099511627776) (hi : i ≤ n) (hb : base ≤ X.heap.size) :
    Calls Try.prog 67 #[v, .int .i64 (i : Int), .slice (some ⟨S, 0, none⟩) 1 1] X fun e z => ∃ v2, e = .returned v2 ∧ OwnB8 z base v2 (n + 1) (bs.take i ++ [d] ++ bs.drop i) ∧ Below base X z := by
  rcases h.row.2 with ⟨rfl, rfl⟩ | ⟨g, cap, cur, rfl, hg, hh, r⟩
  · obtain rfl : i = 0 := by omega
    obtain rfl : bs = [] := List.eq_nil_of_length_eq_zero h.len
    refine (ins8_nil d S X hk).mono ?_
    rintro e z ⟨v, rfl, hv, hb2⟩
    exact ⟨v, rfl, hv.weak hb, hb2.mono hb⟩
  · by_cases c1 : i = n
    · subst c1
      refine (ins8_end d S base g i cap bs X h hk hn hb).mono ?_
      rintro e z ⟨v, rfl, hv, hb2⟩
      have hl := h.len
      exact ⟨v, rfl, by rw [List.take_of_length_le (by omega), List.drop_eq_nil_of_le (by omega), List.append_nil]; exact hv, hb2⟩
    · by_cases c2 : n + 1 ≤ cap
      · by_cases c3 : S = g
        · exfalso
          subst c3
          obtain ⟨TS, hSh⟩ := hk.bl
          rw [hh] at hSh
          injection hSh with e
          injection e with e1 e2
          have hs := r.2.2.1
          rw [e1] at hs
          have h6 : (#[.int .i64 d.i, .int .i64 d.o, .int .i64 d.x, .int .i64 d.y, .int .i64 d.w, .int .i64 d.h] : Array Value).size = 6 := rfl
          omega
        · refine (ins8_room d S base g n cap i bs X h hk c3 hn (by omega) c2).mono ?_
          rintro e z ⟨rfl, hv, hb2⟩
          exact ⟨_, rfl, hv, hb2⟩
      · refine (ins8_grow d S base g n cap i bs X h hk hn hb (by omega) (by omega)).mono ?_
        rintro e z ⟨v, rfl, hv, hb2⟩
        exact ⟨v, rfl, hv, hb2⟩
set_option maxRecDepth 100000 in
set_option maxHeartbeats 3200000 in
/-- Add, whatever the list. -/
theorem badd_any (W H : Int) (a : Option Addr) (n c : Nat) (xs : List Int) (la : Option Addr) (ln lc : Nat) (bs : List Bd) (b : Bd) (w : World) (h : By w w.heap.size a n xs) (hb0 : Bq w w.heap.size la ln bs) (hn : n ≤ 140737488355328) (hln : ln ≤ 1099511627776) :
    Calls Try.prog 18 #[.agg #[.int .i64 W, .int .i64 H, .slice a n c], .slice la ln lc, .agg #[.int .i64 b.i, .int .i64 b.o, .int .i64 b.x, .int .i64 b.y, .int .i64 b.w, .int .i64 b.h]] w (AddR w W H n xs bs b) := by
  have eg : ∀ args w, (callFunc 65 args).run Try.prog w = .ok (.enter 65 args) w := enters_of Try.func65 (by kernel_rfl) rfl
  have EG := Hk.mk eg
  clear eg
  have HWB : Hk (Below w.heap.size w ((w.alloc (.cells #[.int .i64 W, .int .i64 H, .slice a n c] 24)).alloc (.cells #[.int .i64 b.i, .int .i64 b.o, .int .i64 b.x, .int .i64 b.y, .int .i64 b.w, .int .i64 b.h] 35))) := ⟨((Below.refl _ _).alloc (Nat.le_refl _) _).alloc (by simp) _⟩
  have hNW : w.heap.size + 2 ≤ ((w.alloc (.cells #[.int .i64 W, .int .i64 H, .slice a n c] 24)).alloc (.cells #[.int .i64 b.i, .int .i64 b.o, .int .i64 b.x, .int .i64 b.y, .int .i64 b.w, .int .i64 b.h] 35)).heap.size := by simp
  have hNW' : w.heap.size ≤ ((w.alloc (.cells #[.int .i64 W, .int .i64 H, .slice a n c] 24)).alloc (.cells #[.int .i64 b.i, .int .i64 b.o, .int .i64 b.x, .int .i64 b.y, .int .i64 b.w, .int .i64 b.h] 35)).heap.size := by simp; omega
  have HB : Hk (Below (w.heap.size + 2) ((w.alloc (.cells #[.int .i64 W, .int .i64 H, .slice a n c] 24)).alloc (.cells #[.int .i64 b.i, .int .i64 b.o, .int .i64 b.x, .int .i64 b.y, .int .i64 b.w, .int .i64 b.h] 35)) ((w.alloc (.cells #[.int .i64 W, .int .i64 H, .slice a n c] 24)).alloc (.cells #[.int .i64 b.i, .int .i64 b.o, .int .i64 b.x, .int .i64 b.y, .int .i64 b.w, .int .i64 b.h] 35))) := ⟨Below.refl _ _⟩
  have HTR : Hk (∀ X, Below (w.heap.size + 2) ((w.alloc (.cells #[.int .i64 W, .int .i64 H, .slice a n c] 24)).alloc (.cells #[.int .i64 b.i, .int .i64 b.o, .int .i64 b.x, .int .i64 b.y, .int .i64 b.w, .int .i64 b.h] 35)) X → Below w.heap.size w X) := ⟨fun X hX => HWB.out.trans (hX.mono (by omega))⟩
  have HBY := Hk.mk (fun (X : World) (hX : Below (w.heap.size + 2) ((w.alloc (.cells #[.int .i64 W, .int .i64 H, .slice a n c] 24)).alloc (.cells #[.int .i64 b.i, .int .i64 b.o, .int .i64 b.x, .int .i64 b.y, .int .i64 b.w, .int .i64 b.h] 35)) X) => h.below (HTR.out X hX) (Nat.le_refl _))
  have HBQ := Hk.mk (fun (X : World) (hX : Below (w.heap.size + 2) ((w.alloc (.cells #[.int .i64 W, .int .i64 H, .slice a n c] 24)).alloc (.cells #[.int .i64 b.i, .int .i64 b.o, .int .i64 b.x, .int .i64 b.y, .int .i64 b.w, .int .i64 b.h] 35)) X) => hb0.below (HTR.out X hX) (Nat.le_refl _))
  have HSZ : Hk (∀ X, Below (w.heap.size + 2) ((w.alloc (.cells #[.int .i64 W, .int .i64 H, .slice a n c] 24)).alloc (.cells #[.int .i64 b.i, .int .i64 b.o, .int .i64 b.x, .int .i64 b.y, .int .i64 b.w, .int .i64 b.h] 35)) X → w.heap.size ≤ X.heap.size) := ⟨fun X hX => by have := kw_size hX hNW; omega⟩
  have HLN := Hk.mk hb0.len
  clear h hb0
  obtain ⟨hc, hf, hl, hn', hm⟩ := kw_rules HB.out hNW
  by_cases M : MOk W H n xs bs
  case neg =>
    have EV : Hk (addE W H n xs bs b = 1) := ⟨by unfold addE; rw [if_neg M]⟩
    have MM := Hk.mk M
    clear M
    go_enter Try.func18, Try.ntmps18
    go_wp2_with (go_at_call 28; (with_reducible refine (cov_no W H a n c xs la ln lc bs _ ?_ ?_ hn hln MM).mono ?_); (exact (HBY.out _ HB.out).mono (HSZ.out _ HB.out)); (exact (HBQ.out _ HB.out).mono (HSZ.out _ HB.out)); rintro e z ⟨rfl, hb⟩; replace HB := Hk.mk (kw_step HB.out hNW hb); clear hb; clear hc hf hl hn' hm; obtain ⟨hc, hf, hl, hn', hm⟩ := kw_rules HB.out hNW)
    go_ret2
    exact Or.inl ⟨by rw [EV.out]; decide, by rw [EV.out]; rfl, HTR.out _ ((HB.out.alloc (kw_size HB.out hNW) _))⟩
  have HG := Hk.mk M.g
  have g := M.g
  have w1 := g.w1; have w2 := g.w2; have h1 := g.h1; have h2 := g.h2
  obtain ⟨m1, m2⟩ := mul_bd g.w1 g.w2 g.h1 g.h2
  have hnn := g.nn
  have hn2 : n ≤ 16384 := by omega
  have HNN := Hk.mk hnn
  have h256 : ln ≤ 256 := by have := M.len; rw [HLN.out] at this; omega
  have MM := Hk.mk M
  clear M g hnn
  go_enter Try.func18, Try.ntmps18
  go_upto_region 4 with (go_at_call 28; (with_reducible refine (cov_yes W H a n c xs la ln lc bs _ ?_ ?_ hn hln MM).mono ?_); (exact (HBY.out _ HB.out).mono (HSZ.out _ HB.out)); (exact (HBQ.out _ HB.out).mono (HSZ.out _ HB.out)); rintro e z ⟨gg, rfl, hgg, hA, hb⟩)
  have HA := Hk.mk (hA.alloc (.cells #[.slice (some ⟨gg, 0, none⟩) n n] 48))
  have HP := Hk.mk (Bk.new z #[.slice (some ⟨gg, 0, none⟩) n n] 48)
  have hBz := kw_step HB.out hNW hb
  replace HB := Hk.mk (hBz.alloc (kw_size hBz hNW) (.cells #[.slice (some ⟨gg, 0, none⟩) n n] 48))
  clear hA hb hBz hgg
  clear hc hf hl hn' hm
  generalize z.heap.size = P at *
  generalize z.alloc (.cells #[.slice (some ⟨gg, 0, none⟩) n n] 48) = Z at *
  obtain ⟨hc, hf, hl, hn', hm⟩ := kw_rules HB.out hNW
  cases hq1 : fmB b
  case false =>
    have Q1 := Hk.mk hq1
    have EV : Hk (addE W H n xs bs b = 1) := ⟨by unfold addE; rw [if_pos MM.out, if_pos hq1]⟩
    clear hq1
    go_wp2_with (first | (go_at_call 60; (with_reducible refine (place_any la ln lc w.heap.size bs b.i _ ?_ ?_ (by omega) MM.out.asc).mono ?_); (exact HBQ.out _ HB.out); (exact HSZ.out _ HB.out); rintro e z ⟨⟨i, d, rfl, hd, k1, k2, k3⟩, hb⟩; replace HB := Hk.mk (kw_step HB.out hNW hb); replace HA := Hk.mk (HA.out.later hb); replace HP := Hk.mk (HP.out.below hb); clear hb; clear hc hf hl hn' hm; obtain ⟨hc, hf, hl, hn', hm⟩ := kw_rules HB.out hNW; have HD := Hk.mk hd; have H2 := Hk.mk k2; have H3 := Hk.mk k3; clear hd k2 k3) | (go_at_call 61; (with_reducible refine (formed_as false b _ Q1).mono ?_); rintro e z ⟨rfl, hb⟩; replace HB := Hk.mk (kw_step HB.out hNW hb); replace HA := Hk.mk (HA.out.later hb); replace HP := Hk.mk (HP.out.below hb); clear hb; clear hc hf hl hn' hm; obtain ⟨hc, hf, hl, hn', hm⟩ := kw_rules HB.out hNW))
    go_ret2
    exact Or.inl ⟨by rw [EV.out]; decide, by rw [EV.out]; rfl, HTR.out _ HB.out⟩
  have FF := Hk.mk (fmB_iff.1 hq1)
  have Q1 := Hk.mk hq1
  clear hq1
  cases hq2 : inB W H b
  case false =>
    have Q2 := Hk.mk hq2
    have EV : Hk (addE W H n xs bs b = 3) := ⟨by unfold addE; rw [if_pos MM.out, if_neg (by rw [Q1.out]; decide), if_pos hq2]⟩
    clear hq2
    go_wp2_with (first | (go_at_call 60; (with_reducible refine (place_any la ln lc w.heap.size bs b.i _ ?_ ?_ (by omega) MM.out.asc).mono ?_); (exact HBQ.out _ HB.out); (exact HSZ.out _ HB.out); rintro e z ⟨⟨i, d, rfl, hd, k1, k2, k3⟩, hb⟩; replace HB := Hk.mk (kw_step HB.out hNW hb); replace HA := Hk.mk (HA.out.later hb); replace HP := Hk.mk (HP.out.below hb); clear hb; clear hc hf hl hn' hm; obtain ⟨hc, hf, hl, hn', hm⟩ := kw_rules HB.out hNW; have HD := Hk.mk hd; have H2 := Hk.mk k2; have H3 := Hk.mk k3; clear hd k2 k3) | (go_at_call 61; (with_reducible refine (formed_as true b _ Q1).mono ?_); rintro e z ⟨rfl, hb⟩; replace HB := Hk.mk (kw_step HB.out hNW hb); replace HA := Hk.mk (HA.out.later hb); replace HP := Hk.mk (HP.out.below hb); clear hb; clear hc hf hl hn' hm; obtain ⟨hc, hf, hl, hn', hm⟩ := kw_rules HB.out hNW) | (go_at_call 62; (with_reducible refine (inside_as false W H a n c b _ w1 w2 h1 h2 FF.out Q2).mono ?_); rintro e z ⟨rfl, hb⟩; replace HB := Hk.mk (kw_step HB.out hNW hb); replace HA := Hk.mk (HA.out.later hb); replace HP := Hk.mk (HP.out.below hb); clear hb; clear hc hf hl hn' hm; obtain ⟨hc, hf, hl, hn', hm⟩ := kw_rules HB.out hNW))
    go_ret2
    exact Or.inl ⟨by rw [EV.out]; decide, by rw [EV.out]; rfl, HTR.out _ HB.out⟩
  have II := Hk.mk (inB_iff.1 hq2)
  have Q2 := Hk.mk hq2
  clear hq2
  have n16 := n16_of FF.out
  go_upto_region 9 with (first | (go_at_call 60; (with_reducible refine (place_any la ln lc w.heap.size bs b.i _ ?_ ?_ (by omega) MM.out.asc).mono ?_); (exact HBQ.out _ HB.out); (exact HSZ.out _ HB.out); rintro e z ⟨⟨i, d, rfl, hd, k1, k2, k3⟩, hb⟩; replace HB := Hk.mk (kw_step HB.out hNW hb); replace HA := Hk.mk (HA.out.later hb); replace HP := Hk.mk (HP.out.below hb); clear hb; clear hc hf hl hn' hm; obtain ⟨hc, hf, hl, hn', hm⟩ := kw_rules HB.out hNW; have HD := Hk.mk hd; have H2 := Hk.mk k2; have H3 := Hk.mk k3; clear hd k2 k3) | (go_at_call 61; (with_reducible refine (formed_as true b _ Q1).mono ?_); rintro e z ⟨rfl, hb⟩; replace HB := Hk.mk (kw_step HB.out hNW hb); replace HA := Hk.mk (HA.out.later hb); replace HP := Hk.mk (HP.out.below hb); clear hb; clear hc hf hl hn' hm; obtain ⟨hc, hf, hl, hn', hm⟩ := kw_rules HB.out hNW) | (go_at_call 62; (with_reducible refine (inside_as true W H a n c b _ w1 w2 h1 h2 FF.out Q2).mono ?_); rintro e z ⟨rfl, hb⟩; replace HB := Hk.mk (kw_step HB.out hNW hb); replace HA := Hk.mk (HA.out.later hb); replace HP := Hk.mk (HP.out.below hb); clear hb; clear hc hf hl hn' hm; obtain ⟨hc, hf, hl, hn', hm⟩ := kw_rules HB.out hNW))
  cases d
  case true =>
    have EV : Hk (addE W H n xs bs b = 12) := ⟨by unfold addE; rw [if_pos MM.out, if_neg (by rw [Q1.out]; decide), if_neg (by rw [Q2.out]; decide), if_pos (Or.inl ⟨i, by have := HD.out.1 rfl; rw [HLN.out]; exact this.1, (HD.out.1 rfl).2⟩)]⟩
    clear HD H2 H3
    go_wp2_with fail
    go_ret2
    exact Or.inl ⟨by rw [EV.out]; decide, by rw [EV.out]; rfl, HTR.out _ HB.out⟩
  have HNO : Hk (¬ ∃ k, k < bs.length ∧ (bs.getD k default).i = b.i) := ⟨by
    rintro ⟨k, hk, he⟩
    rw [HLN.out] at hk
    by_cases c : k < i
    · have := H2.out k c; omega
    · have hi2 : i < ln := by omega
      have h5 := asc_le MM.out.asc (show i ≤ k by omega) (by rw [HLN.out]; exact hk)
      have h6 := H3.out i (Nat.le_refl _) hi2
      exact Bool.noConfusion (HD.out.2 ⟨hi2, by omega⟩)⟩
  clear HD
  cases hq3 : (undL W b).any (fun t => cvB W bs t)
  case true =>
    have Q3 := Hk.mk hq3
    have EV : Hk (addE W H n xs bs b = 12) := ⟨by unfold addE; rw [if_pos MM.out, if_neg (by rw [Q1.out]; decide), if_neg (by rw [Q2.out]; decide), if_pos (Or.inr hq3)]⟩
    clear hq3
    go_wp2_with (first | (go_at_call 64; (with_reducible refine (under_any W H a n c b _ w1 w2 h1 h2 FF.out II.out).mono ?_); rintro e z ⟨gu, rfl, hg1, hnq, hg2, hb⟩; replace HB := Hk.mk (kw_step HB.out hNW hb); replace HA := Hk.mk (HA.out.later hb); replace HP := Hk.mk (HP.out.below hb); clear hb; clear hc hf hl hn' hm; obtain ⟨hc, hf, hl, hn', hm⟩ := kw_rules HB.out hNW; have HNQ := Hk.mk hnq; have HG2 := Hk.mk hg2; clear hnq hg1 hg2) | (go_at_call 63; (with_reducible refine (contf_as true 65 #[.pointer (some ⟨P, 0, none⟩)] EG.out (fun t => cvB W bs t) (some ⟨gu, 0, none⟩) (b.w.toNat * b.h.toNat) (b.w.toNat * b.h.toNat) (gu + 1) (undL W b) _ HNQ.out (Nat.succ_le_of_lt HG2.out) (by omega) ?_ Q3).mono ?_); (intro X hX k hk; have hu := und_md FF.out II.out hk; rw [undL_getD W b k hk]; exact (add1_as (undAt W b k) P gg n (fun k => cvB W bs k) X (HA.out.later hX) (by omega) ((HP.out.below hX).c 0) hu.2.2.1 (by have := HNN.out; omega)).mono (fun e w' h => ⟨by rw [h.1, Int.toNat_of_nonneg hu.2.2.1], h.2 ▸ Below.refl _ _⟩)); rintro e z ⟨rfl, hb⟩; replace HB := Hk.mk (kw_step HB.out hNW hb); replace HA := Hk.mk (HA.out.later hb); replace HP := Hk.mk (HP.out.below hb); clear hb; clear hc hf hl hn' hm; obtain ⟨hc, hf, hl, hn', hm⟩ := kw_rules HB.out hNW; clear HNQ HG2))
    go_ret2
    exact Or.inl ⟨by rw [EV.out]; decide, by rw [EV.out]; rfl, HTR.out _ HB.out⟩
  have Q3 := Hk.mk hq3
  have HOV : Hk (¬ ((∃ k, k < bs.length ∧ (bs.getD k default).i = b.i) ∨ (undL W b).any (fun t => cvB W bs t) = true)) := ⟨fun h => by
    rcases h with h | h
    · exact HNO.out h
    · rw [hq3] at h; cases h⟩
  clear hq3 HNO
  cases hq4 : frB W xs b
  case false =>
    have Q4 := Hk.mk hq4
    have EV : Hk (addE W H n xs bs b = 5) := ⟨by unfold addE; rw [if_pos MM.out, if_neg (by rw [Q1.out]; decide), if_neg (by rw [Q2.out]; decide), if_neg HOV.out, if_pos hq4]⟩
    clear hq4
    go_wp2_with (first | (go_at_call 64; (with_reducible refine (under_any W H a n c b _ w1 w2 h1 h2 FF.out II.out).mono ?_); rintro e z ⟨gu, rfl, hg1, hnq, hg2, hb⟩; replace HB := Hk.mk (kw_step HB.out hNW hb); replace HA := Hk.mk (HA.out.later hb); replace HP := Hk.mk (HP.out.below hb); clear hb; clear hc hf hl hn' hm; obtain ⟨hc, hf, hl, hn', hm⟩ := kw_rules HB.out hNW; have HNQ := Hk.mk hnq; have HG2 := Hk.mk hg2; clear hnq hg1 hg2) | (go_at_call 63; (with_reducible refine (contf_as false 65 #[.pointer (some ⟨P, 0, none⟩)] EG.out (fun t => cvB W bs t) (some ⟨gu, 0, none⟩) (b.w.toNat * b.h.toNat) (b.w.toNat * b.h.toNat) (gu + 1) (undL W b) _ HNQ.out (Nat.succ_le_of_lt HG2.out) (by omega) ?_ Q3).mono ?_); (intro X hX k hk; have hu := und_md FF.out II.out hk; rw [undL_getD W b k hk]; exact (add1_as (undAt W b k) P gg n (fun k => cvB W bs k) X (HA.out.later hX) (by omega) ((HP.out.below hX).c 0) hu.2.2.1 (by have := HNN.out; omega)).mono (fun e w' h => ⟨by rw [h.1, Int.toNat_of_nonneg hu.2.2.1], h.2 ▸ Below.refl _ _⟩)); rintro e z ⟨rfl, hb⟩; replace HB := Hk.mk (kw_step HB.out hNW hb); replace HA := Hk.mk (HA.out.later hb); replace HP := Hk.mk (HP.out.below hb); clear hb; clear hc hf hl hn' hm; obtain ⟨hc, hf, hl, hn', hm⟩ := kw_rules HB.out hNW; clear HNQ HG2) | (go_at_call 66; (with_reducible refine (firm_as false W H a n c w.heap.size xs b _ ?_ ?_ HG.out FF.out II.out Q4).mono ?_); (exact HBY.out _ HB.out); (exact HSZ.out _ HB.out); rintro e z ⟨rfl, hb⟩; replace HB := Hk.mk (kw_step HB.out hNW hb); replace HA := Hk.mk (HA.out.later hb); replace HP := Hk.mk (HP.out.below hb); clear hb; clear hc hf hl hn' hm; obtain ⟨hc, hf, hl, hn', hm⟩ := kw_rules HB.out hNW))
    go_ret2
    exact Or.inl ⟨by rw [EV.out]; decide, by rw [EV.out]; rfl, HTR.out _ HB.out⟩
  have Q4 := Hk.mk hq4
  clear hq4
  by_cases hq5 : ln = 256
  · have EV : Hk (addE W H n xs bs b = 4) := ⟨by unfold addE; rw [if_pos MM.out, if_neg (by rw [Q1.out]; decide), if_neg (by rw [Q2.out]; decide), if_neg HOV.out, if_neg (by rw [Q4.out]; decide), if_pos (by rw [HLN.out]; exact hq5)]⟩
    subst hq5
    go_wp2_with (first | (go_at_call 64; (with_reducible refine (under_any W H a n c b _ w1 w2 h1 h2 FF.out II.out).mono ?_); rintro e z ⟨gu, rfl, hg1, hnq, hg2, hb⟩; replace HB := Hk.mk (kw_step HB.out hNW hb); replace HA := Hk.mk (HA.out.later hb); replace HP := Hk.mk (HP.out.below hb); clear hb; clear hc hf hl hn' hm; obtain ⟨hc, hf, hl, hn', hm⟩ := kw_rules HB.out hNW; have HNQ := Hk.mk hnq; have HG2 := Hk.mk hg2; clear hnq hg1 hg2) | (go_at_call 63; (with_reducible refine (contf_as false 65 #[.pointer (some ⟨P, 0, none⟩)] EG.out (fun t => cvB W bs t) (some ⟨gu, 0, none⟩) (b.w.toNat * b.h.toNat) (b.w.toNat * b.h.toNat) (gu + 1) (undL W b) _ HNQ.out (Nat.succ_le_of_lt HG2.out) (by omega) ?_ Q3).mono ?_); (intro X hX k hk; have hu := und_md FF.out II.out hk; rw [undL_getD W b k hk]; exact (add1_as (undAt W b k) P gg n (fun k => cvB W bs k) X (HA.out.later hX) (by omega) ((HP.out.below hX).c 0) hu.2.2.1 (by have := HNN.out; omega)).mono (fun e w' h => ⟨by rw [h.1, Int.toNat_of_nonneg hu.2.2.1], h.2 ▸ Below.refl _ _⟩)); rintro e z ⟨rfl, hb⟩; replace HB := Hk.mk (kw_step HB.out hNW hb); replace HA := Hk.mk (HA.out.later hb); replace HP := Hk.mk (HP.out.below hb); clear hb; clear hc hf hl hn' hm; obtain ⟨hc, hf, hl, hn', hm⟩ := kw_rules HB.out hNW; clear HNQ HG2) | (go_at_call 66; (with_reducible refine (firm_as true W H a n c w.heap.size xs b _ ?_ ?_ HG.out FF.out II.out Q4).mono ?_); (exact HBY.out _ HB.out); (exact HSZ.out _ HB.out); rintro e z ⟨rfl, hb⟩; replace HB := Hk.mk (kw_step HB.out hNW hb); replace HA := Hk.mk (HA.out.later hb); replace HP := Hk.mk (HP.out.below hb); clear hb; clear hc hf hl hn' hm; obtain ⟨hc, hf, hl, hn', hm⟩ := kw_rules HB.out hNW))
    go_ret2
    exact Or.inl ⟨by rw [EV.out]; decide, by rw [EV.out]; rfl, HTR.out _ HB.out⟩
  have EV : Hk (addE W H n xs bs b = 0) := ⟨by unfold addE; rw [if_pos MM.out, if_neg (by rw [Q1.out]; decide), if_neg (by rw [Q2.out]; decide), if_neg HOV.out, if_neg (by rw [Q4.out]; decide), if_neg (by rw [HLN.out]; exact hq5)]⟩
  have HIB := Hk.mk (insB_at bs b i (by rw [HLN.out]; omega) H2.out (fun hi => by have := H3.out i (Nat.le_refl _) (by rw [← HLN.out]; exact hi); omega))
  have hq6 : ¬ ((ln : Int) = 256) := by omega
  have d256 : ((ln : Int) == 256) = false := by simpa using hq6
  clear hq5 H2 H3
  go_upto_region 15 with (first | (go_at_call 64; (with_reducible refine (under_any W H a n c b _ w1 w2 h1 h2 FF.out II.out).mono ?_); rintro e z ⟨gu, rfl, hg1, hnq, hg2, hb⟩; replace HB := Hk.mk (kw_step HB.out hNW hb); replace HA := Hk.mk (HA.out.later hb); replace HP := Hk.mk (HP.out.below hb); clear hb; clear hc hf hl hn' hm; obtain ⟨hc, hf, hl, hn', hm⟩ := kw_rules HB.out hNW; have HNQ := Hk.mk hnq; have HG2 := Hk.mk hg2; clear hnq hg1 hg2) | (go_at_call 63; (with_reducible refine (contf_as false 65 #[.pointer (some ⟨P, 0, none⟩)] EG.out (fun t => cvB W bs t) (some ⟨gu, 0, none⟩) (b.w.toNat * b.h.toNat) (b.w.toNat * b.h.toNat) (gu + 1) (undL W b) _ HNQ.out (Nat.succ_le_of_lt HG2.out) (by omega) ?_ Q3).mono ?_); (intro X hX k hk; have hu := und_md FF.out II.out hk; rw [undL_getD W b k hk]; exact (add1_as (undAt W b k) P gg n (fun k => cvB W bs k) X (HA.out.later hX) (by omega) ((HP.out.below hX).c 0) hu.2.2.1 (by have := HNN.out; omega)).mono (fun e w' h => ⟨by rw [h.1, Int.toNat_of_nonneg hu.2.2.1], h.2 ▸ Below.refl _ _⟩)); rintro e z ⟨rfl, hb⟩; replace HB := Hk.mk (kw_step HB.out hNW hb); replace HA := Hk.mk (HA.out.later hb); replace HP := Hk.mk (HP.out.below hb); clear hb; clear hc hf hl hn' hm; obtain ⟨hc, hf, hl, hn', hm⟩ := kw_rules HB.out hNW; clear HNQ HG2) | (go_at_call 66; (with_reducible refine (firm_as true W H a n c w.heap.size xs b _ ?_ ?_ HG.out FF.out II.out Q4).mono ?_); (exact HBY.out _ HB.out); (exact HSZ.out _ HB.out); rintro e z ⟨rfl, hb⟩; replace HB := Hk.mk (kw_step HB.out hNW hb); replace HA := Hk.mk (HA.out.later hb); replace HP := Hk.mk (HP.out.below hb); clear hb; clear hc hf hl hn' hm; obtain ⟨hc, hf, hl, hn', hm⟩ := kw_rules HB.out hNW))
  generalize z = VA at *
  have q0 : VA.cell? ⟨w.heap.size + 1, 0, none⟩ = some (.int .i64 b.i) := (hc _ _ (by omega)).trans (by go_simp)
  have q1 : VA.cell? ⟨w.heap.size + 1, 1, none⟩ = some (.int .i64 b.o) := (hc _ _ (by omega)).trans (by go_simp)
  have q2 : VA.cell? ⟨w.heap.size + 1, 2, none⟩ = some (.int .i64 b.x) := (hc _ _ (by omega)).trans (by go_simp)
  have q3 : VA.cell? ⟨w.heap.size + 1, 3, none⟩ = some (.int .i64 b.y) := (hc _ _ (by omega)).trans (by go_simp)
  have q4 : VA.cell? ⟨w.heap.size + 1, 4, none⟩ = some (.int .i64 b.w) := (hc _ _ (by omega)).trans (by go_simp)
  have q5 : VA.cell? ⟨w.heap.size + 1, 5, none⟩ = some (.int .i64 b.h) := (hc _ _ (by omega)).trans (by go_simp)
  have bX : w.heap.size + 1 < VA.heap.size := hl _ (by omega)
  have HB0 := HB
  have HQV := Hk.mk (HBQ.out _ HB.out)
  have hszv := Hk.mk (HSZ.out _ HB.out)
  clear HB
  clear hc hf hl hn' hm
  have L0V : VA.heap.size ≤ VA.heap.size := Nat.le_refl _
  apply reg_merge
  intro HG4
  apply reg_merge
  intro HG3
  apply reg_merge
  intro HG2
  apply reg_merge
  intro HG1
  refine wp_region_held_drew (S := fun Z => (∀ b o, b < VA.heap.size → Z.cell? ⟨b, o, none⟩ = VA.cell? ⟨b, o, none⟩)) (by kernel_rfl) (fun _ _ _ => rfl) (fun hHeld => ?_)
  have HB : Hk (Below VA.heap.size VA VA.drew) := ⟨(Below.refl _ _).drew⟩
  obtain ⟨WZ, hWe⟩ : ∃ WZ, VA.drew = WZ := ⟨_, rfl⟩
  rw [hWe] at HB hHeld ⊢
  clear hWe
  refine wpAnyH_take (i := 0) (v := ?_) rfl (by kernel_rfl) (by kernel_rfl) (by kernel_rfl) (fun _ _ _ h => h) (Or.inl ⟨by rfl, fun wX hSw => ?_⟩) (by assumption) ?_
  rotate_left
  · (try dsimp only at hSw); go_simp; try with_reducible rfl
  (try simp only [Act.put, List.getElem_toArray, List.getElem_cons_succ, List.getElem_cons_zero, List.setIfInBounds_toArray, List.set_cons_zero, List.set_cons_succ])
  refine wpAnyH_take (i := 2) (v := ?_) rfl (by kernel_rfl) (by kernel_rfl) (by kernel_rfl) (fun _ _ _ h => h) (Or.inl ⟨by rfl, fun wX hSw => ?_⟩) (by assumption) ?_
  rotate_left
  · (try dsimp only at hSw); go_simp; try with_reducible rfl
  (try simp only [Act.put, List.getElem_toArray, List.getElem_cons_succ, List.getElem_cons_zero, List.setIfInBounds_toArray, List.set_cons_zero, List.set_cons_succ])
  refine wpAnyH_take (i := 3) (v := ?_) rfl (by kernel_rfl) (by kernel_rfl) (by kernel_rfl) (fun _ _ _ h => h) (Or.inl ⟨by rfl, fun wX hSw => ?_⟩) (by assumption) ?_
  rotate_left
  · (try dsimp only at hSw); go_simp; try with_reducible rfl
  (try simp only [Act.put, List.getElem_toArray, List.getElem_cons_succ, List.getElem_cons_zero, List.setIfInBounds_toArray, List.set_cons_zero, List.set_cons_succ])
  refine wpAnyH_ready (rs := [1, 4]) (by kernel_rfl) (by simp) ?_
  refine AllReadyH.cons rfl (fun K hK => ?_) (AllReadyH.cons rfl (fun K hK => ?_) (AllReadyH.nil))
  · skip
    go_simp
    ((go_at_call 68; (with_reducible refine (clone8_any la ln lc w.heap.size bs _ (HQV.out.below HB.out hszv.out) (Nat.le_trans hszv.out (kw_le HB.out L0V)) (by omega)).mono ?_); rintro e z ⟨v, rfl, hv, hb⟩; have HV := Hk.mk (hv.weak (kw_le HB.out L0V)); clear hv))
    replace HB := Hk.mk (kw_step HB.out L0V hb)
    clear hb
    refine hK.out _ _ ?_ (fun hHeld2 => ?_)
    · exact kw_s HB.out
    clear hK K hHeld
    have hHeld := hHeld2
    clear hHeld2
    (try simp only [Act.put, List.getElem_toArray, List.getElem_cons_succ, List.getElem_cons_zero, List.setIfInBounds_toArray, List.set_cons_zero, List.set_cons_succ])
    refine reg_cast (l' := #[true, true, true, true, false, false, false, false]) (by kernel_rfl) ?_
    revert hHeld
    revert HV
    revert HB
    revert v
    revert z
    exact HG1.out
  · skip
    go_simp
    have L_S := kw_le HB.out L0V
    have HP_S : Hk (Bk _ _ #[.int .i64 b.i, .int .i64 b.o, .int .i64 b.x, .int .i64 b.y, .int .i64 b.w, .int .i64 b.h]) := ⟨Bk.new WZ #[.int .i64 b.i, .int .i64 b.o, .int .i64 b.x, .int .i64 b.y, .int .i64 b.w, .int .i64 b.h] 35⟩
    replace HB := Hk.mk (kw_al HB.out L0V (.cells #[.int .i64 b.i, .int .i64 b.o, .int .i64 b.x, .int .i64 b.y, .int .i64 b.w, .int .i64 b.h] 35))
    refine hK.out _ _ ?_ (fun hHeld2 => ?_)
    · exact kw_s HB.out
    clear hK K hHeld
    have hHeld := hHeld2
    clear hHeld2
    (try simp only [Act.put, List.getElem_toArray, List.getElem_cons_succ, List.getElem_cons_zero, List.setIfInBounds_toArray, List.set_cons_zero, List.set_cons_succ])
    generalize WZ.heap.size = S at *
    generalize WZ.alloc (.cells #[.int .i64 b.i, .int .i64 b.o, .int .i64 b.x, .int .i64 b.y, .int .i64 b.w, .int .i64 b.h] 35) = WZx at *
    refine reg_cast (l' := #[true, false, true, true, true, false, false, false]) (by kernel_rfl) ?_
    revert hHeld
    revert L_S
    revert HP_S
    revert HB
    revert S
    revert WZx
    exact HG2.out
  intro WZ v HB HV hHeld
  refine wpAnyH_ready (rs := [4]) (by kernel_rfl) (by simp) ?_
  refine AllReadyH.cons rfl (fun K hK => ?_) (AllReadyH.nil)
  · skip
    go_simp
    have hb := kw_al (Below.refl WZ.heap.size WZ) (Nat.le_refl _) (.cells #[.int .i64 b.i, .int .i64 b.o, .int .i64 b.x, .int .i64 b.y, .int .i64 b.w, .int .i64 b.h] 35)
    replace HV := Hk.mk (HV.out.below hb)
    clear hb
    have L_S := kw_le HB.out L0V
    have HP_S : Hk (Bk _ _ #[.int .i64 b.i, .int .i64 b.o, .int .i64 b.x, .int .i64 b.y, .int .i64 b.w, .int .i64 b.h]) := ⟨Bk.new WZ #[.int .i64 b.i, .int .i64 b.o, .int .i64 b.x, .int .i64 b.y, .int .i64 b.w, .int .i64 b.h] 35⟩
    replace HB := Hk.mk (kw_al HB.out L0V (.cells #[.int .i64 b.i, .int .i64 b.o, .int .i64 b.x, .int .i64 b.y, .int .i64 b.w, .int .i64 b.h] 35))
    refine hK.out _ _ ?_ (fun hHeld2 => ?_)
    · exact kw_s HB.out
    clear hK K hHeld
    have hHeld := hHeld2
    clear hHeld2
    (try simp only [Act.put, List.getElem_toArray, List.getElem_cons_succ, List.getElem_cons_zero, List.setIfInBounds_toArray, List.set_cons_zero, List.set_cons_succ])
    generalize WZ.heap.size = S at *
    generalize WZ.alloc (.cells #[.int .i64 b.i, .int .i64 b.o, .int .i64 b.x, .int .i64 b.y, .int .i64 b.w, .int .i64 b.h] 35) = WZx at *
    refine reg_cast (l' := #[true, true, true, true, true, false, false, false]) (by kernel_rfl) ?_
    revert hHeld
    revert HV
    revert L_S
    revert HP_S
    revert HB
    revert v
    revert S
    revert WZx
    exact HG3.out
  intro WZ S HB HP_S L_S hHeld
  refine wpAnyH_ready (rs := [1]) (by kernel_rfl) (by simp) ?_
  refine AllReadyH.cons rfl (fun K hK => ?_) (AllReadyH.nil)
  · skip
    go_simp
    ((go_at_call 68; (with_reducible refine (clone8_any la ln lc w.heap.size bs _ (HQV.out.below HB.out hszv.out) (Nat.le_trans hszv.out (kw_le HB.out L0V)) (by omega)).mono ?_); rintro e z ⟨v, rfl, hv, hb⟩; have HV := Hk.mk (hv.weak (kw_le HB.out L0V)); clear hv))
    replace HP_S := Hk.mk (HP_S.out.below hb)
    replace HB := Hk.mk (kw_step HB.out L0V hb)
    clear hb
    refine hK.out _ _ ?_ (fun hHeld2 => ?_)
    · exact kw_s HB.out
    clear hK K hHeld
    have hHeld := hHeld2
    clear hHeld2
    (try simp only [Act.put, List.getElem_toArray, List.getElem_cons_succ, List.getElem_cons_zero, List.setIfInBounds_toArray, List.set_cons_zero, List.set_cons_succ])
    refine reg_cast (l' := #[true, true, true, true, true, false, false, false]) (by kernel_rfl) ?_
    revert hHeld
    revert HV
    revert L_S
    revert HP_S
    revert HB
    revert v
    revert S
    revert z
    exact HG3.out
  intro WZ S v HB HP_S L_S HV hHeld
  refine wpAnyH_ready (rs := [5]) (by kernel_rfl) (by simp) ?_
  refine AllReadyH.cons rfl (fun K hK => ?_) (AllReadyH.nil)
  · skip
    ((go_simp; (go_at_call 67; (with_reducible refine (ins8_any b S VA.heap.size v ln i bs _ HV.out HP_S.out (by omega) (by omega) (kw_le HB.out L0V)).mono ?_); rintro e z ⟨v2, rfl, hv2, hb2⟩; have HV2 := Hk.mk hv2; replace HB := Hk.mk (HB.out.trans hb2); clear hv2 hb2)))
    refine hK.out _ _ ?_ (fun hHeld2 => ?_)
    · exact kw_s HB.out
    clear hK K hHeld
    have hHeld := hHeld2
    clear hHeld2
    (try simp only [Act.put, List.getElem_toArray, List.getElem_cons_succ, List.getElem_cons_zero, List.setIfInBounds_toArray, List.set_cons_zero, List.set_cons_succ])
    clear HV
    clear HP_S L_S 
    refine wpAnyH_take (i := 6) (v := ?_) rfl (by kernel_rfl) (by kernel_rfl) (by kernel_rfl) (fun _ _ _ h => h) (Or.inl ⟨by rfl, fun wX hSw => ?_⟩) (by assumption) ?_
    rotate_left
    · (try dsimp only at hSw); go_simp; try with_reducible rfl
    (try simp only [Act.put, List.getElem_toArray, List.getElem_cons_succ, List.getElem_cons_zero, List.setIfInBounds_toArray, List.set_cons_zero, List.set_cons_succ])
    refine wpAnyH_take (i := 7) (v := ?_) rfl (by kernel_rfl) (by kernel_rfl) (by kernel_rfl) (fun _ _ _ h => h) (Or.inl ⟨by rfl, fun wX hSw => ?_⟩) (by assumption) ?_
    rotate_left
    · (try dsimp only at hSw); go_simp; try with_reducible rfl
    (try simp only [Act.put, List.getElem_toArray, List.getElem_cons_succ, List.getElem_cons_zero, List.setIfInBounds_toArray, List.set_cons_zero, List.set_cons_succ])
    refine reg_cast (l' := #[true, true, true, true, true, true, true, true]) (by kernel_rfl) ?_
    revert hHeld
    revert HV2
    revert HB
    revert v2
    revert v
    revert S
    revert z
    exact HG4.out
  intro WZ S v v2 HB HV2 hHeld
  refine wpAnyH_done (by kernel_rfl) ?_ _
  go_wp2
  go_ret2
  refine Or.inr ⟨EV.out, v2, rfl, ?_, ?_⟩
  · rw [HIB.out, HLN.out]
    exact HV2.out.weak hszv.out
  · exact HTR.out _ (kw_step HB0.out hNW HB.out)
end Go.Proofs.Ytjjodfdmbiebnaa
