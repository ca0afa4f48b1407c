import Derived.Deep.QuietTactic
import Derived.BigQuiet
import Derived.Deep.RegionWith
import Derived.Deep.RegionHeld3
import Derived.Deep.DeepCutAuto
import Derived.Deep.DeepFit
import Derived.Outline
import Derived.Test.YthabjihpjdlmoaaDoorSkae
/- Layer 20: the places are apart, where tiles are asked for. -/
namespace Go.Proofs.YthabjihpjdlmoaaDoor
open Go.ChangeShapes Go.WideShapes Go.ChangeAt Go.RowKit Go.Deep
set_option linter.unusedVariables false
set_option linter.unusedSimpArgs false
theorem own_cap20 {w : World} {S n c : Nat} {a : Option Addr} {xs : List Value} (h : w.ownsRow S 3 1 (.slice a n c) n xs) : n ≤ c := by
  rcases h.2 with ⟨e, h0⟩ | ⟨g, cap, cur, e, hg, hh, hc, _⟩
  · omega
  · injection e with e1 e2 e3
    rw [e3]
    exact hc
theorem pw_getD {R : Nat → Nat → Prop} {l : List Nat} (h : l.Pairwise R) {i j : Nat} (hij : i < j) (hj : j < l.length) : R (l.getD i 0) (l.getD j 0) := by
  have := List.pairwise_iff_getElem.1 h i j (by omega) hj hij
  simpa [List.getD, show i < l.length by omega, hj] using this
theorem getD_mem20 {l : List Nat} {j : Nat} (hj : j < l.length) : l.getD j 0 ∈ l := by
  have : l.getD j 0 = l[j] := by simp [List.getD, hj]
  rw [this]
  exact List.getElem_mem hj
theorem intsL_at (A : List Nat) {j : Nat} (hj : j < A.length) : (intsL A).getD j 0 = ((A.getD j 0 : Nat) : Int) := by
  simp [intsL, List.getD, hj]
theorem sfind_as (W H : Int) (a : Option Addr) (n c : Nat) (xs : List Int) (la : Option Addr) (ln lc : Nat) (bs : List Bd) (cl s goal : Nat) (N : Nat) (nq : Int) (L : List Nat) (w : World) (hL : LC w) (h : By w w.heap.size a n xs) (hb0 : Bq w w.heap.size la ln bs) (hn : n ≤ 140737488355328) (hln : ln ≤ 1099511627776) (hc3 : cl < 3) (hs : s ≤ 3) (MM : Hk (MOk W H n xs bs)) (hg : goal < n) (hN : N ≤ 64) (E : Hk (nq = (N : Int))) (hl : Hk (slA W H goal n (gdF W H xs bs cl s) (2 * (s : Int) + 1) N = L)) :
    Calls Tryd.prog 46 #[.agg #[.int .i64 W, .int .i64 H, .slice a n c], .slice la ln lc, .int .i64 cl, .int .i64 s, .int .i64 goal, .int .i64 nq] w fun e w' => ∃ a1 c1, e = .returned (.tuple #[.slice a1 L.length c1, .int .i64 0]) ∧ Nq w' w'.heap.size a1 L.length (intsL L) ∧ L.length ≤ c1 ∧ Below w.heap.size w w' := by
  obtain ⟨rfl⟩ := E
  obtain ⟨rfl⟩ := hl
  refine (sfind_yes W H a n c xs la ln lc bs cl s goal N w hL h hb0 hn hln hc3 hs MM hg hN).mono ?_
  rintro e z ⟨v, rfl, hv, hb⟩
  obtain ⟨a1, c1, rfl, hq⟩ := nq_of20 hv
  exact ⟨a1, c1, rfl, hq, own_cap20 hv, hb⟩
theorem rcenter_q (AX AY W H : Int) (t : Nat) (sv : Value) (w : World) (w1 : 1 ≤ W) (w2 : W ≤ 128) (t1 : t ≤ 16384) (E : Hk ((t : Int) % W * 65536 + 32768 = AX ∧ (t : Int) / W * 65536 + 32768 = AY)) :
    Calls Tryd.prog 51 #[.agg #[.int .i64 W, .int .i64 H, sv], .int .i64 t] w fun e' w' => e' = .returned (.agg #[.int .i64 AX, .int .i64 AY]) ∧ Below w.heap.size w w' := by
  obtain ⟨rfl, rfl⟩ := E.out
  exact rcenter_any W H t sv w w1 w2 (by omega) (by omega)
theorem nq_take20 {w : World} {S m : Nat} {a : Option Addr} {A : List Nat} (h : Nq w S a A.length (intsL A)) : Nq w S a (A.take m).length (intsL (A.take m)) := by
  refine ⟨by simp [intsL], fun h0 => ?_⟩
  rw [List.length_take] at h0
  obtain ⟨b, off, e, hb, hc⟩ := h.rd (by omega)
  refine ⟨b, off, e, hb, fun k hk => ?_⟩
  rw [List.length_take] at hk
  rw [hc k (by omega)]
  simp [intsL, List.getD, List.getElem?_take, show k < m by omega]
set_option maxRecDepth 1000000 in
set_option maxHeartbeats 20000000 in
theorem slotsApart_in (W H : Int) (a : Option Addr) (n c : Nat) (xs : List Int) (la : Option Addr) (ln lc : Nat) (bs : List Bd) (cl s : Nat) (tb toff tn tc : Nat) (ts : List Int) (na : Option Addr) (nn nc : Nat) (w : World) (hL : LC w) (h : By w w.heap.size a n xs) (hb0 : Bq w w.heap.size la ln bs) (hq : Nq w w.heap.size ((some ⟨tb, toff, none⟩)) tn ts) (hn : n ≤ 700) (hln : ln ≤ 30) (htn : tn ≤ 30) (hlc : ln ≤ lc) (HV : Hk (hv13 n ln tn = false)) (hc3 : cl < 3) (hs : s ≤ 3) (MM : Hk (MOk W H n xs bs)) :
    Calls Tryd.prog 15 #[.agg #[.int .i64 W, .int .i64 H, .slice a n c, .slice la ln lc, .int .i64 cl, .int .i64 s, .slice (some ⟨tb, toff, none⟩) tn tc, .slice na nn nc]] w fun e w' => e = .returned (.bool true) ∧ Below w.heap.size w w' := by
  have HWB : Hk (Below w.heap.size w (w.alloc (.cells #[.int .i64 W, .int .i64 H, .slice a n c, .slice la ln lc, .int .i64 cl, .int .i64 s, .slice (some ⟨tb, toff, none⟩) tn tc, .slice na nn nc] 66))) := ⟨(Below.refl _ _).alloc (Nat.le_refl _) _⟩
  have hNW : (w.heap.size + 1) ≤ (w.alloc (.cells #[.int .i64 W, .int .i64 H, .slice a n c, .slice la ln lc, .int .i64 cl, .int .i64 s, .slice (some ⟨tb, toff, none⟩) tn tc, .slice na nn nc] 66)).heap.size := by simp
  have HB : Hk (Below (w.heap.size + 1) (w.alloc (.cells #[.int .i64 W, .int .i64 H, .slice a n c, .slice la ln lc, .int .i64 cl, .int .i64 s, .slice (some ⟨tb, toff, none⟩) tn tc, .slice na nn nc] 66)) (w.alloc (.cells #[.int .i64 W, .int .i64 H, .slice a n c, .slice la ln lc, .int .i64 cl, .int .i64 s, .slice (some ⟨tb, toff, none⟩) tn tc, .slice na nn nc] 66))) := ⟨Below.refl _ _⟩
  have HTR : Hk (∀ X, Below (w.heap.size + 1) (w.alloc (.cells #[.int .i64 W, .int .i64 H, .slice a n c, .slice la ln lc, .int .i64 cl, .int .i64 s, .slice (some ⟨tb, toff, none⟩) tn tc, .slice na nn nc] 66)) X → Below w.heap.size w X) := ⟨fun X hX => HWB.out.trans (hX.mono (by omega))⟩
  have HBY := Hk.mk (fun (X : World) (hX : Below (w.heap.size + 1) (w.alloc (.cells #[.int .i64 W, .int .i64 H, .slice a n c, .slice la ln lc, .int .i64 cl, .int .i64 s, .slice (some ⟨tb, toff, none⟩) tn tc, .slice na nn nc] 66)) X) => h.below (HTR.out X hX) (Nat.le_refl _))
  have HBQ := Hk.mk (fun (X : World) (hX : Below (w.heap.size + 1) (w.alloc (.cells #[.int .i64 W, .int .i64 H, .slice a n c, .slice la ln lc, .int .i64 cl, .int .i64 s, .slice (some ⟨tb, toff, none⟩) tn tc, .slice na nn nc] 66)) X) => hb0.below (HTR.out X hX) (Nat.le_refl _))
  have HLF := Hk.mk (fun (X : World) (hX : Below (w.heap.size + 1) (w.alloc (.cells #[.int .i64 W, .int .i64 H, .slice a n c, .slice la ln lc, .int .i64 cl, .int .i64 s, .slice (some ⟨tb, toff, none⟩) tn tc, .slice na nn nc] 66)) X) => hL.below (HTR.out X hX) (Nat.le_refl _))
  clear h hb0 hL
  obtain ⟨hc, hf, hl, hn', hm⟩ := kw_rules HB.out hNW
  have GG : Hk (GOk W H n xs) := ⟨MM.out.g⟩
  have hn1 : n ≤ 140737488355328 := by omega
  have hln1 : ln ≤ 1099511627776 := by omega
  have wr1 : IntKind.i64.wrap ((s : Int) * 65536) = (s : Int) * 65536 := by rw [IntKind.wrap_i64]; omega
  obtain ⟨Rr, hRr⟩ : ∃ q, (s : Int) * 65536 + 32768 = q := ⟨_, rfl⟩
  have HRr := Hk.mk hRr
  have wr2 : IntKind.i64.wrap Rr = Rr := by rw [IntKind.wrap_i64]; omega
  go_enter Tryd.func15, Tryd.ntmps15
  go_wp2_with (first
    | (go_at_call 17; (with_reducible refine (heavy13_as false W H cl s a la (some ⟨tb, toff, none⟩) n c ln lc tn tc _ (by omega) (by omega) (by omega) HV).mono ?_); rintro e z ⟨rfl, hb⟩; replace HB := Hk.mk (kw_step HB.out hNW hb); clear hb; clear hc hf hl hn' hm; obtain ⟨hc, hf, hl, hn', hm⟩ := kw_rules HB.out hNW)
    | (go_at_call 37; (with_reducible refine (rmay13_as true W H a n c xs la ln lc bs cl s _ ?_ ?_ hn1 hln1 ⟨⟨fun _ => ⟨MM.out, by omega, by omega⟩, fun _ => rfl⟩⟩).mono ?_); (first | exact (HBY.out _ HB.out).mono (hsz1 HB.out) | exact (HBY.out _ HB.out.drew).mono (hsz1 HB.out.drew)); (first | exact (HBQ.out _ HB.out).mono (hsz1 HB.out) | exact (HBQ.out _ HB.out.drew).mono (hsz1 HB.out.drew)); rintro e z ⟨rfl, hb⟩; replace HB := Hk.mk (kw_step HB.out hNW hb); clear hb; clear hc hf hl hn' hm; obtain ⟨hc, hf, hl, hn', hm⟩ := kw_rules HB.out hNW)
    | (go_at_call 19; (with_reducible refine (rgood_any W H a n c xs la ln lc bs cl s _ ?_ ?_ hn1 hc3 hs MM).mono ?_); (first | exact (HBY.out _ HB.out).mono (hsz1 HB.out) | exact (HBY.out _ HB.out.drew).mono (hsz1 HB.out.drew)); (first | exact (HBQ.out _ HB.out).mono (hsz1 HB.out) | exact (HBQ.out _ HB.out.drew).mono (hsz1 HB.out.drew)); rintro e z ⟨I, rfl, hI, hA, hb⟩; have HAI := Hk.mk (show Arr z I n 4 (fun k => .bool ((gdF W H xs bs cl s) k)) from hA); clear hI hA; replace HB := Hk.mk (kw_step HB.out hNW hb); clear hb; clear hc hf hl hn' hm; obtain ⟨hc, hf, hl, hn', hm⟩ := kw_rules HB.out hNW))
  have HB := HB
  have HAI := HAI
  clear hc hf hl hn' hm
  have HNT := Hk.mk hq
  go_loopw [5] (fun i wr => ∃ k : Nat, i = .int .i64 k ∧ k ≤ 4 ∧ k ≤ tn ∧ Hk (Arr wr I n 4 (fun k => .bool ((gdF W H xs bs cl s) k))) ∧ Hk (Below (w.heap.size + 1) (w.alloc (.cells #[.int .i64 W, .int .i64 H, .slice a n c, .slice la ln lc, .int .i64 cl, .int .i64 s, .slice (some ⟨tb, toff, none⟩) tn tc, .slice na nn nc] 66)) wr)) (fun i _ => 4 - (intOf i).toNat)
  case atStart => exact ⟨0, rfl, by omega, by omega, HAI, HB⟩
  case round =>
    clear HB HAI
    obtain ⟨k, rfl, hk4, hkt, HAI, HB⟩ := hrel
    obtain ⟨hc, hf, hl, hn', hm⟩ := kw_rules HB.out hNW
    by_cases hlt : k < tn ∧ k < 4
    · obtain ⟨hlt, hl3⟩ := hlt
      have k0 : (0 : Int) ≤ (k : Int) := by omega
      have k1 : (k : Int) < (tn : Int) := by omega
      have k2 : (k : Int) < 4 := by omega
      have dk : decide ((k : Int) < (tn : Int)) = true := by simpa using hlt
      have dk3 : decide ((k : Int) < 4) = true := by simp; omega
      obtain ⟨tb', toff', hta, htb, hcell⟩ := HNT.out.rd (by omega)
      injection hta with hta
      injection hta with hta1 hta2
      subst hta1 hta2
      have tc0 := hcell k hlt
      have htb1 : tb < w.heap.size + 1 := by omega
      clear hcell
      obtain ⟨q, hqe⟩ : ∃ q, ts.getD k 0 = q := ⟨_, rfl⟩
      rw [hqe] at tc0
      clear hqe
      by_cases htl : 0 ≤ q ∧ q < W * H
      · have HTL : Hk (decide (0 ≤ q ∧ q < W * H) = true) := ⟨decide_eq_true htl⟩
        obtain ⟨goal, rfl⟩ : ∃ goal : Nat, q = goal := ⟨q.toNat, by omega⟩
        have hg : goal < n := by have := GG.out.nn; omega
        clear htl
        obtain ⟨A, hA⟩ : ∃ A, slA W H goal n (gdF W H xs bs cl s) (2 * (s : Int) + 1) 12 = A := ⟨_, rfl⟩
        obtain ⟨B, hB⟩ : ∃ B, slA W H goal n (gdF W H xs bs cl s) (2 * (s : Int) + 1) 5 = B := ⟨_, rfl⟩
        have hBA : B = A.take 5 := by rw [← hA, ← hB]; exact slA_fewer _ _ _ _ _ _ (by omega)
        have hA12 : A.length ≤ 12 := by rw [← hA]; exact slA_len _ _ _ _ _ _ _
        have HAE := Hk.mk hA
        have HBE := Hk.mk hB
        have HBA := Hk.mk hBA
        clear hA hB hBA
        as_aux_lemma =>
          go_upto_region 12 with (first
            | (go_at_call 25; (with_reducible refine (rtile_as true goal W H _ _ GG.out.w1 GG.out.w2 GG.out.h1 GG.out.h2 HTL).mono ?_); rintro e z ⟨rfl, hb⟩; replace HAI := Hk.mk (HAI.out.later hb); replace HB := Hk.mk (kw_step HB.out hNW hb); clear hb; clear hc hf hl hn' hm; obtain ⟨hc, hf, hl, hn', hm⟩ := kw_rules HB.out hNW)
            | (go_at_call 46; (with_reducible refine (sfind_as W H a n c xs la ln lc bs cl s goal 12 12 A _ ?_ ?_ ?_ hn1 hln1 hc3 hs MM hg (by omega) ⟨rfl⟩ HAE).mono ?_); (first | exact HLF.out _ HB.out | exact HLF.out _ HB.out.drew); (first | exact (HBY.out _ HB.out).mono (hsz1 HB.out) | exact (HBY.out _ HB.out.drew).mono (hsz1 HB.out.drew)); (first | exact (HBQ.out _ HB.out).mono (hsz1 HB.out) | exact (HBQ.out _ HB.out.drew).mono (hsz1 HB.out.drew)); rintro e z ⟨aL, cL, rfl, hq1, hcL, hb⟩; have HQL := Hk.mk hq1; replace HAI := Hk.mk (HAI.out.later hb); clear hq1; replace HB := Hk.mk (kw_step HB.out hNW hb); clear hb; clear hc hf hl hn' hm; obtain ⟨hc, hf, hl, hn', hm⟩ := kw_rules HB.out hNW)
            | (go_at_call 46; (with_reducible refine (sfind_as W H a n c xs la ln lc bs cl s goal 5 5 B _ ?_ ?_ ?_ hn1 hln1 hc3 hs MM hg (by omega) ⟨rfl⟩ HBE).mono ?_); (first | exact HLF.out _ HB.out | exact HLF.out _ HB.out.drew); (first | exact (HBY.out _ HB.out).mono (hsz1 HB.out) | exact (HBY.out _ HB.out.drew).mono (hsz1 HB.out.drew)); (first | exact (HBQ.out _ HB.out).mono (hsz1 HB.out) | exact (HBQ.out _ HB.out.drew).mono (hsz1 HB.out.drew)); rintro e z ⟨aM, cM, rfl, hq1, _, hb⟩; have HQM := Hk.mk hq1; replace HQL := Hk.mk ((HQL.out.below hb (Nat.le_refl _)).mono hb.size); replace HAI := Hk.mk (HAI.out.later hb); clear hq1; replace HB := Hk.mk (kw_step HB.out hNW hb); clear hb; clear hc hf hl hn' hm; obtain ⟨hc, hf, hl, hn', hm⟩ := kw_rules HB.out hNW))
          have HB := HB
          have HAI := HAI
          have HQL := HQL
          have HQM := HQM
          clear hc hf hl hn' hm
          obtain ⟨V, rfl⟩ : ∃ V : World, V = z := ⟨z, rfl⟩
          have hVs : w.heap.size + 1 ≤ V.heap.size := kw_size HB.out hNW
          have bX : w.heap.size < V.heap.size := by omega
          obtain ⟨x0, x1, x2⟩ : V.cell? ⟨w.heap.size, 0, none⟩ = some (.int .i64 W) ∧ V.cell? ⟨w.heap.size, 1, none⟩ = some (.int .i64 H) ∧ V.cell? ⟨w.heap.size, 2, none⟩ = some (.slice a n c) := by
            refine ⟨?_, ?_, ?_⟩ <;> (rw [HB.out.cell (by show w.heap.size < _; omega)]; go_simp)
          have hIV := HAI.out.lt
          have HBV : Hk (∀ X, Below V.heap.size V X → Below (w.heap.size + 1) (w.alloc (.cells #[.int .i64 W, .int .i64 H, .slice a n c, .slice la ln lc, .int .i64 cl, .int .i64 s, .slice (some ⟨tb, toff, none⟩) tn tc, .slice na nn nc] 66)) X) := ⟨fun X hX => HB.out.trans (hX.mono hVs)⟩
          have HPW : Hk (∀ i j, i < j → j < A.length → slR W goal (A.getD i 0) (A.getD j 0)) := ⟨fun i j h1 h2 => pw_getD (by rw [← HAE.out]; exact slA_pair _ _ _ _ _ _ _) h1 h2⟩
          have HMM : Hk (∀ j, j < A.length → SlM W goal n (gdF W H xs bs cl s) (2 * (s : Int) + 1) (A.getD j 0)) := ⟨fun j h1 => by
            have := getD_mem20 h1
            rw [← HAE.out] at this ⊢
            exact slA_mem this⟩
          have HFS : Hk ((gdF W H xs bs cl s) goal = true → 0 < A.length ∧ A.getD 0 0 = goal) := ⟨fun g1 => by
            rw [← HAE.out]
            exact slA_first GG.out.w1 GG.out.h1 GG.out.nn hg g1 (by omega)⟩
          have HQP : Hk (Nq V V.heap.size aL B.length (intsL B)) := ⟨by rw [HBA.out]; exact nq_take20 HQL.out⟩
          have hBl : B.length ≤ A.length := by rw [HBA.out, List.length_take]; omega
          have hbl2 : B.length = if 5 < A.length then 5 else A.length := by
            rw [HBA.out, List.length_take]
            by_cases q : 5 < A.length
            · rw [if_pos q, Nat.min_eq_left (by omega)]
            · rw [if_neg q, Nat.min_eq_right (by omega)]
          have hml : (if (5 : Int) < (A.length : Int) then 5 else (A.length : Int)) = (B.length : Int) := by
            rw [hbl2]
            by_cases q : 5 < A.length
            · rw [if_pos q, if_pos (by omega)]; rfl
            · rw [if_neg q, if_neg (by omega)]
          have hml2 : (if 5 < A.length then (5 : Int) else (A.length : Int)) = (B.length : Int) := by
            rw [hbl2]
            by_cases q : 5 < A.length
            · rw [if_pos q, if_pos q]; rfl
            · rw [if_neg q, if_neg q]
          clear hbl2
          clear HB tc0
          go_cut [155] (fun c wx => c = .bool false ∧ Hk (Below V.heap.size V wx))
          case first =>
            have d12 : decide (12 < (A.length : Int)) = false := by simp; omega
            have d12n : decide (12 < A.length) = false := by simp; omega
            have b0 : (0 : Int) ≤ (B.length : Int) := by omega
            have b1 : (B.length : Int) ≤ (cL : Int) := by omega
            have cg := HAI.out.cell hg
            have g0 : (0 : Int) ≤ (goal : Int) := by omega
            have g1' : (goal : Int) < (n : Int) := by omega
            by_cases g1 : (gdF W H xs bs cl s) goal = true
            · obtain ⟨p1, p2⟩ := HFS.out g1
              rw [g1] at cg
              obtain ⟨gL, off, hae, hgL, hcl⟩ := HQL.out.rd p1
              subst hae
              have c0 := hcl 0 p1
              rw [intsL_at A p1, p2, Nat.add_zero] at c0
              clear hcl g1
              generalize A.length = AL at *
              have e0 : ((AL : Int) == 0) = false := by simp; omega
              have e0n : (AL == 0) = false := by simp; omega
              have l0 : (0 : Int) < (AL : Int) := by omega
              go_wp2_with (first
                | (go_at_call 47; (with_reducible refine (num20_any _ _).mono ?_); rintro e z ⟨rfl, rfl⟩)
                | (go_at_call 29; (with_reducible refine (eqn_yes _ _ B.length _ _ V.heap.size V.heap.size (intsL B) _ ?_ ?_ (by omega)).mono ?_); (exact HQM.out); (exact HQP.out); rintro e z ⟨rfl, mm, rfl⟩))
              go_meet
              case rel => exact ⟨rfl, ⟨below_drewN (Below.refl _ _) mm⟩⟩
            · have g2 : (gdF W H xs bs cl s) goal = false := by simpa using g1
              rw [g2] at cg
              clear g1 g2
              go_wp2_with (first
                | (go_at_call 47; (with_reducible refine (num20_any _ _).mono ?_); rintro e z ⟨rfl, rfl⟩)
                | (go_at_call 29; (with_reducible refine (eqn_yes _ _ B.length _ _ V.heap.size V.heap.size (intsL B) _ ?_ ?_ (by omega)).mono ?_); (exact HQM.out); (exact HQP.out); rintro e z ⟨rfl, mm, rfl⟩))
              go_meet
              case rel => exact ⟨rfl, ⟨below_drewN (Below.refl _ _) mm⟩⟩
          case rest =>
            obtain ⟨rfl, HC⟩ := hcut
            clear hml hml2
            obtain ⟨hc, hf, hl, hn', hm⟩ := kw_rules HC.out (Nat.le_refl _)
            go_wp2_with fail
            clear hc hf hl hn' hm
            obtain ⟨wo, rfl⟩ : ∃ wo : World, wo = wc := ⟨wc, rfl⟩
            go_loopw [11] (fun i wr => ∃ p : Nat, i = .int .i64 p ∧ p ≤ A.length ∧ Hk (Below V.heap.size V wr)) (fun i _ => A.length - (intOf i).toNat)
            case atStart => exact ⟨0, rfl, by omega, HC⟩
            case round =>
              clear HC
              obtain ⟨p, rfl, hpA, HC⟩ := hrel
              obtain ⟨hc, hf, hl, hn', hm⟩ := kw_rules HC.out (Nat.le_refl _)
              by_cases hpl : p < A.length
              · obtain ⟨gL, off, hae, hgL, hcl⟩ := HQL.out.rd (by omega)
                subst hae
                have HCL : Hk (∀ j, j < A.length → V.cell? ⟨gL, off + j, none⟩ = some (.int .i64 ((A.getD j 0 : Nat) : Int))) := ⟨fun j hj => by rw [← intsL_at A hj]; exact hcl j hj⟩
                clear hcl
                have p0 : (0 : Int) ≤ (p : Int) := by omega
                have p1 : (p : Int) < (A.length : Int) := by omega
                obtain ⟨u, hu⟩ : ∃ u, A.getD p 0 = u := ⟨_, rfl⟩
                have hm2 := HMM.out p hpl
                have cu := HCL.out p hpl
                rw [hu] at hm2 cu
                have HU := Hk.mk hu
                have HM2 := Hk.mk hm2
                have hun := hm2.lt
                have u0 : (0 : Int) ≤ (u : Int) := by omega
                have u2 : (u : Int) < (n : Int) := by omega
                clear hm2 hu
                as_aux_lemma =>
                  go_upto_region 17 with fail
                  go_cut [211] (fun c wx => c = .bool false ∧ Hk (Below V.heap.size V wx))
                  case first =>
                    have cg := HAI.out.cell hun
                    rw [HM2.out.gd] at cg
                    have d1 : decide ((u : Int) < 0) = false := by simp
                    have d2 : decide ((n : Int) ≤ (u : Int)) = false := by simp; omega
                    have d2n : decide (n ≤ u) = false := by simp; omega
                    rcases Nat.eq_zero_or_pos p with hp0 | hp0
                    · subst hp0
                      rw [Nat.add_zero] at cu
                      have l0 : (0 : Int) < (A.length : Int) := by omega
                      go_quiet (fail)
                      go_wp2_with fail
                      go_meet
                      case rel => exact ⟨rfl, ⟨below_drewN HC.out _⟩⟩
                    · obtain ⟨p', rfl⟩ : ∃ p', p = p' + 1 := ⟨p - 1, by omega⟩
                      have hp1 : ((p' : Int) + 1) - 1 = (p' : Int) := by omega
                      have d3 : decide (0 < (p' : Int) + 1) = true := decide_eq_true (by omega)
                      have p0' : (0 : Int) ≤ (p' : Int) + 1 := by omega
                      have wp : IntKind.i64.wrap (p' : Int) = (p' : Int) := by rw [IntKind.wrap_i64]; omega
                      have p1' : (p' : Int) + 1 < (A.length : Int) := by omega
                      have q0 : (0 : Int) ≤ (p' : Int) := by omega
                      have q1 : (p' : Int) < (A.length : Int) := by omega
                      have hsl := HPW.out p' (p' + 1) (by omega) hpl
                      have c1 := HCL.out p' (by omega)
                      have hm1 := HMM.out p' (by omega)
                      rw [HU.out] at hsl
                      generalize A.getD p' 0 = u1 at *
                      have hu1n := hm1.lt
                      have w0 : (0 : Int) ≤ (u1 : Int) := by omega
                      have w2 : (u1 : Int) < (n : Int) := by omega
                      obtain ⟨v1, hv1⟩ : ∃ v, dst W goal u1 = v := ⟨_, rfl⟩
                      obtain ⟨v2, hv2⟩ : ∃ v, dst W goal u = v := ⟨_, rfl⟩
                      have E1 := Hk.mk hv1
                      have E2 := Hk.mk hv2
                      have hle := hsl.1
                      rw [hv1, hv2] at hle
                      have d4 : decide (v2 < v1) = false := by simp; omega
                      clear hsl hm1 hv1 hv2 hle
                      refine wp_region_held_drew (S := (fun X => (∀ b o, b < V.heap.size → X.cell? ⟨b, o, none⟩ = V.cell? ⟨b, o, none⟩) ∧ Below V.heap.size V X)) (by kernel_rfl) ?_ (fun hHeld => ?_)
                      · exact kw_S (kw_drew HC.out)
                      refine wpAnyH_take (i := 0) (v := ?_) rfl (by kernel_rfl) (by kernel_rfl) (by kernel_rfl) (fun _ _ _ h => h) (Or.inl ⟨by rfl, fun wX hSw => ?_⟩) (by assumption) ?_
                      rotate_left
                      · (try dsimp only at hSw); go_simp; try with_reducible rfl
                      (try simp only [Act.put, List.getElem_toArray, List.getElem_cons_succ, List.getElem_cons_zero, List.setIfInBounds_toArray, List.set_cons_zero, List.set_cons_succ])
                      refine wpAnyH_take (i := 1) (v := ?_) rfl (by kernel_rfl) (by kernel_rfl) (by kernel_rfl) (fun _ _ _ h => h) (Or.inl ⟨by rfl, fun wX hSw => ?_⟩) (by assumption) ?_
                      rotate_left
                      · (try dsimp only at hSw); go_simp; try with_reducible rfl
                      (try simp only [Act.put, List.getElem_toArray, List.getElem_cons_succ, List.getElem_cons_zero, List.setIfInBounds_toArray, List.set_cons_zero, List.set_cons_succ])
                      refine wpAnyH_take (i := 2) (v := ?_) rfl (by kernel_rfl) (by kernel_rfl) (by kernel_rfl) (fun _ _ _ h => h) (Or.inl ⟨by rfl, fun wX hSw => ?_⟩) (by assumption) ?_
                      rotate_left
                      · (try dsimp only at hSw); go_simp; try with_reducible rfl
                      (try simp only [Act.put, List.getElem_toArray, List.getElem_cons_succ, List.getElem_cons_zero, List.setIfInBounds_toArray, List.set_cons_zero, List.set_cons_succ])
                      refine wpAnyH_take (i := 3) (v := ?_) rfl (by kernel_rfl) (by kernel_rfl) (by kernel_rfl) (fun _ _ _ h => h) (Or.inl ⟨by rfl, fun wX hSw => ?_⟩) (by assumption) ?_
                      rotate_left
                      · (try dsimp only at hSw); go_simp; try with_reducible rfl
                      (try simp only [Act.put, List.getElem_toArray, List.getElem_cons_succ, List.getElem_cons_zero, List.setIfInBounds_toArray, List.set_cons_zero, List.set_cons_succ])
                      refine wpAnyH_take (i := 4) (v := ?_) rfl (by kernel_rfl) (by kernel_rfl) (by kernel_rfl) (fun _ _ _ h => h) (Or.inl ⟨by rfl, fun wX hSw => ?_⟩) (by assumption) ?_
                      rotate_left
                      · (try dsimp only at hSw); go_simp; try with_reducible rfl
                      (try simp only [Act.put, List.getElem_toArray, List.getElem_cons_succ, List.getElem_cons_zero, List.setIfInBounds_toArray, List.set_cons_zero, List.set_cons_succ])
                      refine wpAnyH_take (i := 5) (v := ?_) rfl (by kernel_rfl) (by kernel_rfl) (by kernel_rfl) (fun _ _ _ h => h) (Or.inl ⟨by rfl, fun wX hSw => ?_⟩) (by assumption) ?_
                      rotate_left
                      · (try dsimp only at hSw); go_simp; try with_reducible rfl
                      (try simp only [Act.put, List.getElem_toArray, List.getElem_cons_succ, List.getElem_cons_zero, List.setIfInBounds_toArray, List.set_cons_zero, List.set_cons_succ])
                      refine wpAnyH_take (i := 6) (v := ?_) rfl (by kernel_rfl) (by kernel_rfl) (by kernel_rfl) (fun _ _ _ h => h) (Or.inl ⟨by rfl, fun wX hSw => ?_⟩) (by assumption) ?_
                      rotate_left
                      · (try dsimp only at hSw); go_simp; try with_reducible rfl
                      (try simp only [Act.put, List.getElem_toArray, List.getElem_cons_succ, List.getElem_cons_zero, List.setIfInBounds_toArray, List.set_cons_zero, List.set_cons_succ])
                      refine wpAnyH_take (i := 7) (v := ?_) rfl (by kernel_rfl) (by kernel_rfl) (by kernel_rfl) (fun _ _ _ h => h) (Or.inl ⟨by rfl, fun wX hSw => ?_⟩) (by assumption) ?_
                      rotate_left
                      · (try dsimp only at hSw); go_simp; try with_reducible rfl
                      (try simp only [Act.put, List.getElem_toArray, List.getElem_cons_succ, List.getElem_cons_zero, List.setIfInBounds_toArray, List.set_cons_zero, List.set_cons_succ])
                      refine wpAnyH_take (i := 8) (v := ?_) rfl (by kernel_rfl) (by kernel_rfl) (by kernel_rfl) (fun _ _ _ h => h) (Or.inl ⟨by rfl, fun wX hSw => ?_⟩) (by assumption) ?_
                      rotate_left
                      · (try dsimp only at hSw); go_simp; try with_reducible rfl
                      (try simp only [Act.put, List.getElem_toArray, List.getElem_cons_succ, List.getElem_cons_zero, List.setIfInBounds_toArray, List.set_cons_zero, List.set_cons_succ])
                      refine wpAnyH_take (i := 9) (v := ?_) rfl (by kernel_rfl) (by kernel_rfl) (by kernel_rfl) (fun _ _ _ h => h) (Or.inl ⟨by rfl, fun wX hSw => ?_⟩) (by assumption) ?_
                      rotate_left
                      · (try dsimp only at hSw); go_simp; try with_reducible rfl
                      (try simp only [Act.put, List.getElem_toArray, List.getElem_cons_succ, List.getElem_cons_zero, List.setIfInBounds_toArray, List.set_cons_zero, List.set_cons_succ])
                      refine wpAnyH_take (i := 10) (v := ?_) rfl (by kernel_rfl) (by kernel_rfl) (by kernel_rfl) (fun _ _ _ h => h) (Or.inl ⟨by rfl, fun wX hSw => ?_⟩) (by assumption) ?_
                      rotate_left
                      · (try dsimp only at hSw); go_simp; try with_reducible rfl
                      (try simp only [Act.put, List.getElem_toArray, List.getElem_cons_succ, List.getElem_cons_zero, List.setIfInBounds_toArray, List.set_cons_zero, List.set_cons_succ])
                      refine wpAnyH_take (i := 11) (v := ?_) rfl (by kernel_rfl) (by kernel_rfl) (by kernel_rfl) (fun _ _ _ h => h) (Or.inl ⟨by rfl, fun wX hSw => ?_⟩) (by assumption) ?_
                      rotate_left
                      · (try dsimp only at hSw); go_simp; try with_reducible rfl
                      (try simp only [Act.put, List.getElem_toArray, List.getElem_cons_succ, List.getElem_cons_zero, List.setIfInBounds_toArray, List.set_cons_zero, List.set_cons_succ])
                      refine wpAnyH_take (i := 12) (v := ?_) rfl (by kernel_rfl) (by kernel_rfl) (by kernel_rfl) (fun _ _ _ h => h) (Or.inl ⟨by rfl, fun wX hSw => ?_⟩) (by assumption) ?_
                      rotate_left
                      · (try dsimp only at hSw); go_simp; try with_reducible rfl
                      (try simp only [Act.put, List.getElem_toArray, List.getElem_cons_succ, List.getElem_cons_zero, List.setIfInBounds_toArray, List.set_cons_zero, List.set_cons_succ])
                      refine wpAnyH_take (i := 13) (v := ?_) rfl (by kernel_rfl) (by kernel_rfl) (by kernel_rfl) (fun _ _ _ h => h) (Or.inl ⟨by rfl, fun wX hSw => ?_⟩) (by assumption) ?_
                      rotate_left
                      · (try dsimp only at hSw); go_simp; try with_reducible rfl
                      (try simp only [Act.put, List.getElem_toArray, List.getElem_cons_succ, List.getElem_cons_zero, List.setIfInBounds_toArray, List.set_cons_zero, List.set_cons_succ])
                      refine wpAnyH_take (i := 14) (v := ?_) rfl (by kernel_rfl) (by kernel_rfl) (by kernel_rfl) (fun _ _ _ h => h) (Or.inl ⟨by rfl, fun wX hSw => ?_⟩) (by assumption) ?_
                      rotate_left
                      · (try dsimp only at hSw); go_simp; try with_reducible rfl
                      (try simp only [Act.put, List.getElem_toArray, List.getElem_cons_succ, List.getElem_cons_zero, List.setIfInBounds_toArray, List.set_cons_zero, List.set_cons_succ])
                      refine wpAnyH_take (i := 15) (v := ?_) rfl (by kernel_rfl) (by kernel_rfl) (by kernel_rfl) (fun _ _ _ h => h) (Or.inl ⟨by rfl, fun wX hSw => ?_⟩) (by assumption) ?_
                      rotate_left
                      · (try dsimp only at hSw); go_simp; try with_reducible rfl
                      (try simp only [Act.put, List.getElem_toArray, List.getElem_cons_succ, List.getElem_cons_zero, List.setIfInBounds_toArray, List.set_cons_zero, List.set_cons_succ])
                      refine wpAnyH_take (i := 16) (v := ?_) rfl (by kernel_rfl) (by kernel_rfl) (by kernel_rfl) (fun _ _ _ h => h) (Or.inl ⟨by rfl, fun wX hSw => ?_⟩) (by assumption) ?_
                      rotate_left
                      · (try dsimp only at hSw); go_simp; try with_reducible rfl
                      (try simp only [Act.put, List.getElem_toArray, List.getElem_cons_succ, List.getElem_cons_zero, List.setIfInBounds_toArray, List.set_cons_zero, List.set_cons_succ])
                      refine wpAnyH_take (i := 17) (v := ?_) rfl (by kernel_rfl) (by kernel_rfl) (by kernel_rfl) (fun _ _ _ h => h) (Or.inl ⟨by rfl, fun wX hSw => ?_⟩) (by assumption) ?_
                      rotate_left
                      · (try dsimp only at hSw); go_simp; try with_reducible rfl
                      (try simp only [Act.put, List.getElem_toArray, List.getElem_cons_succ, List.getElem_cons_zero, List.setIfInBounds_toArray, List.set_cons_zero, List.set_cons_succ])
                      refine wpAnyH_take (i := 18) (v := ?_) rfl (by kernel_rfl) (by kernel_rfl) (by kernel_rfl) (fun _ _ _ h => h) (Or.inl ⟨by rfl, fun wX hSw => ?_⟩) (by assumption) ?_
                      rotate_left
                      · (try dsimp only at hSw); go_simp; try with_reducible rfl
                      (try simp only [Act.put, List.getElem_toArray, List.getElem_cons_succ, List.getElem_cons_zero, List.setIfInBounds_toArray, List.set_cons_zero, List.set_cons_succ])
                      refine wpAnyH_take (i := 19) (v := ?_) rfl (by kernel_rfl) (by kernel_rfl) (by kernel_rfl) (fun _ _ _ h => h) (Or.inl ⟨by rfl, fun wX hSw => ?_⟩) (by assumption) ?_
                      rotate_left
                      · (try dsimp only at hSw); go_simp; try with_reducible rfl
                      (try simp only [Act.put, List.getElem_toArray, List.getElem_cons_succ, List.getElem_cons_zero, List.setIfInBounds_toArray, List.set_cons_zero, List.set_cons_succ])
                      refine wpAnyH_take (i := 20) (v := ?_) rfl (by kernel_rfl) (by kernel_rfl) (by kernel_rfl) (fun _ _ _ h => h) (Or.inl ⟨by rfl, fun wX hSw => ?_⟩) (by assumption) ?_
                      rotate_left
                      · (try dsimp only at hSw); go_simp; try with_reducible rfl
                      (try simp only [Act.put, List.getElem_toArray, List.getElem_cons_succ, List.getElem_cons_zero, List.setIfInBounds_toArray, List.set_cons_zero, List.set_cons_succ])
                      refine wpAnyH_take (i := 21) (v := ?_) rfl (by kernel_rfl) (by kernel_rfl) (by kernel_rfl) (fun _ _ _ h => h) (Or.inl ⟨by rfl, fun wX hSw => ?_⟩) (by assumption) ?_
                      rotate_left
                      · (try dsimp only at hSw); go_simp; try with_reducible rfl
                      (try simp only [Act.put, List.getElem_toArray, List.getElem_cons_succ, List.getElem_cons_zero, List.setIfInBounds_toArray, List.set_cons_zero, List.set_cons_succ])
                      refine wpAnyH_take (i := 22) (v := ?_) rfl (by kernel_rfl) (by kernel_rfl) (by kernel_rfl) (fun _ _ _ h => h) (Or.inl ⟨by rfl, fun wX hSw => ?_⟩) (by assumption) ?_
                      rotate_left
                      · (try dsimp only at hSw); go_simp; try with_reducible rfl
                      (try simp only [Act.put, List.getElem_toArray, List.getElem_cons_succ, List.getElem_cons_zero, List.setIfInBounds_toArray, List.set_cons_zero, List.set_cons_succ])
                      refine wpAnyH_take (i := 23) (v := ?_) rfl (by kernel_rfl) (by kernel_rfl) (by kernel_rfl) (fun _ _ _ h => h) (Or.inl ⟨by rfl, fun wX hSw => ?_⟩) (by assumption) ?_
                      rotate_left
                      · (try dsimp only at hSw); go_simp; try with_reducible rfl
                      (try simp only [Act.put, List.getElem_toArray, List.getElem_cons_succ, List.getElem_cons_zero, List.setIfInBounds_toArray, List.set_cons_zero, List.set_cons_succ])
                      refine wpAnyH_take (i := 24) (v := ?_) rfl (by kernel_rfl) (by kernel_rfl) (by kernel_rfl) (fun _ _ _ h => h) (Or.inl ⟨by rfl, fun wX hSw => ?_⟩) (by assumption) ?_
                      rotate_left
                      · (try dsimp only at hSw); go_simp; try with_reducible rfl
                      (try simp only [Act.put, List.getElem_toArray, List.getElem_cons_succ, List.getElem_cons_zero, List.setIfInBounds_toArray, List.set_cons_zero, List.set_cons_succ])
                      refine wpAnyH_take (i := 25) (v := ?_) rfl (by kernel_rfl) (by kernel_rfl) (by kernel_rfl) (fun _ _ _ h => h) (Or.inl ⟨by rfl, fun wX hSw => ?_⟩) (by assumption) ?_
                      rotate_left
                      · (try dsimp only at hSw); go_simp; try with_reducible rfl
                      (try simp only [Act.put, List.getElem_toArray, List.getElem_cons_succ, List.getElem_cons_zero, List.setIfInBounds_toArray, List.set_cons_zero, List.set_cons_succ])
                      refine wpAnyH_take (i := 26) (v := ?_) rfl (by kernel_rfl) (by kernel_rfl) (by kernel_rfl) (fun _ _ _ h => h) (Or.inl ⟨by rfl, fun wX hSw => ?_⟩) (by assumption) ?_
                      rotate_left
                      · (try dsimp only at hSw); go_simp; try with_reducible rfl
                      (try simp only [Act.put, List.getElem_toArray, List.getElem_cons_succ, List.getElem_cons_zero, List.setIfInBounds_toArray, List.set_cons_zero, List.set_cons_succ])
                      refine wpAnyH_take (i := 27) (v := ?_) rfl (by kernel_rfl) (by kernel_rfl) (by kernel_rfl) (fun _ _ _ h => h) (Or.inl ⟨by rfl, fun wX hSw => ?_⟩) (by assumption) ?_
                      rotate_left
                      · (try dsimp only at hSw); go_simp; try with_reducible rfl
                      (try simp only [Act.put, List.getElem_toArray, List.getElem_cons_succ, List.getElem_cons_zero, List.setIfInBounds_toArray, List.set_cons_zero, List.set_cons_succ])
                      refine wpAnyH_take (i := 28) (v := ?_) rfl (by kernel_rfl) (by kernel_rfl) (by kernel_rfl) (fun _ _ _ h => h) (Or.inl ⟨by rfl, fun wX hSw => ?_⟩) (by assumption) ?_
                      rotate_left
                      · (try dsimp only at hSw); go_simp; try with_reducible rfl
                      (try simp only [Act.put, List.getElem_toArray, List.getElem_cons_succ, List.getElem_cons_zero, List.setIfInBounds_toArray, List.set_cons_zero, List.set_cons_succ])
                      refine wpAnyH_take (i := 29) (v := ?_) rfl (by kernel_rfl) (by kernel_rfl) (by kernel_rfl) (fun _ _ _ h => h) (Or.inl ⟨by rfl, fun wX hSw => ?_⟩) (by assumption) ?_
                      rotate_left
                      · (try dsimp only at hSw); go_simp; try with_reducible rfl
                      (try simp only [Act.put, List.getElem_toArray, List.getElem_cons_succ, List.getElem_cons_zero, List.setIfInBounds_toArray, List.set_cons_zero, List.set_cons_succ])
                      refine wpAnyH_take (i := 30) (v := ?_) rfl (by kernel_rfl) (by kernel_rfl) (by kernel_rfl) (fun _ _ _ h => h) (Or.inl ⟨by rfl, fun wX hSw => ?_⟩) (by assumption) ?_
                      rotate_left
                      · (try dsimp only at hSw); go_simp; try with_reducible rfl
                      (try simp only [Act.put, List.getElem_toArray, List.getElem_cons_succ, List.getElem_cons_zero, List.setIfInBounds_toArray, List.set_cons_zero, List.set_cons_succ])
                      refine wpAnyH_take (i := 31) (v := ?_) rfl (by kernel_rfl) (by kernel_rfl) (by kernel_rfl) (fun _ _ _ h => h) (Or.inl ⟨by rfl, fun wX hSw => ?_⟩) (by assumption) ?_
                      rotate_left
                      · (try dsimp only at hSw); go_simp; try with_reducible rfl
                      (try simp only [Act.put, List.getElem_toArray, List.getElem_cons_succ, List.getElem_cons_zero, List.setIfInBounds_toArray, List.set_cons_zero, List.set_cons_succ])
                      refine wpAnyH_take (i := 32) (v := ?_) rfl (by kernel_rfl) (by kernel_rfl) (by kernel_rfl) (fun _ _ _ h => h) (Or.inl ⟨by rfl, fun wX hSw => ?_⟩) (by assumption) ?_
                      rotate_left
                      · (try dsimp only at hSw); go_simp; try with_reducible rfl
                      (try simp only [Act.put, List.getElem_toArray, List.getElem_cons_succ, List.getElem_cons_zero, List.setIfInBounds_toArray, List.set_cons_zero, List.set_cons_succ])
                      refine wpAnyH_take (i := 33) (v := ?_) rfl (by kernel_rfl) (by kernel_rfl) (by kernel_rfl) (fun _ _ _ h => h) (Or.inl ⟨by rfl, fun wX hSw => ?_⟩) (by assumption) ?_
                      rotate_left
                      · (try dsimp only at hSw); go_simp; try with_reducible rfl
                      (try simp only [Act.put, List.getElem_toArray, List.getElem_cons_succ, List.getElem_cons_zero, List.setIfInBounds_toArray, List.set_cons_zero, List.set_cons_succ])
                      refine wpAnyH_take (i := 34) (v := ?_) rfl (by kernel_rfl) (by kernel_rfl) (by kernel_rfl) (fun _ _ _ h => h) (Or.inl ⟨by rfl, fun wX hSw => ?_⟩) (by assumption) ?_
                      rotate_left
                      · (try dsimp only at hSw); go_simp; try with_reducible rfl
                      (try simp only [Act.put, List.getElem_toArray, List.getElem_cons_succ, List.getElem_cons_zero, List.setIfInBounds_toArray, List.set_cons_zero, List.set_cons_succ])
                      refine wpAnyH_take (i := 35) (v := ?_) rfl (by kernel_rfl) (by kernel_rfl) (by kernel_rfl) (fun _ _ _ h => h) (Or.inl ⟨by rfl, fun wX hSw => ?_⟩) (by assumption) ?_
                      rotate_left
                      · (try dsimp only at hSw); go_simp; try with_reducible rfl
                      (try simp only [Act.put, List.getElem_toArray, List.getElem_cons_succ, List.getElem_cons_zero, List.setIfInBounds_toArray, List.set_cons_zero, List.set_cons_succ])
                      refine wpAnyH_take (i := 36) (v := ?_) rfl (by kernel_rfl) (by kernel_rfl) (by kernel_rfl) (fun _ _ _ h => h) (Or.inl ⟨by rfl, fun wX hSw => ?_⟩) (by assumption) ?_
                      rotate_left
                      · (try dsimp only at hSw); go_simp; try with_reducible rfl
                      (try simp only [Act.put, List.getElem_toArray, List.getElem_cons_succ, List.getElem_cons_zero, List.setIfInBounds_toArray, List.set_cons_zero, List.set_cons_succ])
                      refine wpAnyH_take (i := 38) (v := ?_) rfl (by kernel_rfl) (by kernel_rfl) (by kernel_rfl) (fun _ _ _ h => h) (Or.inl ⟨by rfl, fun wX hSw => ?_⟩) (by assumption) ?_
                      rotate_left
                      · (try dsimp only at hSw); go_simp; try with_reducible rfl
                      (try simp only [Act.put, List.getElem_toArray, List.getElem_cons_succ, List.getElem_cons_zero, List.setIfInBounds_toArray, List.set_cons_zero, List.set_cons_succ])
                      refine wpAnyH_take (i := 39) (v := ?_) rfl (by kernel_rfl) (by kernel_rfl) (by kernel_rfl) (fun _ _ _ h => h) (Or.inl ⟨by rfl, fun wX hSw => ?_⟩) (by assumption) ?_
                      rotate_left
                      · (try dsimp only at hSw); go_simp; try with_reducible rfl
                      (try simp only [Act.put, List.getElem_toArray, List.getElem_cons_succ, List.getElem_cons_zero, List.setIfInBounds_toArray, List.set_cons_zero, List.set_cons_succ])
                      refine wpAnyH_take (i := 40) (v := ?_) rfl (by kernel_rfl) (by kernel_rfl) (by kernel_rfl) (fun _ _ _ h => h) (Or.inl ⟨by rfl, fun wX hSw => ?_⟩) (by assumption) ?_
                      rotate_left
                      · (try dsimp only at hSw); go_simp; try with_reducible rfl
                      (try simp only [Act.put, List.getElem_toArray, List.getElem_cons_succ, List.getElem_cons_zero, List.setIfInBounds_toArray, List.set_cons_zero, List.set_cons_succ])
                      refine wpAnyH_take (i := 41) (v := ?_) rfl (by kernel_rfl) (by kernel_rfl) (by kernel_rfl) (fun _ _ _ h => h) (Or.inl ⟨by rfl, fun wX hSw => ?_⟩) (by assumption) ?_
                      rotate_left
                      · (try dsimp only at hSw); go_simp; try with_reducible rfl
                      (try simp only [Act.put, List.getElem_toArray, List.getElem_cons_succ, List.getElem_cons_zero, List.setIfInBounds_toArray, List.set_cons_zero, List.set_cons_succ])
                      refine wpAnyH_take (i := 42) (v := ?_) rfl (by kernel_rfl) (by kernel_rfl) (by kernel_rfl) (fun _ _ _ h => h) (Or.inl ⟨by rfl, fun wX hSw => ?_⟩) (by assumption) ?_
                      rotate_left
                      · (try dsimp only at hSw); go_simp; try with_reducible rfl
                      (try simp only [Act.put, List.getElem_toArray, List.getElem_cons_succ, List.getElem_cons_zero, List.setIfInBounds_toArray, List.set_cons_zero, List.set_cons_succ])
                      refine wpAnyH_take (i := 43) (v := ?_) rfl (by kernel_rfl) (by kernel_rfl) (by kernel_rfl) (fun _ _ _ h => h) (Or.inl ⟨by rfl, fun wX hSw => ?_⟩) (by assumption) ?_
                      rotate_left
                      · (try dsimp only at hSw); go_simp; try with_reducible rfl
                      (try simp only [Act.put, List.getElem_toArray, List.getElem_cons_succ, List.getElem_cons_zero, List.setIfInBounds_toArray, List.set_cons_zero, List.set_cons_succ])
                      refine wpAnyH_take (i := 44) (v := ?_) rfl (by kernel_rfl) (by kernel_rfl) (by kernel_rfl) (fun _ _ _ h => h) (Or.inl ⟨by rfl, fun wX hSw => ?_⟩) (by assumption) ?_
                      rotate_left
                      · (try dsimp only at hSw); go_simp; try with_reducible rfl
                      (try simp only [Act.put, List.getElem_toArray, List.getElem_cons_succ, List.getElem_cons_zero, List.setIfInBounds_toArray, List.set_cons_zero, List.set_cons_succ])
                      refine wpAnyH_take (i := 45) (v := ?_) rfl (by kernel_rfl) (by kernel_rfl) (by kernel_rfl) (fun _ _ _ h => h) (Or.inl ⟨by rfl, fun wX hSw => ?_⟩) (by assumption) ?_
                      rotate_left
                      · (try dsimp only at hSw); go_simp; try with_reducible rfl
                      (try simp only [Act.put, List.getElem_toArray, List.getElem_cons_succ, List.getElem_cons_zero, List.setIfInBounds_toArray, List.set_cons_zero, List.set_cons_succ])
                      refine wpAnyH_ready (rs := [37]) (by kernel_rfl) (by simp) ?_
                      refine AllReadyH.cons rfl (fun K hK => ?_) (AllReadyH.nil)
                      go_simp
                      (first
                      | (go_at_call 49; (with_reducible refine (steps20_as W H a n c goal u1 v1 _ GG.out.w1 GG.out.w2 GG.out.h2 GG.out.nn hg hu1n E1).mono ?_); rintro e z ⟨rfl, hb⟩; have hC2 : Hk (Below V.heap.size V z) := ⟨by first | exact kw_step HC.out (Nat.le_refl _) hb | exact kw_step HC.out.drew (Nat.le_refl _) hb⟩; clear hb; replace HC := hC2; clear hC2; clear hc hf hl hn' hm; obtain ⟨hc, hf, hl, hn', hm⟩ := kw_rules HC.out (Nat.le_refl _))
                      | (go_at_call 49; (with_reducible refine (steps20_as W H a n c goal u v2 _ GG.out.w1 GG.out.w2 GG.out.h2 GG.out.nn hg hun E2).mono ?_); rintro e z ⟨rfl, hb⟩; have hC2 : Hk (Below V.heap.size V z) := ⟨by first | exact kw_step HC.out (Nat.le_refl _) hb | exact kw_step HC.out.drew (Nat.le_refl _) hb⟩; clear hb; replace HC := hC2; clear hC2; clear hc hf hl hn' hm; obtain ⟨hc, hf, hl, hn', hm⟩ := kw_rules HC.out (Nat.le_refl _)))
                      refine hK.out _ _ ?_ (fun hHeld => ?_)
                      · exact kw_S HC.out
                      clear hK K
                      (try simp only [Act.put, List.getElem_toArray, List.getElem_cons_succ, List.getElem_cons_zero, List.setIfInBounds_toArray, List.set_cons_zero, List.set_cons_succ])
                      refine wpAnyH_ready (rs := [46]) (by kernel_rfl) (by simp) ?_
                      refine AllReadyH.cons rfl (fun K hK => ?_) (AllReadyH.nil)
                      go_simp
                      (first
                      | (go_at_call 49; (with_reducible refine (steps20_as W H a n c goal u1 v1 _ GG.out.w1 GG.out.w2 GG.out.h2 GG.out.nn hg hu1n E1).mono ?_); rintro e z ⟨rfl, hb⟩; have hC2 : Hk (Below V.heap.size V z) := ⟨by first | exact kw_step HC.out (Nat.le_refl _) hb | exact kw_step HC.out.drew (Nat.le_refl _) hb⟩; clear hb; replace HC := hC2; clear hC2; clear hc hf hl hn' hm; obtain ⟨hc, hf, hl, hn', hm⟩ := kw_rules HC.out (Nat.le_refl _))
                      | (go_at_call 49; (with_reducible refine (steps20_as W H a n c goal u v2 _ GG.out.w1 GG.out.w2 GG.out.h2 GG.out.nn hg hun E2).mono ?_); rintro e z ⟨rfl, hb⟩; have hC2 : Hk (Below V.heap.size V z) := ⟨by first | exact kw_step HC.out (Nat.le_refl _) hb | exact kw_step HC.out.drew (Nat.le_refl _) hb⟩; clear hb; replace HC := hC2; clear hC2; clear hc hf hl hn' hm; obtain ⟨hc, hf, hl, hn', hm⟩ := kw_rules HC.out (Nat.le_refl _)))
                      refine hK.out _ _ ?_ (fun hHeld => ?_)
                      · exact kw_S HC.out
                      clear hK K
                      (try simp only [Act.put, List.getElem_toArray, List.getElem_cons_succ, List.getElem_cons_zero, List.setIfInBounds_toArray, List.set_cons_zero, List.set_cons_succ])
                      refine wpAnyH_take (i := 47) (v := ?_) rfl (by kernel_rfl) (by kernel_rfl) (by kernel_rfl) (fun _ _ _ h => h) (Or.inl ⟨by rfl, fun wX hSw => ?_⟩) (by assumption) ?_
                      rotate_left
                      · (try dsimp only at hSw); go_simp; try with_reducible rfl
                      (try simp only [Act.put, List.getElem_toArray, List.getElem_cons_succ, List.getElem_cons_zero, List.setIfInBounds_toArray, List.set_cons_zero, List.set_cons_succ])
                      refine wpAnyH_take (i := 48) (v := ?_) rfl (by kernel_rfl) (by kernel_rfl) (by kernel_rfl) (fun _ _ _ h => h) (Or.inl ⟨by rfl, fun wX hSw => ?_⟩) (by assumption) ?_
                      rotate_left
                      · (try dsimp only at hSw); go_simp; try with_reducible rfl
                      (try simp only [Act.put, List.getElem_toArray, List.getElem_cons_succ, List.getElem_cons_zero, List.setIfInBounds_toArray, List.set_cons_zero, List.set_cons_succ])
                      refine wpAnyH_take (i := 49) (v := ?_) rfl (by kernel_rfl) (by kernel_rfl) (by kernel_rfl) (fun _ _ _ h => h) (Or.inl ⟨by rfl, fun wX hSw => ?_⟩) (by assumption) ?_
                      rotate_left
                      · (try dsimp only at hSw); go_simp; try with_reducible rfl
                      (try simp only [Act.put, List.getElem_toArray, List.getElem_cons_succ, List.getElem_cons_zero, List.setIfInBounds_toArray, List.set_cons_zero, List.set_cons_succ])
                      refine wpAnyH_done (by kernel_rfl) ?_ _
                      go_wp2_with fail
                      go_meet
                      case rel => exact ⟨rfl, HC⟩
                  case rest =>
                    obtain ⟨rfl, HC⟩ := hcut
                    clear hc hf hl hn' hm
                    obtain ⟨hc, hf, hl, hn', hm⟩ := kw_rules HC.out (Nat.le_refl _)
                    go_wp2_with fail
                    clear hc hf hl hn' hm
                    obtain ⟨wo, rfl⟩ : ∃ wo : World, wo = wc := ⟨wc, rfl⟩
                    go_loopw [12] (fun i wr => ∃ j : Nat, i = .int .i64 j ∧ j ≤ p ∧ Hk (Below V.heap.size V wr)) (fun i _ => p - (intOf i).toNat)
                    case atStart => exact ⟨0, rfl, by omega, HC⟩
                    case round =>
                      clear HC
                      obtain ⟨j, rfl, hjp, HC⟩ := hrel
                      obtain ⟨hc, hf, hl, hn', hm⟩ := kw_rules HC.out (Nat.le_refl _)
                      by_cases hjl : j < p
                      · have j0 : (0 : Int) ≤ (j : Int) := by omega
                        have j1 : (j : Int) < (A.length : Int) := by omega
                        have j2 : (j : Int) < (p : Int) := by omega
                        have hsl := HPW.out j p hjl hpl
                        have c1 := HCL.out j (by omega)
                        have hm1 := HMM.out j (by omega)
                        rw [HU.out] at hsl
                        generalize A.getD j 0 = u1 at *
                        have hu1n := hm1.lt
                        have w0 : (0 : Int) ≤ (u1 : Int) := by omega
                        have w2 : (u1 : Int) < (n : Int) := by omega
                        have e1 : ((u1 : Int) == (u : Int)) = false := by have := hsl.2; simp; omega
                        have e1n : (u1 == u) = false := by have := hsl.2; simp; omega
                        obtain ⟨a0, a1, b0, b1⟩ := xy_bd20 GG.out.w1 GG.out.nn hu1n
                        obtain ⟨c0, c2, d0, d1⟩ := xy_bd20 GG.out.w1 GG.out.nn hun
                        have hw2 := GG.out.w2
                        have hh2 := GG.out.h2
                        have hap := ap_far (s := (s : Int)) a0 (by omega) b0 (by omega) c0 (by omega) d0 (by omega) (by omega) (by omega) (sl_far (gap_of hs rfl) hm1 HM2.out hsl.2)
                        rw [HRr.out] at hap
                        obtain ⟨AX, hAX⟩ : ∃ q, (u1 : Int) % W * 65536 + 32768 = q := ⟨_, rfl⟩
                        obtain ⟨AY, hAY⟩ : ∃ q, (u1 : Int) / W * 65536 + 32768 = q := ⟨_, rfl⟩
                        obtain ⟨BX, hBX⟩ : ∃ q, (u : Int) % W * 65536 + 32768 = q := ⟨_, rfl⟩
                        obtain ⟨BY, hBY⟩ : ∃ q, (u : Int) / W * 65536 + 32768 = q := ⟨_, rfl⟩
                        rw [hAX, hAY, hBX, hBY] at hap
                        have E1 := Hk.mk (And.intro hAX hAY)
                        have E2 := Hk.mk (And.intro hBX hBY)
                        have EP := Hk.mk hap
                        have i1 : Fx.I64 AX := by unfold Fx.I64; omega
                        have i2 : Fx.I64 AY := by unfold Fx.I64; omega
                        have i3 : Fx.I64 BX := by unfold Fx.I64; omega
                        have i4 : Fx.I64 BY := by unfold Fx.I64; omega
                        clear hsl hm1 hap hAX hAY hBX hBY a0 a1 b0 b1 c0 c2 d0 d1
                        as_aux_lemma =>
                          go_upto_region 22 with fail
                          refine wp_region_held_drew (S := (fun X => (∀ b o, b < V.heap.size → X.cell? ⟨b, o, none⟩ = V.cell? ⟨b, o, none⟩) ∧ Below V.heap.size V X)) (by kernel_rfl) ?_ (fun hHeld => ?_)
                          · exact kw_S (kw_drew HC.out)
                          refine wpAnyH_take (i := 0) (v := ?_) rfl (by kernel_rfl) (by kernel_rfl) (by kernel_rfl) (fun _ _ _ h => h) (Or.inl ⟨by rfl, fun wX hSw => ?_⟩) (by assumption) ?_
                          rotate_left
                          · (try dsimp only at hSw); go_simp; try with_reducible rfl
                          (try simp only [Act.put, List.getElem_toArray, List.getElem_cons_succ, List.getElem_cons_zero, List.setIfInBounds_toArray, List.set_cons_zero, List.set_cons_succ])
                          refine wpAnyH_take (i := 1) (v := ?_) rfl (by kernel_rfl) (by kernel_rfl) (by kernel_rfl) (fun _ _ _ h => h) (Or.inl ⟨by rfl, fun wX hSw => ?_⟩) (by assumption) ?_
                          rotate_left
                          · (try dsimp only at hSw); go_simp; try with_reducible rfl
                          (try simp only [Act.put, List.getElem_toArray, List.getElem_cons_succ, List.getElem_cons_zero, List.setIfInBounds_toArray, List.set_cons_zero, List.set_cons_succ])
                          refine wpAnyH_take (i := 2) (v := ?_) rfl (by kernel_rfl) (by kernel_rfl) (by kernel_rfl) (fun _ _ _ h => h) (Or.inl ⟨by rfl, fun wX hSw => ?_⟩) (by assumption) ?_
                          rotate_left
                          · (try dsimp only at hSw); go_simp; try with_reducible rfl
                          (try simp only [Act.put, List.getElem_toArray, List.getElem_cons_succ, List.getElem_cons_zero, List.setIfInBounds_toArray, List.set_cons_zero, List.set_cons_succ])
                          refine wpAnyH_take (i := 3) (v := ?_) rfl (by kernel_rfl) (by kernel_rfl) (by kernel_rfl) (fun _ _ _ h => h) (Or.inl ⟨by rfl, fun wX hSw => ?_⟩) (by assumption) ?_
                          rotate_left
                          · (try dsimp only at hSw); go_simp; try with_reducible rfl
                          (try simp only [Act.put, List.getElem_toArray, List.getElem_cons_succ, List.getElem_cons_zero, List.setIfInBounds_toArray, List.set_cons_zero, List.set_cons_succ])
                          refine wpAnyH_take (i := 4) (v := ?_) rfl (by kernel_rfl) (by kernel_rfl) (by kernel_rfl) (fun _ _ _ h => h) (Or.inl ⟨by rfl, fun wX hSw => ?_⟩) (by assumption) ?_
                          rotate_left
                          · (try dsimp only at hSw); go_simp; try with_reducible rfl
                          (try simp only [Act.put, List.getElem_toArray, List.getElem_cons_succ, List.getElem_cons_zero, List.setIfInBounds_toArray, List.set_cons_zero, List.set_cons_succ])
                          refine wpAnyH_take (i := 5) (v := ?_) rfl (by kernel_rfl) (by kernel_rfl) (by kernel_rfl) (fun _ _ _ h => h) (Or.inl ⟨by rfl, fun wX hSw => ?_⟩) (by assumption) ?_
                          rotate_left
                          · (try dsimp only at hSw); go_simp; try with_reducible rfl
                          (try simp only [Act.put, List.getElem_toArray, List.getElem_cons_succ, List.getElem_cons_zero, List.setIfInBounds_toArray, List.set_cons_zero, List.set_cons_succ])
                          refine wpAnyH_take (i := 6) (v := ?_) rfl (by kernel_rfl) (by kernel_rfl) (by kernel_rfl) (fun _ _ _ h => h) (Or.inl ⟨by rfl, fun wX hSw => ?_⟩) (by assumption) ?_
                          rotate_left
                          · (try dsimp only at hSw); go_simp; try with_reducible rfl
                          (try simp only [Act.put, List.getElem_toArray, List.getElem_cons_succ, List.getElem_cons_zero, List.setIfInBounds_toArray, List.set_cons_zero, List.set_cons_succ])
                          refine wpAnyH_take (i := 7) (v := ?_) rfl (by kernel_rfl) (by kernel_rfl) (by kernel_rfl) (fun _ _ _ h => h) (Or.inl ⟨by rfl, fun wX hSw => ?_⟩) (by assumption) ?_
                          rotate_left
                          · (try dsimp only at hSw); go_simp; try with_reducible rfl
                          (try simp only [Act.put, List.getElem_toArray, List.getElem_cons_succ, List.getElem_cons_zero, List.setIfInBounds_toArray, List.set_cons_zero, List.set_cons_succ])
                          refine wpAnyH_take (i := 8) (v := ?_) rfl (by kernel_rfl) (by kernel_rfl) (by kernel_rfl) (fun _ _ _ h => h) (Or.inl ⟨by rfl, fun wX hSw => ?_⟩) (by assumption) ?_
                          rotate_left
                          · (try dsimp only at hSw); go_simp; try with_reducible rfl
                          (try simp only [Act.put, List.getElem_toArray, List.getElem_cons_succ, List.getElem_cons_zero, List.setIfInBounds_toArray, List.set_cons_zero, List.set_cons_succ])
                          refine wpAnyH_take (i := 9) (v := ?_) rfl (by kernel_rfl) (by kernel_rfl) (by kernel_rfl) (fun _ _ _ h => h) (Or.inl ⟨by rfl, fun wX hSw => ?_⟩) (by assumption) ?_
                          rotate_left
                          · (try dsimp only at hSw); go_simp; try with_reducible rfl
                          (try simp only [Act.put, List.getElem_toArray, List.getElem_cons_succ, List.getElem_cons_zero, List.setIfInBounds_toArray, List.set_cons_zero, List.set_cons_succ])
                          refine wpAnyH_take (i := 10) (v := ?_) rfl (by kernel_rfl) (by kernel_rfl) (by kernel_rfl) (fun _ _ _ h => h) (Or.inl ⟨by rfl, fun wX hSw => ?_⟩) (by assumption) ?_
                          rotate_left
                          · (try dsimp only at hSw); go_simp; try with_reducible rfl
                          (try simp only [Act.put, List.getElem_toArray, List.getElem_cons_succ, List.getElem_cons_zero, List.setIfInBounds_toArray, List.set_cons_zero, List.set_cons_succ])
                          refine wpAnyH_take (i := 11) (v := ?_) rfl (by kernel_rfl) (by kernel_rfl) (by kernel_rfl) (fun _ _ _ h => h) (Or.inl ⟨by rfl, fun wX hSw => ?_⟩) (by assumption) ?_
                          rotate_left
                          · (try dsimp only at hSw); go_simp; try with_reducible rfl
                          (try simp only [Act.put, List.getElem_toArray, List.getElem_cons_succ, List.getElem_cons_zero, List.setIfInBounds_toArray, List.set_cons_zero, List.set_cons_succ])
                          refine wpAnyH_take (i := 12) (v := ?_) rfl (by kernel_rfl) (by kernel_rfl) (by kernel_rfl) (fun _ _ _ h => h) (Or.inl ⟨by rfl, fun wX hSw => ?_⟩) (by assumption) ?_
                          rotate_left
                          · (try dsimp only at hSw); go_simp; try with_reducible rfl
                          (try simp only [Act.put, List.getElem_toArray, List.getElem_cons_succ, List.getElem_cons_zero, List.setIfInBounds_toArray, List.set_cons_zero, List.set_cons_succ])
                          refine wpAnyH_take (i := 13) (v := ?_) rfl (by kernel_rfl) (by kernel_rfl) (by kernel_rfl) (fun _ _ _ h => h) (Or.inl ⟨by rfl, fun wX hSw => ?_⟩) (by assumption) ?_
                          rotate_left
                          · (try dsimp only at hSw); go_simp; try with_reducible rfl
                          (try simp only [Act.put, List.getElem_toArray, List.getElem_cons_succ, List.getElem_cons_zero, List.setIfInBounds_toArray, List.set_cons_zero, List.set_cons_succ])
                          refine wpAnyH_take (i := 14) (v := ?_) rfl (by kernel_rfl) (by kernel_rfl) (by kernel_rfl) (fun _ _ _ h => h) (Or.inl ⟨by rfl, fun wX hSw => ?_⟩) (by assumption) ?_
                          rotate_left
                          · (try dsimp only at hSw); go_simp; try with_reducible rfl
                          (try simp only [Act.put, List.getElem_toArray, List.getElem_cons_succ, List.getElem_cons_zero, List.setIfInBounds_toArray, List.set_cons_zero, List.set_cons_succ])
                          refine wpAnyH_take (i := 15) (v := ?_) rfl (by kernel_rfl) (by kernel_rfl) (by kernel_rfl) (fun _ _ _ h => h) (Or.inl ⟨by rfl, fun wX hSw => ?_⟩) (by assumption) ?_
                          rotate_left
                          · (try dsimp only at hSw); go_simp; try with_reducible rfl
                          (try simp only [Act.put, List.getElem_toArray, List.getElem_cons_succ, List.getElem_cons_zero, List.setIfInBounds_toArray, List.set_cons_zero, List.set_cons_succ])
                          refine wpAnyH_take (i := 16) (v := ?_) rfl (by kernel_rfl) (by kernel_rfl) (by kernel_rfl) (fun _ _ _ h => h) (Or.inl ⟨by rfl, fun wX hSw => ?_⟩) (by assumption) ?_
                          rotate_left
                          · (try dsimp only at hSw); go_simp; try with_reducible rfl
                          (try simp only [Act.put, List.getElem_toArray, List.getElem_cons_succ, List.getElem_cons_zero, List.setIfInBounds_toArray, List.set_cons_zero, List.set_cons_succ])
                          refine wpAnyH_take (i := 18) (v := ?_) rfl (by kernel_rfl) (by kernel_rfl) (by kernel_rfl) (fun _ _ _ h => h) (Or.inl ⟨by rfl, fun wX hSw => ?_⟩) (by assumption) ?_
                          rotate_left
                          · (try dsimp only at hSw); go_simp; try with_reducible rfl
                          (try simp only [Act.put, List.getElem_toArray, List.getElem_cons_succ, List.getElem_cons_zero, List.setIfInBounds_toArray, List.set_cons_zero, List.set_cons_succ])
                          refine wpAnyH_take (i := 19) (v := ?_) rfl (by kernel_rfl) (by kernel_rfl) (by kernel_rfl) (fun _ _ _ h => h) (Or.inl ⟨by rfl, fun wX hSw => ?_⟩) (by assumption) ?_
                          rotate_left
                          · (try dsimp only at hSw); go_simp; try with_reducible rfl
                          (try simp only [Act.put, List.getElem_toArray, List.getElem_cons_succ, List.getElem_cons_zero, List.setIfInBounds_toArray, List.set_cons_zero, List.set_cons_succ])
                          refine wpAnyH_take (i := 20) (v := ?_) rfl (by kernel_rfl) (by kernel_rfl) (by kernel_rfl) (fun _ _ _ h => h) (Or.inl ⟨by rfl, fun wX hSw => ?_⟩) (by assumption) ?_
                          rotate_left
                          · (try dsimp only at hSw); go_simp; try with_reducible rfl
                          (try simp only [Act.put, List.getElem_toArray, List.getElem_cons_succ, List.getElem_cons_zero, List.setIfInBounds_toArray, List.set_cons_zero, List.set_cons_succ])
                          refine wpAnyH_take (i := 21) (v := ?_) rfl (by kernel_rfl) (by kernel_rfl) (by kernel_rfl) (fun _ _ _ h => h) (Or.inl ⟨by rfl, fun wX hSw => ?_⟩) (by assumption) ?_
                          rotate_left
                          · (try dsimp only at hSw); go_simp; try with_reducible rfl
                          (try simp only [Act.put, List.getElem_toArray, List.getElem_cons_succ, List.getElem_cons_zero, List.setIfInBounds_toArray, List.set_cons_zero, List.set_cons_succ])
                          refine wpAnyH_take (i := 22) (v := ?_) rfl (by kernel_rfl) (by kernel_rfl) (by kernel_rfl) (fun _ _ _ h => h) (Or.inl ⟨by rfl, fun wX hSw => ?_⟩) (by assumption) ?_
                          rotate_left
                          · (try dsimp only at hSw); go_simp; try with_reducible rfl
                          (try simp only [Act.put, List.getElem_toArray, List.getElem_cons_succ, List.getElem_cons_zero, List.setIfInBounds_toArray, List.set_cons_zero, List.set_cons_succ])
                          refine wpAnyH_take (i := 23) (v := ?_) rfl (by kernel_rfl) (by kernel_rfl) (by kernel_rfl) (fun _ _ _ h => h) (Or.inl ⟨by rfl, fun wX hSw => ?_⟩) (by assumption) ?_
                          rotate_left
                          · (try dsimp only at hSw); go_simp; try with_reducible rfl
                          (try simp only [Act.put, List.getElem_toArray, List.getElem_cons_succ, List.getElem_cons_zero, List.setIfInBounds_toArray, List.set_cons_zero, List.set_cons_succ])
                          refine wpAnyH_take (i := 24) (v := ?_) rfl (by kernel_rfl) (by kernel_rfl) (by kernel_rfl) (fun _ _ _ h => h) (Or.inl ⟨by rfl, fun wX hSw => ?_⟩) (by assumption) ?_
                          rotate_left
                          · (try dsimp only at hSw); go_simp; try with_reducible rfl
                          (try simp only [Act.put, List.getElem_toArray, List.getElem_cons_succ, List.getElem_cons_zero, List.setIfInBounds_toArray, List.set_cons_zero, List.set_cons_succ])
                          refine wpAnyH_take (i := 25) (v := ?_) rfl (by kernel_rfl) (by kernel_rfl) (by kernel_rfl) (fun _ _ _ h => h) (Or.inl ⟨by rfl, fun wX hSw => ?_⟩) (by assumption) ?_
                          rotate_left
                          · (try dsimp only at hSw); go_simp; try with_reducible rfl
                          (try simp only [Act.put, List.getElem_toArray, List.getElem_cons_succ, List.getElem_cons_zero, List.setIfInBounds_toArray, List.set_cons_zero, List.set_cons_succ])
                          refine wpAnyH_take (i := 27) (v := ?_) rfl (by kernel_rfl) (by kernel_rfl) (by kernel_rfl) (fun _ _ _ h => h) (Or.inl ⟨by rfl, fun wX hSw => ?_⟩) (by assumption) ?_
                          rotate_left
                          · (try dsimp only at hSw); go_simp; try with_reducible rfl
                          (try simp only [Act.put, List.getElem_toArray, List.getElem_cons_succ, List.getElem_cons_zero, List.setIfInBounds_toArray, List.set_cons_zero, List.set_cons_succ])
                          refine wpAnyH_ready (rs := [17]) (by kernel_rfl) (by simp) ?_
                          refine AllReadyH.cons rfl (fun K hK => ?_) (AllReadyH.nil)
                          go_simp
                          (first
                          | (go_at_call 51; (with_reducible refine (rcenter_q AX AY W H u1 _ _ GG.out.w1 GG.out.w2 (by omega) E1).mono ?_); rintro e z ⟨rfl, hb⟩; have hC2 : Hk (Below V.heap.size V z) := ⟨by first | exact kw_step HC.out (Nat.le_refl _) hb | exact kw_step HC.out.drew (Nat.le_refl _) hb⟩; clear hb; replace HC := hC2; clear hC2; clear hc hf hl hn' hm; obtain ⟨hc, hf, hl, hn', hm⟩ := kw_rules HC.out (Nat.le_refl _))
                          | (go_at_call 51; (with_reducible refine (rcenter_q BX BY W H u _ _ GG.out.w1 GG.out.w2 (by omega) E2).mono ?_); rintro e z ⟨rfl, hb⟩; have hC2 : Hk (Below V.heap.size V z) := ⟨by first | exact kw_step HC.out (Nat.le_refl _) hb | exact kw_step HC.out.drew (Nat.le_refl _) hb⟩; clear hb; replace HC := hC2; clear hC2; clear hc hf hl hn' hm; obtain ⟨hc, hf, hl, hn', hm⟩ := kw_rules HC.out (Nat.le_refl _))
                          | (go_at_call 50; (with_reducible refine (rapart_yes AX AY Rr BX BY Rr _ i1 i2 i3 i4 EP).mono ?_); rintro e z ⟨rfl, hb⟩; have hC2 : Hk (Below V.heap.size V z) := ⟨by first | exact kw_step HC.out (Nat.le_refl _) hb | exact kw_step HC.out.drew (Nat.le_refl _) hb⟩; clear hb; replace HC := hC2; clear hC2; clear hc hf hl hn' hm; obtain ⟨hc, hf, hl, hn', hm⟩ := kw_rules HC.out (Nat.le_refl _)))
                          refine hK.out _ _ ?_ (fun hHeld => ?_)
                          · exact kw_S HC.out
                          clear hK K
                          (try simp only [Act.put, List.getElem_toArray, List.getElem_cons_succ, List.getElem_cons_zero, List.setIfInBounds_toArray, List.set_cons_zero, List.set_cons_succ])
                          refine wpAnyH_ready (rs := [26]) (by kernel_rfl) (by simp) ?_
                          refine AllReadyH.cons rfl (fun K hK => ?_) (AllReadyH.nil)
                          go_simp
                          (first
                          | (go_at_call 51; (with_reducible refine (rcenter_q AX AY W H u1 _ _ GG.out.w1 GG.out.w2 (by omega) E1).mono ?_); rintro e z ⟨rfl, hb⟩; have hC2 : Hk (Below V.heap.size V z) := ⟨by first | exact kw_step HC.out (Nat.le_refl _) hb | exact kw_step HC.out.drew (Nat.le_refl _) hb⟩; clear hb; replace HC := hC2; clear hC2; clear hc hf hl hn' hm; obtain ⟨hc, hf, hl, hn', hm⟩ := kw_rules HC.out (Nat.le_refl _))
                          | (go_at_call 51; (with_reducible refine (rcenter_q BX BY W H u _ _ GG.out.w1 GG.out.w2 (by omega) E2).mono ?_); rintro e z ⟨rfl, hb⟩; have hC2 : Hk (Below V.heap.size V z) := ⟨by first | exact kw_step HC.out (Nat.le_refl _) hb | exact kw_step HC.out.drew (Nat.le_refl _) hb⟩; clear hb; replace HC := hC2; clear hC2; clear hc hf hl hn' hm; obtain ⟨hc, hf, hl, hn', hm⟩ := kw_rules HC.out (Nat.le_refl _))
                          | (go_at_call 50; (with_reducible refine (rapart_yes AX AY Rr BX BY Rr _ i1 i2 i3 i4 EP).mono ?_); rintro e z ⟨rfl, hb⟩; have hC2 : Hk (Below V.heap.size V z) := ⟨by first | exact kw_step HC.out (Nat.le_refl _) hb | exact kw_step HC.out.drew (Nat.le_refl _) hb⟩; clear hb; replace HC := hC2; clear hC2; clear hc hf hl hn' hm; obtain ⟨hc, hf, hl, hn', hm⟩ := kw_rules HC.out (Nat.le_refl _)))
                          refine hK.out _ _ ?_ (fun hHeld => ?_)
                          · exact kw_S HC.out
                          clear hK K
                          (try simp only [Act.put, List.getElem_toArray, List.getElem_cons_succ, List.getElem_cons_zero, List.setIfInBounds_toArray, List.set_cons_zero, List.set_cons_succ])
                          refine wpAnyH_ready (rs := [28]) (by kernel_rfl) (by simp) ?_
                          refine AllReadyH.cons rfl (fun K hK => ?_) (AllReadyH.nil)
                          go_simp
                          (first
                          | (go_at_call 51; (with_reducible refine (rcenter_q AX AY W H u1 _ _ GG.out.w1 GG.out.w2 (by omega) E1).mono ?_); rintro e z ⟨rfl, hb⟩; have hC2 : Hk (Below V.heap.size V z) := ⟨by first | exact kw_step HC.out (Nat.le_refl _) hb | exact kw_step HC.out.drew (Nat.le_refl _) hb⟩; clear hb; replace HC := hC2; clear hC2; clear hc hf hl hn' hm; obtain ⟨hc, hf, hl, hn', hm⟩ := kw_rules HC.out (Nat.le_refl _))
                          | (go_at_call 51; (with_reducible refine (rcenter_q BX BY W H u _ _ GG.out.w1 GG.out.w2 (by omega) E2).mono ?_); rintro e z ⟨rfl, hb⟩; have hC2 : Hk (Below V.heap.size V z) := ⟨by first | exact kw_step HC.out (Nat.le_refl _) hb | exact kw_step HC.out.drew (Nat.le_refl _) hb⟩; clear hb; replace HC := hC2; clear hC2; clear hc hf hl hn' hm; obtain ⟨hc, hf, hl, hn', hm⟩ := kw_rules HC.out (Nat.le_refl _))
                          | (go_at_call 50; (with_reducible refine (rapart_yes AX AY Rr BX BY Rr _ i1 i2 i3 i4 EP).mono ?_); rintro e z ⟨rfl, hb⟩; have hC2 : Hk (Below V.heap.size V z) := ⟨by first | exact kw_step HC.out (Nat.le_refl _) hb | exact kw_step HC.out.drew (Nat.le_refl _) hb⟩; clear hb; replace HC := hC2; clear hC2; clear hc hf hl hn' hm; obtain ⟨hc, hf, hl, hn', hm⟩ := kw_rules HC.out (Nat.le_refl _)))
                          refine hK.out _ _ ?_ (fun hHeld => ?_)
                          · exact kw_S HC.out
                          clear hK K
                          (try simp only [Act.put, List.getElem_toArray, List.getElem_cons_succ, List.getElem_cons_zero, List.setIfInBounds_toArray, List.set_cons_zero, List.set_cons_succ])
                          refine wpAnyH_take (i := 29) (v := ?_) rfl (by kernel_rfl) (by kernel_rfl) (by kernel_rfl) (fun _ _ _ h => h) (Or.inl ⟨by rfl, fun wX hSw => ?_⟩) (by assumption) ?_
                          rotate_left
                          · (try dsimp only at hSw); go_simp; try with_reducible rfl
                          (try simp only [Act.put, List.getElem_toArray, List.getElem_cons_succ, List.getElem_cons_zero, List.setIfInBounds_toArray, List.set_cons_zero, List.set_cons_succ])
                          refine wpAnyH_take (i := 30) (v := ?_) rfl (by kernel_rfl) (by kernel_rfl) (by kernel_rfl) (fun _ _ _ h => h) (Or.inl ⟨by rfl, fun wX hSw => ?_⟩) (by assumption) ?_
                          rotate_left
                          · (try dsimp only at hSw); go_simp; try with_reducible rfl
                          (try simp only [Act.put, List.getElem_toArray, List.getElem_cons_succ, List.getElem_cons_zero, List.setIfInBounds_toArray, List.set_cons_zero, List.set_cons_succ])
                          refine wpAnyH_done (by kernel_rfl) ?_ _
                          go_wp2_with fail
                          exact ⟨⟨j + 1, by go_num, by omega, HC⟩, by simp [intOf]; omega⟩
                      · obtain rfl : j = p := by omega
                        as_aux_lemma =>
                          go_wp2_with fail
                          exact ⟨⟨j + 1, by go_num, by omega, HC⟩, by simp [intOf]; omega⟩
              · obtain rfl : p = A.length := by omega
                as_aux_lemma =>
                  go_wp2_with fail
                  exact ⟨⟨k + 1, by go_num, by omega, by omega, ⟨HAI.out.below HC.out hIV⟩, ⟨HBV.out _ HC.out⟩⟩, by simp [intOf]; omega⟩
      · have HTL : Hk (decide (0 ≤ q ∧ q < W * H) = false) := ⟨decide_eq_false htl⟩
        clear htl
        as_aux_lemma =>
          go_wp2_with (go_at_call 25; (with_reducible refine (rtile_as false q W H _ _ GG.out.w1 GG.out.w2 GG.out.h1 GG.out.h2 HTL).mono ?_); rintro e z ⟨rfl, hb⟩; replace HAI := Hk.mk (HAI.out.later hb); replace HB := Hk.mk (kw_step HB.out hNW hb); clear hb; clear hc hf hl hn' hm; obtain ⟨hc, hf, hl, hn', hm⟩ := kw_rules HB.out hNW)
          exact ⟨⟨k + 1, by go_num, by omega, by omega, HAI, HB⟩, by simp [intOf]; omega⟩
    · have hor : (¬ k < tn) ∨ (k < tn ∧ ¬ k < 4) := by omega
      rcases hor with h1 | ⟨h1, h3⟩
      · have dk : decide ((k : Int) < (tn : Int)) = false := by simp; omega
        as_aux_lemma =>
          go_wp2_with (go_at_call 48; (with_reducible refine (wakes20_any _ (HLF.out _ HB.out)).mono ?_); rintro e z ⟨rfl, hb⟩; replace HB := Hk.mk (kw_step HB.out hNW hb); clear hb; clear hc hf hl hn' hm; obtain ⟨hc, hf, hl, hn', hm⟩ := kw_rules HB.out hNW)
          go_ret
          exact ⟨rfl, HTR.out _ HB.out⟩
      · have dk : decide ((k : Int) < (tn : Int)) = true := by simpa using h1
        have dk3 : decide ((k : Int) < 4) = false := by simp; omega
        as_aux_lemma =>
          go_wp2_with (go_at_call 48; (with_reducible refine (wakes20_any _ (HLF.out _ HB.out)).mono ?_); rintro e z ⟨rfl, hb⟩; replace HB := Hk.mk (kw_step HB.out hNW hb); clear hb; clear hc hf hl hn' hm; obtain ⟨hc, hf, hl, hn', hm⟩ := kw_rules HB.out hNW)
          go_ret
          exact ⟨rfl, HTR.out _ HB.out⟩
end Go.Proofs.YthabjihpjdlmoaaDoor
