import Derived.Deep.QuietTactic
import Derived.BigQuiet
import Derived.Deep.RegionWith
import Derived.Deep.RegionHeld3
import Derived.Deep.DeepCutAuto
import Derived.Deep.DeepFit
import Derived.Outline
import Derived.Test.YthabjihpjdlmoaaDoorFkz
/- Layer 13: sizes, where tiles are asked for. -/
namespace Go.Proofs.YthabjihpjdlmoaaDoor
open Go.ChangeShapes Go.WideShapes Go.ChangeAt Go.RowKit Go.Deep
set_option linter.unusedVariables false
set_option linter.unusedSimpArgs false
theorem cnt13_as (W H z : Int) (w : World) (E : Hk (Fx.szB W H = true)) (EZ : Hk (Fx.acS W * Fx.acS H = z)) : Calls Tryd.prog 36 #[.int .i64 W, .int .i64 H] w fun e w' => e = .returned (.tuple #[.int .i64 z, .int .i64 0]) ∧ Below w.heap.size w w' := by
  obtain ⟨rfl⟩ := EZ; exact count_yes W H w E
theorem gdF_le {W H : Int} {xs : List Int} {bs : List Bd} {cl s s' k : Nat} (h : s' ≤ s) (g : gdF W H xs bs cl s k = true) : gdF W H xs bs cl s' k = true := by
  unfold gdF at *
  rw [decide_eq_true_iff] at *
  omega
theorem tab_sizes {W H : Int} {n g s s' cl : Nat} {xs : List Int} {bs : List Bd} {D D' : Nat → Int} (hs : s' ≤ s) (h : TabG n (tT W H (gdF W H xs bs cl s)) (tC W H (kcF cl xs)) g (gdF W H xs bs cl s g) D) (h' : TabG n (tT W H (gdF W H xs bs cl s')) (tC W H (kcF cl xs)) g (gdF W H xs bs cl s' g) D') :
    ∀ t, t < n → 0 ≤ D t → 0 ≤ D' t ∧ D' t ≤ D t := fun t ht h0 => by
  unfold TabG at h h'
  by_cases c : gdF W H xs bs cl s g = true
  · rw [if_pos c] at h
    rw [if_pos (gdF_le hs c)] at h'
    exact h.mono h' (step_mono (fun t q => gdF_le hs q) (fun t _ => Int.le_refl _)) ht h0
  · rw [if_neg c] at h
    have := h t ht
    omega
set_option maxRecDepth 1000000 in
set_option maxHeartbeats 3200000 in
theorem fieldSizes_in (W H : Int) (a : Option Addr) (n c : Nat) (xs : List Int) (la : Option Addr) (ln lc : Nat) (bs : List Bd) (cl s : Nat) (tb toff : Nat) (tn tc : Nat) (ts : List Int) (w : World) (hL : LF w) (h : By w w.heap.size a n xs) (hb0 : Bq w w.heap.size la ln bs) (hq : Nq w w.heap.size ((some ⟨tb, toff, none⟩)) tn ts) (hn : n ≤ 700) (hln : ln ≤ 30) (htn : tn ≤ 30) (hlc : ln ≤ lc) (HV : Hk (hv13 n ln tn = false)) (hc3 : cl < 3) (hs : s ≤ 3) (MM : Hk (MOk W H n xs bs)) :
    Calls Tryd.prog 8 #[.agg #[.int .i64 W, .int .i64 H, .slice a n c, .slice la ln lc, .int .i64 cl, .int .i64 s, .slice (some ⟨tb, toff, none⟩) tn tc]] w fun e w' => e = .returned (.bool true) ∧ Below w.heap.size w w' := by
  have HWB : Hk (Below w.heap.size w (w.alloc (.cells #[.int .i64 W, .int .i64 H, .slice a n c, .slice la ln lc, .int .i64 cl, .int .i64 s, .slice (some ⟨tb, toff, none⟩) tn tc] 28))) := ⟨(Below.refl _ _).alloc (Nat.le_refl _) _⟩
  have hNW : w.heap.size + 1 ≤ (w.alloc (.cells #[.int .i64 W, .int .i64 H, .slice a n c, .slice la ln lc, .int .i64 cl, .int .i64 s, .slice (some ⟨tb, toff, none⟩) tn tc] 28)).heap.size := by simp
  have HB : Hk (Below (w.heap.size + 1) (w.alloc (.cells #[.int .i64 W, .int .i64 H, .slice a n c, .slice la ln lc, .int .i64 cl, .int .i64 s, .slice (some ⟨tb, toff, none⟩) tn tc] 28)) (w.alloc (.cells #[.int .i64 W, .int .i64 H, .slice a n c, .slice la ln lc, .int .i64 cl, .int .i64 s, .slice (some ⟨tb, toff, none⟩) tn tc] 28))) := ⟨Below.refl _ _⟩
  have HTR : Hk (∀ X, Below (w.heap.size + 1) (w.alloc (.cells #[.int .i64 W, .int .i64 H, .slice a n c, .slice la ln lc, .int .i64 cl, .int .i64 s, .slice (some ⟨tb, toff, none⟩) tn tc] 28)) X → Below w.heap.size w X) := ⟨fun X hX => HWB.out.trans (hX.mono (by omega))⟩
  have HBY := Hk.mk (fun (X : World) (hX : Below (w.heap.size + 1) (w.alloc (.cells #[.int .i64 W, .int .i64 H, .slice a n c, .slice la ln lc, .int .i64 cl, .int .i64 s, .slice (some ⟨tb, toff, none⟩) tn tc] 28)) X) => h.below (HTR.out X hX) (Nat.le_refl _))
  have HBQ := Hk.mk (fun (X : World) (hX : Below (w.heap.size + 1) (w.alloc (.cells #[.int .i64 W, .int .i64 H, .slice a n c, .slice la ln lc, .int .i64 cl, .int .i64 s, .slice (some ⟨tb, toff, none⟩) tn tc] 28)) X) => hb0.below (HTR.out X hX) (Nat.le_refl _))
  have HNQT := Hk.mk (fun (X : World) (hX : Below (w.heap.size + 1) (w.alloc (.cells #[.int .i64 W, .int .i64 H, .slice a n c, .slice la ln lc, .int .i64 cl, .int .i64 s, .slice (some ⟨tb, toff, none⟩) tn tc] 28)) X) => hq.below (HTR.out X hX) (Nat.le_refl _))
  have HLF := Hk.mk (fun (X : World) (hX : Below (w.heap.size + 1) (w.alloc (.cells #[.int .i64 W, .int .i64 H, .slice a n c, .slice la ln lc, .int .i64 cl, .int .i64 s, .slice (some ⟨tb, toff, none⟩) tn tc] 28)) X) => hL.below (HTR.out X hX) (Nat.le_refl _))
  clear h hb0 hL
  obtain ⟨hc, hf, hl, hn', hm⟩ := kw_rules HB.out hNW
  have GG : Hk (GOk W H n xs) := ⟨MM.out.g⟩
  by_cases hs0 : s = 0
  · have es0 : ((s : Int) == 0) = true := by simp; exact hs0
    clear hs0
    go_enter Tryd.func8, Tryd.ntmps8
    go_wp2_with (first
      | (go_at_call 17; (with_reducible refine (heavy13_as false W H cl s a la (some ⟨tb, toff, none⟩) n c ln lc tn tc _ (by omega) (by omega) (by omega) HV).mono ?_); rintro e z ⟨rfl, hb⟩; replace HB := Hk.mk (kw_step HB.out hNW hb); clear hb; clear hc hf hl hn' hm; obtain ⟨hc, hf, hl, hn', hm⟩ := kw_rules HB.out hNW)
      | (go_at_call 18; (with_reducible refine (form13_yes W H a n c xs la ln lc bs cl s (some ⟨tb, toff, none⟩) tn tc _ ?_ ?_ (by omega) (by omega) hc3 hs MM).mono ?_); (exact (HBY.out _ HB.out).mono (hsz1 HB.out)); (exact (HBQ.out _ HB.out).mono (hsz1 HB.out)); rintro e z ⟨rfl, hb⟩; replace HB := Hk.mk (kw_step HB.out hNW hb); clear hb; clear hc hf hl hn' hm; obtain ⟨hc, hf, hl, hn', hm⟩ := kw_rules HB.out hNW))
    go_ret
    exact ⟨rfl, HTR.out _ HB.out⟩
  obtain ⟨s', hs'⟩ : ∃ s' : Nat, (s : Int) - 1 = (s' : Int) := ⟨s - 1, by omega⟩
  have es0 : ((s : Int) == 0) = false := by simp; omega
  have hss : s' ≤ s := by omega
  have hs3 : s' ≤ 3 := by omega
  have hn1 : n ≤ 140737488355328 := by omega
  have hln1 : ln ≤ 1099511627776 := by omega
  have hws : IntKind.i64.wrap (s' : Int) = (s' : Int) := by rw [IntKind.wrap_i64]; omega
  have hws2 : wrap64 (s' : Int) = (s' : Int) := by unfold wrap64; omega
  go_enter Tryd.func8, Tryd.ntmps8
  go_wp2_with (first
    | (go_at_call 17; (with_reducible refine (heavy13_as false W H cl s a la (some ⟨tb, toff, none⟩) n c ln lc tn tc _ (by omega) (by omega) (by omega) HV).mono ?_); rintro e z ⟨rfl, hb⟩; replace HB := Hk.mk (kw_step HB.out hNW hb); clear hb; clear hc hf hl hn' hm; obtain ⟨hc, hf, hl, hn', hm⟩ := kw_rules HB.out hNW)
    | (go_at_call 18; (with_reducible refine (form13_yes W H a n c xs la ln lc bs cl s (some ⟨tb, toff, none⟩) tn tc _ ?_ ?_ (by omega) (by omega) hc3 hs MM).mono ?_); (exact (HBY.out _ HB.out).mono (hsz1 HB.out)); (exact (HBQ.out _ HB.out).mono (hsz1 HB.out)); rintro e z ⟨rfl, hb⟩; replace HB := Hk.mk (kw_step HB.out hNW hb); clear hb; clear hc hf hl hn' hm; obtain ⟨hc, hf, hl, hn', hm⟩ := kw_rules HB.out hNW))
  have HB := HB
  clear hc hf hl hn' hm
  have HNT := Hk.mk hq
  go_loopw [3] (fun i wr => ∃ k : Nat, i = .int .i64 k ∧ k ≤ 3 ∧ k ≤ tn ∧ Hk (Below (w.heap.size + 1) (w.alloc (.cells #[.int .i64 W, .int .i64 H, .slice a n c, .slice la ln lc, .int .i64 cl, .int .i64 s, .slice (some ⟨tb, toff, none⟩) tn tc] 28)) wr)) (fun i _ => 3 - (intOf i).toNat)
  case atStart => exact ⟨0, rfl, by omega, by omega, HB⟩
  case round =>
    clear HB
    obtain ⟨k, rfl, hk3, hkt, HB⟩ := hrel
    obtain ⟨hc, hf, hl, hn', hm⟩ := kw_rules HB.out hNW
    by_cases hlt : k < tn ∧ k < 3
    · obtain ⟨hlt, hl3⟩ := hlt
      have k0 : (0 : Int) ≤ (k : Int) := by omega
      have k1 : (k : Int) < (tn : Int) := by omega
      have k2 : (k : Int) < 3 := by omega
      have dk : decide ((k : Int) < (tn : Int)) = true := by simpa using hlt
      have dk3 : decide ((k : Int) < 3) = true := by simp; omega
      obtain ⟨tb', toff', hta, htb, hcell⟩ := HNT.out.rd (by omega)
      injection hta with hta
      injection hta with hta1 hta2
      subst hta1 hta2
      have tc0 := hcell k hlt
      have htb1 : tb < w.heap.size + 1 := by omega
      clear hcell
      obtain ⟨q, hqe⟩ : ∃ q, ts.getD k 0 = q := ⟨_, rfl⟩
      rw [hqe] at tc0
      clear hqe
      by_cases htl : 0 ≤ q ∧ q < W * H
      · have HTL : Hk (decide (0 ≤ q ∧ q < W * H) = true) := ⟨decide_eq_true htl⟩
        obtain ⟨goal, rfl⟩ : ∃ goal : Nat, q = goal := ⟨q.toNat, by omega⟩
        have hg : goal < n := by have := GG.out.nn; omega
        clear htl
        go_upto_region 6 with fail
        refine wp_region_held_drew (S := (fun X => (∀ b o, b < w.heap.size + 1 → X.cell? ⟨b, o, none⟩ = ((w.alloc (.cells #[.int .i64 W, .int .i64 H, .slice a n c, .slice la ln lc, .int .i64 cl, .int .i64 s, .slice (some ⟨tb, toff, none⟩) tn tc] 28))).cell? ⟨b, o, none⟩) ∧ Below (w.heap.size + 1) (w.alloc (.cells #[.int .i64 W, .int .i64 H, .slice a n c, .slice la ln lc, .int .i64 cl, .int .i64 s, .slice (some ⟨tb, toff, none⟩) tn tc] 28)) X)) (by kernel_rfl) ?_ (fun hHeld => ?_)
        · exact kw_S (kw_drew HB.out)
        refine wpAnyH_take (i := 0) (v := ?_) rfl (by kernel_rfl) (by kernel_rfl) (by kernel_rfl) (fun _ _ _ h => h) (Or.inl ⟨by rfl, fun wX hSw => ?_⟩) (by assumption) ?_
        rotate_left
        · (try dsimp only at hSw); go_simp; try with_reducible rfl
        (try simp only [Act.put, List.getElem_toArray, List.getElem_cons_succ, List.getElem_cons_zero, List.setIfInBounds_toArray, List.set_cons_zero, List.set_cons_succ])
        refine wpAnyH_take (i := 1) (v := ?_) rfl (by kernel_rfl) (by kernel_rfl) (by kernel_rfl) (fun _ _ _ h => h) (Or.inl ⟨by rfl, fun wX hSw => ?_⟩) (by assumption) ?_
        rotate_left
        · (try dsimp only at hSw); go_simp; try with_reducible rfl
        (try simp only [Act.put, List.getElem_toArray, List.getElem_cons_succ, List.getElem_cons_zero, List.setIfInBounds_toArray, List.set_cons_zero, List.set_cons_succ])
        refine wpAnyH_take (i := 2) (v := ?_) rfl (by kernel_rfl) (by kernel_rfl) (by kernel_rfl) (fun _ _ _ h => h) (Or.inl ⟨by rfl, fun wX hSw => ?_⟩) (by assumption) ?_
        rotate_left
        · (try dsimp only at hSw); go_simp; try with_reducible rfl
        (try simp only [Act.put, List.getElem_toArray, List.getElem_cons_succ, List.getElem_cons_zero, List.setIfInBounds_toArray, List.set_cons_zero, List.set_cons_succ])
        refine wpAnyH_take (i := 3) (v := ?_) rfl (by kernel_rfl) (by kernel_rfl) (by kernel_rfl) (fun _ _ _ h => h) (Or.inl ⟨by rfl, fun wX hSw => ?_⟩) (by assumption) ?_
        rotate_left
        · (try dsimp only at hSw); go_simp; try with_reducible rfl
        (try simp only [Act.put, List.getElem_toArray, List.getElem_cons_succ, List.getElem_cons_zero, List.setIfInBounds_toArray, List.set_cons_zero, List.set_cons_succ])
        refine wpAnyH_take (i := 4) (v := ?_) rfl (by kernel_rfl) (by kernel_rfl) (by kernel_rfl) (fun _ _ _ h => h) (Or.inl ⟨by rfl, fun wX hSw => ?_⟩) (by assumption) ?_
        rotate_left
        · (try dsimp only at hSw); go_simp; try with_reducible rfl
        (try simp only [Act.put, List.getElem_toArray, List.getElem_cons_succ, List.getElem_cons_zero, List.setIfInBounds_toArray, List.set_cons_zero, List.set_cons_succ])
        refine wpAnyH_take (i := 5) (v := ?_) rfl (by kernel_rfl) (by kernel_rfl) (by kernel_rfl) (fun _ _ _ h => h) (Or.inl ⟨by rfl, fun wX hSw => ?_⟩) (by assumption) ?_
        rotate_left
        · (try dsimp only at hSw); go_simp; try with_reducible rfl
        (try simp only [Act.put, List.getElem_toArray, List.getElem_cons_succ, List.getElem_cons_zero, List.setIfInBounds_toArray, List.set_cons_zero, List.set_cons_succ])
        refine wpAnyH_take (i := 6) (v := ?_) rfl (by kernel_rfl) (by kernel_rfl) (by kernel_rfl) (fun _ _ _ h => h) (Or.inl ⟨by rfl, fun wX hSw => ?_⟩) (by assumption) ?_
        rotate_left
        · (try dsimp only at hSw); go_simp; try with_reducible rfl
        (try simp only [Act.put, List.getElem_toArray, List.getElem_cons_succ, List.getElem_cons_zero, List.setIfInBounds_toArray, List.set_cons_zero, List.set_cons_succ])
        refine wpAnyH_ready (rs := [7]) (by kernel_rfl) (by simp) ?_
        refine AllReadyH.cons rfl (fun K hK => ?_) (AllReadyH.nil)
        go_simp
        (first | (go_at_call 25; (with_reducible refine (rtile_as true goal W H _ _ GG.out.w1 GG.out.w2 GG.out.h1 GG.out.h2 HTL).mono ?_); rintro e z ⟨rfl, hb⟩; have hB2 : Hk (Below (w.heap.size + 1) (w.alloc (.cells #[.int .i64 W, .int .i64 H, .slice a n c, .slice la ln lc, .int .i64 cl, .int .i64 s, .slice (some ⟨tb, toff, none⟩) tn tc] 28)) z) := ⟨by first | exact kw_step HB.out hNW hb | exact kw_step HB.out.drew hNW hb⟩; clear hb; replace HB := hB2; clear hB2; clear hc hf hl hn' hm; obtain ⟨hc, hf, hl, hn', hm⟩ := kw_rules HB.out hNW))
        refine hK.out _ _ ?_ (fun hHeld => ?_)
        · exact kw_S HB.out
        clear hK K
        (try simp only [Act.put, List.getElem_toArray, List.getElem_cons_succ, List.getElem_cons_zero, List.setIfInBounds_toArray, List.set_cons_zero, List.set_cons_succ])
        refine wpAnyH_take (i := 8) (v := ?_) rfl (by kernel_rfl) (by kernel_rfl) (by kernel_rfl) (fun _ _ _ h => h) (Or.inl ⟨by rfl, fun wX hSw => ?_⟩) (by assumption) ?_
        rotate_left
        · (try dsimp only at hSw); go_simp; try with_reducible rfl
        (try simp only [Act.put, List.getElem_toArray, List.getElem_cons_succ, List.getElem_cons_zero, List.setIfInBounds_toArray, List.set_cons_zero, List.set_cons_succ])
        refine wpAnyH_done (by kernel_rfl) ?_ _
        as_aux_lemma =>
          go_upto_region 7 with fail
          refine wp_region_held_drew (S := (fun X => (∀ b o, b < w.heap.size + 1 → X.cell? ⟨b, o, none⟩ = ((w.alloc (.cells #[.int .i64 W, .int .i64 H, .slice a n c, .slice la ln lc, .int .i64 cl, .int .i64 s, .slice (some ⟨tb, toff, none⟩) tn tc] 28))).cell? ⟨b, o, none⟩) ∧ Below (w.heap.size + 1) (w.alloc (.cells #[.int .i64 W, .int .i64 H, .slice a n c, .slice la ln lc, .int .i64 cl, .int .i64 s, .slice (some ⟨tb, toff, none⟩) tn tc] 28)) X)) (by kernel_rfl) ?_ (fun hHeld => ?_)
          · exact kw_S (kw_drew HB.out)
          refine wpAnyH_take (i := 0) (v := ?_) rfl (by kernel_rfl) (by kernel_rfl) (by kernel_rfl) (fun _ _ _ h => h) (Or.inl ⟨by rfl, fun wX hSw => ?_⟩) (by assumption) ?_
          rotate_left
          · (try dsimp only at hSw); go_simp; try with_reducible rfl
          (try simp only [Act.put, List.getElem_toArray, List.getElem_cons_succ, List.getElem_cons_zero, List.setIfInBounds_toArray, List.set_cons_zero, List.set_cons_succ])
          refine wpAnyH_take (i := 1) (v := ?_) rfl (by kernel_rfl) (by kernel_rfl) (by kernel_rfl) (fun _ _ _ h => h) (Or.inl ⟨by rfl, fun wX hSw => ?_⟩) (by assumption) ?_
          rotate_left
          · (try dsimp only at hSw); go_simp; try with_reducible rfl
          (try simp only [Act.put, List.getElem_toArray, List.getElem_cons_succ, List.getElem_cons_zero, List.setIfInBounds_toArray, List.set_cons_zero, List.set_cons_succ])
          refine wpAnyH_take (i := 2) (v := ?_) rfl (by kernel_rfl) (by kernel_rfl) (by kernel_rfl) (fun _ _ _ h => h) (Or.inl ⟨by rfl, fun wX hSw => ?_⟩) (by assumption) ?_
          rotate_left
          · (try dsimp only at hSw); go_simp; try with_reducible rfl
          (try simp only [Act.put, List.getElem_toArray, List.getElem_cons_succ, List.getElem_cons_zero, List.setIfInBounds_toArray, List.set_cons_zero, List.set_cons_succ])
          refine wpAnyH_take (i := 3) (v := ?_) rfl (by kernel_rfl) (by kernel_rfl) (by kernel_rfl) (fun _ _ _ h => h) (Or.inl ⟨by rfl, fun wX hSw => ?_⟩) (by assumption) ?_
          rotate_left
          · (try dsimp only at hSw); go_simp; try with_reducible rfl
          (try simp only [Act.put, List.getElem_toArray, List.getElem_cons_succ, List.getElem_cons_zero, List.setIfInBounds_toArray, List.set_cons_zero, List.set_cons_succ])
          refine wpAnyH_take (i := 4) (v := ?_) rfl (by kernel_rfl) (by kernel_rfl) (by kernel_rfl) (fun _ _ _ h => h) (Or.inl ⟨by rfl, fun wX hSw => ?_⟩) (by assumption) ?_
          rotate_left
          · (try dsimp only at hSw); go_simp; try with_reducible rfl
          (try simp only [Act.put, List.getElem_toArray, List.getElem_cons_succ, List.getElem_cons_zero, List.setIfInBounds_toArray, List.set_cons_zero, List.set_cons_succ])
          refine wpAnyH_take (i := 5) (v := ?_) rfl (by kernel_rfl) (by kernel_rfl) (by kernel_rfl) (fun _ _ _ h => h) (Or.inl ⟨by rfl, fun wX hSw => ?_⟩) (by assumption) ?_
          rotate_left
          · (try dsimp only at hSw); go_simp; try with_reducible rfl
          (try simp only [Act.put, List.getElem_toArray, List.getElem_cons_succ, List.getElem_cons_zero, List.setIfInBounds_toArray, List.set_cons_zero, List.set_cons_succ])
          refine wpAnyH_take (i := 6) (v := ?_) rfl (by kernel_rfl) (by kernel_rfl) (by kernel_rfl) (fun _ _ _ h => h) (Or.inl ⟨by rfl, fun wX hSw => ?_⟩) (by assumption) ?_
          rotate_left
          · (try dsimp only at hSw); go_simp; try with_reducible rfl
          (try simp only [Act.put, List.getElem_toArray, List.getElem_cons_succ, List.getElem_cons_zero, List.setIfInBounds_toArray, List.set_cons_zero, List.set_cons_succ])
          refine wpAnyH_take (i := 7) (v := ?_) rfl (by kernel_rfl) (by kernel_rfl) (by kernel_rfl) (fun _ _ _ h => h) (Or.inl ⟨by rfl, fun wX hSw => ?_⟩) (by assumption) ?_
          rotate_left
          · (try dsimp only at hSw); go_simp; try with_reducible rfl
          (try simp only [Act.put, List.getElem_toArray, List.getElem_cons_succ, List.getElem_cons_zero, List.setIfInBounds_toArray, List.set_cons_zero, List.set_cons_succ])
          refine wpAnyH_take (i := 8) (v := ?_) rfl (by kernel_rfl) (by kernel_rfl) (by kernel_rfl) (fun _ _ _ h => h) (Or.inl ⟨by rfl, fun wX hSw => ?_⟩) (by assumption) ?_
          rotate_left
          · (try dsimp only at hSw); go_simp; try with_reducible rfl
          (try simp only [Act.put, List.getElem_toArray, List.getElem_cons_succ, List.getElem_cons_zero, List.setIfInBounds_toArray, List.set_cons_zero, List.set_cons_succ])
          refine wpAnyH_take (i := 9) (v := ?_) rfl (by kernel_rfl) (by kernel_rfl) (by kernel_rfl) (fun _ _ _ h => h) (Or.inl ⟨by rfl, fun wX hSw => ?_⟩) (by assumption) ?_
          rotate_left
          · (try dsimp only at hSw); go_simp; try with_reducible rfl
          (try simp only [Act.put, List.getElem_toArray, List.getElem_cons_succ, List.getElem_cons_zero, List.setIfInBounds_toArray, List.set_cons_zero, List.set_cons_succ])
          refine wpAnyH_take (i := 10) (v := ?_) rfl (by kernel_rfl) (by kernel_rfl) (by kernel_rfl) (fun _ _ _ h => h) (Or.inl ⟨by rfl, fun wX hSw => ?_⟩) (by assumption) ?_
          rotate_left
          · (try dsimp only at hSw); go_simp; try with_reducible rfl
          (try simp only [Act.put, List.getElem_toArray, List.getElem_cons_succ, List.getElem_cons_zero, List.setIfInBounds_toArray, List.set_cons_zero, List.set_cons_succ])
          refine wpAnyH_take (i := 11) (v := ?_) rfl (by kernel_rfl) (by kernel_rfl) (by kernel_rfl) (fun _ _ _ h => h) (Or.inl ⟨by rfl, fun wX hSw => ?_⟩) (by assumption) ?_
          rotate_left
          · (try dsimp only at hSw); go_simp; try with_reducible rfl
          (try simp only [Act.put, List.getElem_toArray, List.getElem_cons_succ, List.getElem_cons_zero, List.setIfInBounds_toArray, List.set_cons_zero, List.set_cons_succ])
          refine wpAnyH_take (i := 12) (v := ?_) rfl (by kernel_rfl) (by kernel_rfl) (by kernel_rfl) (fun _ _ _ h => h) (Or.inl ⟨by rfl, fun wX hSw => ?_⟩) (by assumption) ?_
          rotate_left
          · (try dsimp only at hSw); go_simp; try with_reducible rfl
          (try simp only [Act.put, List.getElem_toArray, List.getElem_cons_succ, List.getElem_cons_zero, List.setIfInBounds_toArray, List.set_cons_zero, List.set_cons_succ])
          refine wpAnyH_ready (rs := [13]) (by kernel_rfl) (by simp) ?_
          refine AllReadyH.cons rfl (fun K hK => ?_) (AllReadyH.nil)
          go_simp
          (first | (go_at_call 28; (with_reducible refine (make_yes W H a n c xs la ln lc bs cl s goal _ ?_ ?_ ?_ hn1 hln1 hc3 hs MM hg).mono ?_); (first | exact HLF.out _ HB.out | exact HLF.out _ HB.out.drew); (first | exact (HBY.out _ HB.out).mono (hsz1 HB.out) | exact (HBY.out _ HB.out.drew).mono (hsz1 HB.out.drew)); (first | exact (HBQ.out _ HB.out).mono (hsz1 HB.out) | exact (HBQ.out _ HB.out.drew).mono (hsz1 HB.out.drew)); rintro e z ⟨J1, D1, rfl, hJ, hA, hT, hb⟩;  have HA1 := Hk.mk hA; have HT1 := Hk.mk hT; clear hJ hA hT; have hB2 : Hk (Below (w.heap.size + 1) (w.alloc (.cells #[.int .i64 W, .int .i64 H, .slice a n c, .slice la ln lc, .int .i64 cl, .int .i64 s, .slice (some ⟨tb, toff, none⟩) tn tc] 28)) z) := ⟨by first | exact kw_step HB.out hNW hb | exact kw_step HB.out.drew hNW hb⟩; clear hb; replace HB := hB2; clear hB2; clear hc hf hl hn' hm; obtain ⟨hc, hf, hl, hn', hm⟩ := kw_rules HB.out hNW))
          refine hK.out _ _ ?_ (fun hHeld => ?_)
          · exact kw_S HB.out
          clear hK K
          (try simp only [Act.put, List.getElem_toArray, List.getElem_cons_succ, List.getElem_cons_zero, List.setIfInBounds_toArray, List.set_cons_zero, List.set_cons_succ])
          refine wpAnyH_take (i := 14) (v := ?_) rfl (by kernel_rfl) (by kernel_rfl) (by kernel_rfl) (fun _ _ _ h => h) (Or.inl ⟨by rfl, fun wX hSw => ?_⟩) (by assumption) ?_
          rotate_left
          · (try dsimp only at hSw); go_simp; try with_reducible rfl
          (try simp only [Act.put, List.getElem_toArray, List.getElem_cons_succ, List.getElem_cons_zero, List.setIfInBounds_toArray, List.set_cons_zero, List.set_cons_succ])
          refine wpAnyH_take (i := 15) (v := ?_) rfl (by kernel_rfl) (by kernel_rfl) (by kernel_rfl) (fun _ _ _ h => h) (Or.inl ⟨by rfl, fun wX hSw => ?_⟩) (by assumption) ?_
          rotate_left
          · (try dsimp only at hSw); go_simp; try with_reducible rfl
          (try simp only [Act.put, List.getElem_toArray, List.getElem_cons_succ, List.getElem_cons_zero, List.setIfInBounds_toArray, List.set_cons_zero, List.set_cons_succ])
          refine wpAnyH_take (i := 16) (v := ?_) rfl (by kernel_rfl) (by kernel_rfl) (by kernel_rfl) (fun _ _ _ h => h) (Or.inl ⟨by rfl, fun wX hSw => ?_⟩) (by assumption) ?_
          rotate_left
          · (try dsimp only at hSw); go_simp; try with_reducible rfl
          (try simp only [Act.put, List.getElem_toArray, List.getElem_cons_succ, List.getElem_cons_zero, List.setIfInBounds_toArray, List.set_cons_zero, List.set_cons_succ])
          refine wpAnyH_take (i := 17) (v := ?_) rfl (by kernel_rfl) (by kernel_rfl) (by kernel_rfl) (fun _ _ _ h => h) (Or.inl ⟨by rfl, fun wX hSw => ?_⟩) (by assumption) ?_
          rotate_left
          · (try dsimp only at hSw); go_simp; try with_reducible rfl
          (try simp only [Act.put, List.getElem_toArray, List.getElem_cons_succ, List.getElem_cons_zero, List.setIfInBounds_toArray, List.set_cons_zero, List.set_cons_succ])
          refine wpAnyH_take (i := 18) (v := ?_) rfl (by kernel_rfl) (by kernel_rfl) (by kernel_rfl) (fun _ _ _ h => h) (Or.inl ⟨by rfl, fun wX hSw => ?_⟩) (by assumption) ?_
          rotate_left
          · (try dsimp only at hSw); go_simp; try with_reducible rfl
          (try simp only [Act.put, List.getElem_toArray, List.getElem_cons_succ, List.getElem_cons_zero, List.setIfInBounds_toArray, List.set_cons_zero, List.set_cons_succ])
          refine wpAnyH_done (by kernel_rfl) ?_ _
          as_aux_lemma =>
            go_upto_region 8 with fail
            refine wp_region_held_drew (S := (fun X => (∀ b o, b < w.heap.size + 1 → X.cell? ⟨b, o, none⟩ = ((w.alloc (.cells #[.int .i64 W, .int .i64 H, .slice a n c, .slice la ln lc, .int .i64 cl, .int .i64 s, .slice (some ⟨tb, toff, none⟩) tn tc] 28))).cell? ⟨b, o, none⟩) ∧ Below (w.heap.size + 1) (w.alloc (.cells #[.int .i64 W, .int .i64 H, .slice a n c, .slice la ln lc, .int .i64 cl, .int .i64 s, .slice (some ⟨tb, toff, none⟩) tn tc] 28)) X)) (by kernel_rfl) ?_ (fun hHeld => ?_)
            · exact kw_S (kw_drew HB.out)
            refine wpAnyH_take (i := 0) (v := ?_) rfl (by kernel_rfl) (by kernel_rfl) (by kernel_rfl) (fun _ _ _ h => h) (Or.inl ⟨by rfl, fun wX hSw => ?_⟩) (by assumption) ?_
            rotate_left
            · (try dsimp only at hSw); go_simp; try with_reducible rfl
            (try simp only [Act.put, List.getElem_toArray, List.getElem_cons_succ, List.getElem_cons_zero, List.setIfInBounds_toArray, List.set_cons_zero, List.set_cons_succ])
            refine wpAnyH_take (i := 1) (v := ?_) rfl (by kernel_rfl) (by kernel_rfl) (by kernel_rfl) (fun _ _ _ h => h) (Or.inl ⟨by rfl, fun wX hSw => ?_⟩) (by assumption) ?_
            rotate_left
            · (try dsimp only at hSw); go_simp; try with_reducible rfl
            (try simp only [Act.put, List.getElem_toArray, List.getElem_cons_succ, List.getElem_cons_zero, List.setIfInBounds_toArray, List.set_cons_zero, List.set_cons_succ])
            refine wpAnyH_take (i := 2) (v := ?_) rfl (by kernel_rfl) (by kernel_rfl) (by kernel_rfl) (fun _ _ _ h => h) (Or.inl ⟨by rfl, fun wX hSw => ?_⟩) (by assumption) ?_
            rotate_left
            · (try dsimp only at hSw); go_simp; try with_reducible rfl
            (try simp only [Act.put, List.getElem_toArray, List.getElem_cons_succ, List.getElem_cons_zero, List.setIfInBounds_toArray, List.set_cons_zero, List.set_cons_succ])
            refine wpAnyH_take (i := 3) (v := ?_) rfl (by kernel_rfl) (by kernel_rfl) (by kernel_rfl) (fun _ _ _ h => h) (Or.inl ⟨by rfl, fun wX hSw => ?_⟩) (by assumption) ?_
            rotate_left
            · (try dsimp only at hSw); go_simp; try with_reducible rfl
            (try simp only [Act.put, List.getElem_toArray, List.getElem_cons_succ, List.getElem_cons_zero, List.setIfInBounds_toArray, List.set_cons_zero, List.set_cons_succ])
            refine wpAnyH_take (i := 4) (v := ?_) rfl (by kernel_rfl) (by kernel_rfl) (by kernel_rfl) (fun _ _ _ h => h) (Or.inl ⟨by rfl, fun wX hSw => ?_⟩) (by assumption) ?_
            rotate_left
            · (try dsimp only at hSw); go_simp; try with_reducible rfl
            (try simp only [Act.put, List.getElem_toArray, List.getElem_cons_succ, List.getElem_cons_zero, List.setIfInBounds_toArray, List.set_cons_zero, List.set_cons_succ])
            refine wpAnyH_take (i := 5) (v := ?_) rfl (by kernel_rfl) (by kernel_rfl) (by kernel_rfl) (fun _ _ _ h => h) (Or.inl ⟨by rfl, fun wX hSw => ?_⟩) (by assumption) ?_
            rotate_left
            · (try dsimp only at hSw); go_simp; try with_reducible rfl
            (try simp only [Act.put, List.getElem_toArray, List.getElem_cons_succ, List.getElem_cons_zero, List.setIfInBounds_toArray, List.set_cons_zero, List.set_cons_succ])
            refine wpAnyH_take (i := 6) (v := ?_) rfl (by kernel_rfl) (by kernel_rfl) (by kernel_rfl) (fun _ _ _ h => h) (Or.inl ⟨by rfl, fun wX hSw => ?_⟩) (by assumption) ?_
            rotate_left
            · (try dsimp only at hSw); go_simp; try with_reducible rfl
            (try simp only [Act.put, List.getElem_toArray, List.getElem_cons_succ, List.getElem_cons_zero, List.setIfInBounds_toArray, List.set_cons_zero, List.set_cons_succ])
            refine wpAnyH_take (i := 7) (v := ?_) rfl (by kernel_rfl) (by kernel_rfl) (by kernel_rfl) (fun _ _ _ h => h) (Or.inl ⟨by rfl, fun wX hSw => ?_⟩) (by assumption) ?_
            rotate_left
            · (try dsimp only at hSw); go_simp; try with_reducible rfl
            (try simp only [Act.put, List.getElem_toArray, List.getElem_cons_succ, List.getElem_cons_zero, List.setIfInBounds_toArray, List.set_cons_zero, List.set_cons_succ])
            refine wpAnyH_take (i := 8) (v := ?_) rfl (by kernel_rfl) (by kernel_rfl) (by kernel_rfl) (fun _ _ _ h => h) (Or.inl ⟨by rfl, fun wX hSw => ?_⟩) (by assumption) ?_
            rotate_left
            · (try dsimp only at hSw); go_simp; try with_reducible rfl
            (try simp only [Act.put, List.getElem_toArray, List.getElem_cons_succ, List.getElem_cons_zero, List.setIfInBounds_toArray, List.set_cons_zero, List.set_cons_succ])
            refine wpAnyH_take (i := 9) (v := ?_) rfl (by kernel_rfl) (by kernel_rfl) (by kernel_rfl) (fun _ _ _ h => h) (Or.inl ⟨by rfl, fun wX hSw => ?_⟩) (by assumption) ?_
            rotate_left
            · (try dsimp only at hSw); go_simp; try with_reducible rfl
            (try simp only [Act.put, List.getElem_toArray, List.getElem_cons_succ, List.getElem_cons_zero, List.setIfInBounds_toArray, List.set_cons_zero, List.set_cons_succ])
            refine wpAnyH_take (i := 10) (v := ?_) rfl (by kernel_rfl) (by kernel_rfl) (by kernel_rfl) (fun _ _ _ h => h) (Or.inl ⟨by rfl, fun wX hSw => ?_⟩) (by assumption) ?_
            rotate_left
            · (try dsimp only at hSw); go_simp; try with_reducible rfl
            (try simp only [Act.put, List.getElem_toArray, List.getElem_cons_succ, List.getElem_cons_zero, List.setIfInBounds_toArray, List.set_cons_zero, List.set_cons_succ])
            refine wpAnyH_take (i := 11) (v := ?_) rfl (by kernel_rfl) (by kernel_rfl) (by kernel_rfl) (fun _ _ _ h => h) (Or.inl ⟨by rfl, fun wX hSw => ?_⟩) (by assumption) ?_
            rotate_left
            · (try dsimp only at hSw); go_simp; try with_reducible rfl
            (try simp only [Act.put, List.getElem_toArray, List.getElem_cons_succ, List.getElem_cons_zero, List.setIfInBounds_toArray, List.set_cons_zero, List.set_cons_succ])
            refine wpAnyH_take (i := 12) (v := ?_) rfl (by kernel_rfl) (by kernel_rfl) (by kernel_rfl) (fun _ _ _ h => h) (Or.inl ⟨by rfl, fun wX hSw => ?_⟩) (by assumption) ?_
            rotate_left
            · (try dsimp only at hSw); go_simp; try with_reducible rfl
            (try simp only [Act.put, List.getElem_toArray, List.getElem_cons_succ, List.getElem_cons_zero, List.setIfInBounds_toArray, List.set_cons_zero, List.set_cons_succ])
            refine wpAnyH_take (i := 13) (v := ?_) rfl (by kernel_rfl) (by kernel_rfl) (by kernel_rfl) (fun _ _ _ h => h) (Or.inl ⟨by rfl, fun wX hSw => ?_⟩) (by assumption) ?_
            rotate_left
            · (try dsimp only at hSw); go_simp; try with_reducible rfl
            (try simp only [Act.put, List.getElem_toArray, List.getElem_cons_succ, List.getElem_cons_zero, List.setIfInBounds_toArray, List.set_cons_zero, List.set_cons_succ])
            refine wpAnyH_ready (rs := [14]) (by kernel_rfl) (by simp) ?_
            refine AllReadyH.cons rfl (fun K hK => ?_) (AllReadyH.nil)
            go_simp
            (first | (go_at_call 28; (with_reducible refine (make_yes W H a n c xs la ln lc bs cl s' goal _ ?_ ?_ ?_ hn1 hln1 hc3 hs3 MM hg).mono ?_); (first | exact HLF.out _ HB.out | exact HLF.out _ HB.out.drew); (first | exact (HBY.out _ HB.out).mono (hsz1 HB.out) | exact (HBY.out _ HB.out.drew).mono (hsz1 HB.out.drew)); (first | exact (HBQ.out _ HB.out).mono (hsz1 HB.out) | exact (HBQ.out _ HB.out.drew).mono (hsz1 HB.out.drew)); rintro e z ⟨J2, D2, rfl, hJ, hA, hT, hb⟩; have HA1' := Hk.mk (show Arr z J1 n 3 (fun t => .int .i64 (D1 t)) from HA1.out.drew.later hb);  have HA2 := Hk.mk hA; have HT2 := Hk.mk hT; clear hJ hA hT; have hB2 : Hk (Below (w.heap.size + 1) (w.alloc (.cells #[.int .i64 W, .int .i64 H, .slice a n c, .slice la ln lc, .int .i64 cl, .int .i64 s, .slice (some ⟨tb, toff, none⟩) tn tc] 28)) z) := ⟨by first | exact kw_step HB.out hNW hb | exact kw_step HB.out.drew hNW hb⟩; clear hb; replace HB := hB2; clear hB2; clear hc hf hl hn' hm; obtain ⟨hc, hf, hl, hn', hm⟩ := kw_rules HB.out hNW))
            refine hK.out _ _ ?_ (fun hHeld => ?_)
            · exact kw_S HB.out
            clear hK K
            (try simp only [Act.put, List.getElem_toArray, List.getElem_cons_succ, List.getElem_cons_zero, List.setIfInBounds_toArray, List.set_cons_zero, List.set_cons_succ])
            refine wpAnyH_take (i := 15) (v := ?_) rfl (by kernel_rfl) (by kernel_rfl) (by kernel_rfl) (fun _ _ _ h => h) (Or.inl ⟨by rfl, fun wX hSw => ?_⟩) (by assumption) ?_
            rotate_left
            · (try dsimp only at hSw); go_simp; try with_reducible rfl
            (try simp only [Act.put, List.getElem_toArray, List.getElem_cons_succ, List.getElem_cons_zero, List.setIfInBounds_toArray, List.set_cons_zero, List.set_cons_succ])
            refine wpAnyH_take (i := 16) (v := ?_) rfl (by kernel_rfl) (by kernel_rfl) (by kernel_rfl) (fun _ _ _ h => h) (Or.inl ⟨by rfl, fun wX hSw => ?_⟩) (by assumption) ?_
            rotate_left
            · (try dsimp only at hSw); go_simp; try with_reducible rfl
            (try simp only [Act.put, List.getElem_toArray, List.getElem_cons_succ, List.getElem_cons_zero, List.setIfInBounds_toArray, List.set_cons_zero, List.set_cons_succ])
            refine wpAnyH_take (i := 17) (v := ?_) rfl (by kernel_rfl) (by kernel_rfl) (by kernel_rfl) (fun _ _ _ h => h) (Or.inl ⟨by rfl, fun wX hSw => ?_⟩) (by assumption) ?_
            rotate_left
            · (try dsimp only at hSw); go_simp; try with_reducible rfl
            (try simp only [Act.put, List.getElem_toArray, List.getElem_cons_succ, List.getElem_cons_zero, List.setIfInBounds_toArray, List.set_cons_zero, List.set_cons_succ])
            refine wpAnyH_take (i := 18) (v := ?_) rfl (by kernel_rfl) (by kernel_rfl) (by kernel_rfl) (fun _ _ _ h => h) (Or.inl ⟨by rfl, fun wX hSw => ?_⟩) (by assumption) ?_
            rotate_left
            · (try dsimp only at hSw); go_simp; try with_reducible rfl
            (try simp only [Act.put, List.getElem_toArray, List.getElem_cons_succ, List.getElem_cons_zero, List.setIfInBounds_toArray, List.set_cons_zero, List.set_cons_succ])
            refine wpAnyH_take (i := 19) (v := ?_) rfl (by kernel_rfl) (by kernel_rfl) (by kernel_rfl) (fun _ _ _ h => h) (Or.inl ⟨by rfl, fun wX hSw => ?_⟩) (by assumption) ?_
            rotate_left
            · (try dsimp only at hSw); go_simp; try with_reducible rfl
            (try simp only [Act.put, List.getElem_toArray, List.getElem_cons_succ, List.getElem_cons_zero, List.setIfInBounds_toArray, List.set_cons_zero, List.set_cons_succ])
            refine wpAnyH_done (by kernel_rfl) ?_ _
            as_aux_lemma =>
              have HTS : Hk (∀ t, t < n → 0 ≤ D1 t → 0 ≤ D2 t ∧ D2 t ≤ D1 t) := ⟨tab_sizes hss HT1.out HT2.out⟩
              have HA1 := HA1'
              go_wp2_with (go_at_call 21; (with_reducible refine (num13_any _ _).mono ?_); rintro e z ⟨rfl, rfl⟩)
              clear HT1 HT2 HA1'
              clear hc hf hl hn' hm
              go_loopw [8] (fun i wr => ∃ t : Nat, i = .int .i64 t ∧ t ≤ n ∧ Hk (Below (w.heap.size + 1) (w.alloc (.cells #[.int .i64 W, .int .i64 H, .slice a n c, .slice la ln lc, .int .i64 cl, .int .i64 s, .slice (some ⟨tb, toff, none⟩) tn tc] 28)) wr) ∧ Hk (Arr wr J1 n 3 (fun t => .int .i64 (D1 t))) ∧ Hk (Arr wr J2 n 3 (fun t => .int .i64 (D2 t)))) (fun i _ => n - (intOf i).toNat)
              case atStart => exact ⟨0, rfl, by omega, HB, HA1, HA2⟩
              case round =>
                clear HB HA1 HA2
                obtain ⟨t, rfl, ht, HB, HA1, HA2⟩ := hrel
                obtain ⟨hc, hf, hl, hn', hm⟩ := kw_rules HB.out hNW
                by_cases htn : t < n
                · have t0 : (0 : Int) ≤ (t : Int) := by omega
                  have t1 : (t : Int) < (n : Int) := by omega
                  have c1 := HA1.out.cell htn
                  have c2 := HA2.out.cell htn
                  have hts := HTS.out t htn
                  generalize D1 t = x at *
                  generalize D2 t = y at *
                  by_cases hx : 0 ≤ x
                  · obtain ⟨hy0, hyx⟩ := hts hx
                    have d1 : decide (0 ≤ x) = true := by simpa using hx
                    have d2 : decide (y < 0) = false := by simp; omega
                    have d3 : decide (x < y) = false := by simp; omega
                    clear hts
                    as_aux_lemma =>
                      go_upto_region 14 with fail
                      go_region
                      go_wp2_with fail
                      exact ⟨⟨t + 1, by go_num, by omega, ⟨HB.out.drew⟩, ⟨HA1.out.drew⟩, ⟨HA2.out.drew⟩⟩, by simp [intOf]; omega⟩
                  · have d1 : decide (0 ≤ x) = false := by simpa using hx
                    clear hts
                    as_aux_lemma =>
                      go_upto_region 14 with fail
                      go_region
                      go_wp2_with fail
                      exact ⟨⟨t + 1, by go_num, by omega, ⟨HB.out.drew⟩, ⟨HA1.out.drew⟩, ⟨HA2.out.drew⟩⟩, by simp [intOf]; omega⟩
                · obtain rfl : n = t := by omega
                  go_wp2_with fail
                  exact ⟨⟨k + 1, by go_num, by omega, by omega, HB⟩, by simp [intOf]; omega⟩
      · have HTL : Hk (decide (0 ≤ q ∧ q < W * H) = false) := ⟨decide_eq_false htl⟩
        clear htl
        as_aux_lemma =>
          go_upto_region 6 with fail
          refine wp_region_held_drew (S := (fun X => (∀ b o, b < w.heap.size + 1 → X.cell? ⟨b, o, none⟩ = ((w.alloc (.cells #[.int .i64 W, .int .i64 H, .slice a n c, .slice la ln lc, .int .i64 cl, .int .i64 s, .slice (some ⟨tb, toff, none⟩) tn tc] 28))).cell? ⟨b, o, none⟩) ∧ Below (w.heap.size + 1) (w.alloc (.cells #[.int .i64 W, .int .i64 H, .slice a n c, .slice la ln lc, .int .i64 cl, .int .i64 s, .slice (some ⟨tb, toff, none⟩) tn tc] 28)) X)) (by kernel_rfl) ?_ (fun hHeld => ?_)
          · exact kw_S (kw_drew HB.out)
          refine wpAnyH_take (i := 0) (v := ?_) rfl (by kernel_rfl) (by kernel_rfl) (by kernel_rfl) (fun _ _ _ h => h) (Or.inl ⟨by rfl, fun wX hSw => ?_⟩) (by assumption) ?_
          rotate_left
          · (try dsimp only at hSw); go_simp; try with_reducible rfl
          (try simp only [Act.put, List.getElem_toArray, List.getElem_cons_succ, List.getElem_cons_zero, List.setIfInBounds_toArray, List.set_cons_zero, List.set_cons_succ])
          refine wpAnyH_take (i := 1) (v := ?_) rfl (by kernel_rfl) (by kernel_rfl) (by kernel_rfl) (fun _ _ _ h => h) (Or.inl ⟨by rfl, fun wX hSw => ?_⟩) (by assumption) ?_
          rotate_left
          · (try dsimp only at hSw); go_simp; try with_reducible rfl
          (try simp only [Act.put, List.getElem_toArray, List.getElem_cons_succ, List.getElem_cons_zero, List.setIfInBounds_toArray, List.set_cons_zero, List.set_cons_succ])
          refine wpAnyH_take (i := 2) (v := ?_) rfl (by kernel_rfl) (by kernel_rfl) (by kernel_rfl) (fun _ _ _ h => h) (Or.inl ⟨by rfl, fun wX hSw => ?_⟩) (by assumption) ?_
          rotate_left
          · (try dsimp only at hSw); go_simp; try with_reducible rfl
          (try simp only [Act.put, List.getElem_toArray, List.getElem_cons_succ, List.getElem_cons_zero, List.setIfInBounds_toArray, List.set_cons_zero, List.set_cons_succ])
          refine wpAnyH_take (i := 3) (v := ?_) rfl (by kernel_rfl) (by kernel_rfl) (by kernel_rfl) (fun _ _ _ h => h) (Or.inl ⟨by rfl, fun wX hSw => ?_⟩) (by assumption) ?_
          rotate_left
          · (try dsimp only at hSw); go_simp; try with_reducible rfl
          (try simp only [Act.put, List.getElem_toArray, List.getElem_cons_succ, List.getElem_cons_zero, List.setIfInBounds_toArray, List.set_cons_zero, List.set_cons_succ])
          refine wpAnyH_take (i := 4) (v := ?_) rfl (by kernel_rfl) (by kernel_rfl) (by kernel_rfl) (fun _ _ _ h => h) (Or.inl ⟨by rfl, fun wX hSw => ?_⟩) (by assumption) ?_
          rotate_left
          · (try dsimp only at hSw); go_simp; try with_reducible rfl
          (try simp only [Act.put, List.getElem_toArray, List.getElem_cons_succ, List.getElem_cons_zero, List.setIfInBounds_toArray, List.set_cons_zero, List.set_cons_succ])
          refine wpAnyH_take (i := 5) (v := ?_) rfl (by kernel_rfl) (by kernel_rfl) (by kernel_rfl) (fun _ _ _ h => h) (Or.inl ⟨by rfl, fun wX hSw => ?_⟩) (by assumption) ?_
          rotate_left
          · (try dsimp only at hSw); go_simp; try with_reducible rfl
          (try simp only [Act.put, List.getElem_toArray, List.getElem_cons_succ, List.getElem_cons_zero, List.setIfInBounds_toArray, List.set_cons_zero, List.set_cons_succ])
          refine wpAnyH_take (i := 6) (v := ?_) rfl (by kernel_rfl) (by kernel_rfl) (by kernel_rfl) (fun _ _ _ h => h) (Or.inl ⟨by rfl, fun wX hSw => ?_⟩) (by assumption) ?_
          rotate_left
          · (try dsimp only at hSw); go_simp; try with_reducible rfl
          (try simp only [Act.put, List.getElem_toArray, List.getElem_cons_succ, List.getElem_cons_zero, List.setIfInBounds_toArray, List.set_cons_zero, List.set_cons_succ])
          refine wpAnyH_ready (rs := [7]) (by kernel_rfl) (by simp) ?_
          refine AllReadyH.cons rfl (fun K hK => ?_) (AllReadyH.nil)
          go_simp
          (first | (go_at_call 25; (with_reducible refine (rtile_as false q W H _ _ GG.out.w1 GG.out.w2 GG.out.h1 GG.out.h2 HTL).mono ?_); rintro e z ⟨rfl, hb⟩; have hB2 : Hk (Below (w.heap.size + 1) (w.alloc (.cells #[.int .i64 W, .int .i64 H, .slice a n c, .slice la ln lc, .int .i64 cl, .int .i64 s, .slice (some ⟨tb, toff, none⟩) tn tc] 28)) z) := ⟨by first | exact kw_step HB.out hNW hb | exact kw_step HB.out.drew hNW hb⟩; clear hb; replace HB := hB2; clear hB2; clear hc hf hl hn' hm; obtain ⟨hc, hf, hl, hn', hm⟩ := kw_rules HB.out hNW))
          refine hK.out _ _ ?_ (fun hHeld => ?_)
          · exact kw_S HB.out
          clear hK K
          (try simp only [Act.put, List.getElem_toArray, List.getElem_cons_succ, List.getElem_cons_zero, List.setIfInBounds_toArray, List.set_cons_zero, List.set_cons_succ])
          refine wpAnyH_take (i := 8) (v := ?_) rfl (by kernel_rfl) (by kernel_rfl) (by kernel_rfl) (fun _ _ _ h => h) (Or.inl ⟨by rfl, fun wX hSw => ?_⟩) (by assumption) ?_
          rotate_left
          · (try dsimp only at hSw); go_simp; try with_reducible rfl
          (try simp only [Act.put, List.getElem_toArray, List.getElem_cons_succ, List.getElem_cons_zero, List.setIfInBounds_toArray, List.set_cons_zero, List.set_cons_succ])
          refine wpAnyH_done (by kernel_rfl) ?_ _
          go_wp2_with fail
          exact ⟨⟨k + 1, by go_num, by omega, by omega, HB⟩, by simp [intOf]; omega⟩
    · have hor : (¬ k < tn) ∨ (k < tn ∧ ¬ k < 3) := by omega
      rcases hor with h1 | ⟨h1, h3⟩
      · have dk : decide ((k : Int) < (tn : Int)) = false := by simp; omega
        as_aux_lemma =>
          go_wp2_with (first
            | (go_at_call 36; (with_reducible refine (cnt13_as 8 8 1 _ ⟨by decide⟩ ⟨by decide⟩).mono ?_); rintro e z ⟨rfl, hb⟩; replace HB := Hk.mk (kw_step HB.out hNW hb); clear hb; clear hc hf hl hn' hm; obtain ⟨hc, hf, hl, hn', hm⟩ := kw_rules HB.out hNW)
            | (go_at_call 21; (with_reducible refine (num13_any _ _).mono ?_); rintro e z ⟨rfl, rfl⟩)
            | (go_at_call 24; (with_reducible refine (wakes13_any _ (HLF.out _ HB.out)).mono ?_); rintro e z ⟨rfl, hb⟩; replace HB := Hk.mk (kw_step HB.out hNW hb); clear hb; clear hc hf hl hn' hm; obtain ⟨hc, hf, hl, hn', hm⟩ := kw_rules HB.out hNW))
          go_ret
          exact ⟨rfl, HTR.out _ HB.out⟩
      · have dk : decide ((k : Int) < (tn : Int)) = true := by simpa using h1
        have dk3 : decide ((k : Int) < 3) = false := by simp; omega
        as_aux_lemma =>
          go_wp2_with (first
            | (go_at_call 36; (with_reducible refine (cnt13_as 8 8 1 _ ⟨by decide⟩ ⟨by decide⟩).mono ?_); rintro e z ⟨rfl, hb⟩; replace HB := Hk.mk (kw_step HB.out hNW hb); clear hb; clear hc hf hl hn' hm; obtain ⟨hc, hf, hl, hn', hm⟩ := kw_rules HB.out hNW)
            | (go_at_call 21; (with_reducible refine (num13_any _ _).mono ?_); rintro e z ⟨rfl, rfl⟩)
            | (go_at_call 24; (with_reducible refine (wakes13_any _ (HLF.out _ HB.out)).mono ?_); rintro e z ⟨rfl, hb⟩; replace HB := Hk.mk (kw_step HB.out hNW hb); clear hb; clear hc hf hl hn' hm; obtain ⟨hc, hf, hl, hn', hm⟩ := kw_rules HB.out hNW))
          go_ret
          exact ⟨rfl, HTR.out _ HB.out⟩
end Go.Proofs.YthabjihpjdlmoaaDoor
