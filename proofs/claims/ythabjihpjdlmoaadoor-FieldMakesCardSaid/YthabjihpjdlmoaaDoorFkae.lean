import Derived.Deep.QuietTactic
import Derived.BigQuiet
import Derived.Deep.RegionWith
import Derived.Deep.RegionHeld3
import Derived.Deep.DeepCutAuto
import Derived.Deep.DeepFit
import Derived.Outline
import Derived.Test.YthabjihpjdlmoaaDoorFkad
import Derived.Test.YthabjihpjdlmoaaDoorFkz
/- Layer 13: how far it is, where tiles are asked for. -/
namespace Go.Proofs.YthabjihpjdlmoaaDoor
open Go.ChangeShapes Go.WideShapes Go.ChangeAt Go.RowKit Go.Deep
set_option linter.unusedVariables false
set_option linter.unusedSimpArgs false
set_option maxRecDepth 1000000 in
set_option maxHeartbeats 3200000 in
theorem fieldMakes_in (W H : Int) (a : Option Addr) (n c : Nat) (xs : List Int) (la : Option Addr) (ln lc : Nat) (bs : List Bd) (cl s : Nat) (tb toff : Nat) (tn tc : Nat) (ts : List Int) (w : World) (hL : LF w) (h : By w w.heap.size a n xs) (hb0 : Bq w w.heap.size la ln bs) (hq : Nq w w.heap.size ((some ⟨tb, toff, none⟩)) tn ts) (hn : n ≤ 700) (hln : ln ≤ 30) (htn : tn ≤ 30) (hlc : ln ≤ lc) (HV : Hk (hv13 n ln tn = false)) (hc3 : cl < 3) (hs : s ≤ 3) (MM : Hk (MOk W H n xs bs)) :
    Calls Tryd.prog 4 #[.agg #[.int .i64 W, .int .i64 H, .slice a n c, .slice la ln lc, .int .i64 cl, .int .i64 s, .slice (some ⟨tb, toff, none⟩) tn tc]] w fun e w' => e = .returned (.bool true) ∧ Below w.heap.size w w' := by
  have HWB : Hk (Below w.heap.size w (w.alloc (.cells #[.int .i64 W, .int .i64 H, .slice a n c, .slice la ln lc, .int .i64 cl, .int .i64 s, .slice (some ⟨tb, toff, none⟩) tn tc] 28))) := ⟨(Below.refl _ _).alloc (Nat.le_refl _) _⟩
  have hNW : w.heap.size + 1 ≤ (w.alloc (.cells #[.int .i64 W, .int .i64 H, .slice a n c, .slice la ln lc, .int .i64 cl, .int .i64 s, .slice (some ⟨tb, toff, none⟩) tn tc] 28)).heap.size := by simp
  have HB : Hk (Below (w.heap.size + 1) (w.alloc (.cells #[.int .i64 W, .int .i64 H, .slice a n c, .slice la ln lc, .int .i64 cl, .int .i64 s, .slice (some ⟨tb, toff, none⟩) tn tc] 28)) (w.alloc (.cells #[.int .i64 W, .int .i64 H, .slice a n c, .slice la ln lc, .int .i64 cl, .int .i64 s, .slice (some ⟨tb, toff, none⟩) tn tc] 28))) := ⟨Below.refl _ _⟩
  have HTR : Hk (∀ X, Below (w.heap.size + 1) (w.alloc (.cells #[.int .i64 W, .int .i64 H, .slice a n c, .slice la ln lc, .int .i64 cl, .int .i64 s, .slice (some ⟨tb, toff, none⟩) tn tc] 28)) X → Below w.heap.size w X) := ⟨fun X hX => HWB.out.trans (hX.mono (by omega))⟩
  have HBY := Hk.mk (fun (X : World) (hX : Below (w.heap.size + 1) (w.alloc (.cells #[.int .i64 W, .int .i64 H, .slice a n c, .slice la ln lc, .int .i64 cl, .int .i64 s, .slice (some ⟨tb, toff, none⟩) tn tc] 28)) X) => h.below (HTR.out X hX) (Nat.le_refl _))
  have HBQ := Hk.mk (fun (X : World) (hX : Below (w.heap.size + 1) (w.alloc (.cells #[.int .i64 W, .int .i64 H, .slice a n c, .slice la ln lc, .int .i64 cl, .int .i64 s, .slice (some ⟨tb, toff, none⟩) tn tc] 28)) X) => hb0.below (HTR.out X hX) (Nat.le_refl _))
  have HNQT := Hk.mk (fun (X : World) (hX : Below (w.heap.size + 1) (w.alloc (.cells #[.int .i64 W, .int .i64 H, .slice a n c, .slice la ln lc, .int .i64 cl, .int .i64 s, .slice (some ⟨tb, toff, none⟩) tn tc] 28)) X) => hq.below (HTR.out X hX) (Nat.le_refl _))
  have HLF := Hk.mk (fun (X : World) (hX : Below (w.heap.size + 1) (w.alloc (.cells #[.int .i64 W, .int .i64 H, .slice a n c, .slice la ln lc, .int .i64 cl, .int .i64 s, .slice (some ⟨tb, toff, none⟩) tn tc] 28)) X) => hL.below (HTR.out X hX) (Nat.le_refl _))
  clear h hb0 hL
  obtain ⟨hc, hf, hl, hn', hm⟩ := kw_rules HB.out hNW
  have GG : Hk (GOk W H n xs) := ⟨MM.out.g⟩
  have hn1 : n ≤ 140737488355328 := by omega
  have hn2 : n ≤ 1099511627776 := by omega
  have hln1 : ln ≤ 1099511627776 := by omega
  go_enter Tryd.func4, Tryd.ntmps4
  go_wp2_with (go_at_call 17; (with_reducible refine (heavy13_as false W H cl s a la (some ⟨tb, toff, none⟩) n c ln lc tn tc _ (by omega) (by omega) (by omega) HV).mono ?_); rintro e z ⟨rfl, hb⟩; replace HB := Hk.mk (kw_step HB.out hNW hb); clear hb; clear hc hf hl hn' hm; obtain ⟨hc, hf, hl, hn', hm⟩ := kw_rules HB.out hNW)
  have HB := HB
  clear hc hf hl hn' hm
  have HNT := Hk.mk hq
  go_loopw [3] (fun i wr => ∃ k : Nat, i = .int .i64 k ∧ k ≤ 6 ∧ k ≤ tn ∧ Hk (Below (w.heap.size + 1) (w.alloc (.cells #[.int .i64 W, .int .i64 H, .slice a n c, .slice la ln lc, .int .i64 cl, .int .i64 s, .slice (some ⟨tb, toff, none⟩) tn tc] 28)) wr)) (fun i _ => 6 - (intOf i).toNat)
  case atStart => exact ⟨0, rfl, by omega, by omega, HB⟩
  case round =>
    clear HB
    obtain ⟨k, rfl, hk3, hkt, HB⟩ := hrel
    obtain ⟨hc, hf, hl, hn', hm⟩ := kw_rules HB.out hNW
    by_cases hlt : k < tn ∧ k < 6
    · obtain ⟨hlt, hl3⟩ := hlt
      have k0 : (0 : Int) ≤ (k : Int) := by omega
      have k1 : (k : Int) < (tn : Int) := by omega
      have k2 : (k : Int) < 6 := by omega
      have dk : decide ((k : Int) < (tn : Int)) = true := by simpa using hlt
      have dk3 : decide ((k : Int) < 6) = true := by simp; omega
      obtain ⟨tb', toff', hta, htb, hcell⟩ := HNT.out.rd (by omega)
      injection hta with hta
      injection hta with hta1 hta2
      subst hta1 hta2
      have tc0 := hcell k hlt
      have htb1 : tb < w.heap.size + 1 := by omega
      clear hcell
      obtain ⟨q, hqe⟩ : ∃ q, ts.getD k 0 = q := ⟨_, rfl⟩
      rw [hqe] at tc0
      clear hqe
      by_cases htl : 0 ≤ q ∧ q < W * H
      · have HTL : Hk (decide (0 ≤ q ∧ q < W * H) = true) := ⟨decide_eq_true htl⟩
        obtain ⟨goal, rfl⟩ : ∃ goal : Nat, q = goal := ⟨q.toNat, by omega⟩
        have hg : goal < n := by have := GG.out.nn; omega
        clear htl
        go_upto_region 7 with (go_at_call 18; (with_reducible refine (form13_yes W H a n c xs la ln lc bs cl s (some ⟨tb, toff, none⟩) tn tc _ ?_ ?_ (by omega) (by omega) hc3 hs MM).mono ?_); (exact (HBY.out _ HB.out).mono (hsz1 HB.out)); (exact (HBQ.out _ HB.out).mono (hsz1 HB.out)); rintro e z ⟨rfl, hb⟩; replace HB := Hk.mk (kw_step HB.out hNW hb); clear hb; clear hc hf hl hn' hm; obtain ⟨hc, hf, hl, hn', hm⟩ := kw_rules HB.out hNW)
        refine wp_region_held_drew (S := (fun X => (∀ b o, b < w.heap.size + 1 → X.cell? ⟨b, o, none⟩ = ((w.alloc (.cells #[.int .i64 W, .int .i64 H, .slice a n c, .slice la ln lc, .int .i64 cl, .int .i64 s, .slice (some ⟨tb, toff, none⟩) tn tc] 28))).cell? ⟨b, o, none⟩) ∧ Below (w.heap.size + 1) (w.alloc (.cells #[.int .i64 W, .int .i64 H, .slice a n c, .slice la ln lc, .int .i64 cl, .int .i64 s, .slice (some ⟨tb, toff, none⟩) tn tc] 28)) X)) (by kernel_rfl) ?_ (fun hHeld => ?_)
        · exact kw_S (kw_drew HB.out)
        refine wpAnyH_take (i := 0) (v := ?_) rfl (by kernel_rfl) (by kernel_rfl) (by kernel_rfl) (fun _ _ _ h => h) (Or.inl ⟨by rfl, fun wX hSw => ?_⟩) (by assumption) ?_
        rotate_left
        · (try dsimp only at hSw); go_simp; try with_reducible rfl
        (try simp only [Act.put, List.getElem_toArray, List.getElem_cons_succ, List.getElem_cons_zero, List.setIfInBounds_toArray, List.set_cons_zero, List.set_cons_succ])
        refine wpAnyH_take (i := 1) (v := ?_) rfl (by kernel_rfl) (by kernel_rfl) (by kernel_rfl) (fun _ _ _ h => h) (Or.inl ⟨by rfl, fun wX hSw => ?_⟩) (by assumption) ?_
        rotate_left
        · (try dsimp only at hSw); go_simp; try with_reducible rfl
        (try simp only [Act.put, List.getElem_toArray, List.getElem_cons_succ, List.getElem_cons_zero, List.setIfInBounds_toArray, List.set_cons_zero, List.set_cons_succ])
        refine wpAnyH_take (i := 2) (v := ?_) rfl (by kernel_rfl) (by kernel_rfl) (by kernel_rfl) (fun _ _ _ h => h) (Or.inl ⟨by rfl, fun wX hSw => ?_⟩) (by assumption) ?_
        rotate_left
        · (try dsimp only at hSw); go_simp; try with_reducible rfl
        (try simp only [Act.put, List.getElem_toArray, List.getElem_cons_succ, List.getElem_cons_zero, List.setIfInBounds_toArray, List.set_cons_zero, List.set_cons_succ])
        refine wpAnyH_take (i := 3) (v := ?_) rfl (by kernel_rfl) (by kernel_rfl) (by kernel_rfl) (fun _ _ _ h => h) (Or.inl ⟨by rfl, fun wX hSw => ?_⟩) (by assumption) ?_
        rotate_left
        · (try dsimp only at hSw); go_simp; try with_reducible rfl
        (try simp only [Act.put, List.getElem_toArray, List.getElem_cons_succ, List.getElem_cons_zero, List.setIfInBounds_toArray, List.set_cons_zero, List.set_cons_succ])
        refine wpAnyH_take (i := 4) (v := ?_) rfl (by kernel_rfl) (by kernel_rfl) (by kernel_rfl) (fun _ _ _ h => h) (Or.inl ⟨by rfl, fun wX hSw => ?_⟩) (by assumption) ?_
        rotate_left
        · (try dsimp only at hSw); go_simp; try with_reducible rfl
        (try simp only [Act.put, List.getElem_toArray, List.getElem_cons_succ, List.getElem_cons_zero, List.setIfInBounds_toArray, List.set_cons_zero, List.set_cons_succ])
        refine wpAnyH_take (i := 5) (v := ?_) rfl (by kernel_rfl) (by kernel_rfl) (by kernel_rfl) (fun _ _ _ h => h) (Or.inl ⟨by rfl, fun wX hSw => ?_⟩) (by assumption) ?_
        rotate_left
        · (try dsimp only at hSw); go_simp; try with_reducible rfl
        (try simp only [Act.put, List.getElem_toArray, List.getElem_cons_succ, List.getElem_cons_zero, List.setIfInBounds_toArray, List.set_cons_zero, List.set_cons_succ])
        refine wpAnyH_take (i := 6) (v := ?_) rfl (by kernel_rfl) (by kernel_rfl) (by kernel_rfl) (fun _ _ _ h => h) (Or.inl ⟨by rfl, fun wX hSw => ?_⟩) (by assumption) ?_
        rotate_left
        · (try dsimp only at hSw); go_simp; try with_reducible rfl
        (try simp only [Act.put, List.getElem_toArray, List.getElem_cons_succ, List.getElem_cons_zero, List.setIfInBounds_toArray, List.set_cons_zero, List.set_cons_succ])
        refine wpAnyH_take (i := 7) (v := ?_) rfl (by kernel_rfl) (by kernel_rfl) (by kernel_rfl) (fun _ _ _ h => h) (Or.inl ⟨by rfl, fun wX hSw => ?_⟩) (by assumption) ?_
        rotate_left
        · (try dsimp only at hSw); go_simp; try with_reducible rfl
        (try simp only [Act.put, List.getElem_toArray, List.getElem_cons_succ, List.getElem_cons_zero, List.setIfInBounds_toArray, List.set_cons_zero, List.set_cons_succ])
        refine wpAnyH_take (i := 8) (v := ?_) rfl (by kernel_rfl) (by kernel_rfl) (by kernel_rfl) (fun _ _ _ h => h) (Or.inl ⟨by rfl, fun wX hSw => ?_⟩) (by assumption) ?_
        rotate_left
        · (try dsimp only at hSw); go_simp; try with_reducible rfl
        (try simp only [Act.put, List.getElem_toArray, List.getElem_cons_succ, List.getElem_cons_zero, List.setIfInBounds_toArray, List.set_cons_zero, List.set_cons_succ])
        refine wpAnyH_take (i := 9) (v := ?_) rfl (by kernel_rfl) (by kernel_rfl) (by kernel_rfl) (fun _ _ _ h => h) (Or.inl ⟨by rfl, fun wX hSw => ?_⟩) (by assumption) ?_
        rotate_left
        · (try dsimp only at hSw); go_simp; try with_reducible rfl
        (try simp only [Act.put, List.getElem_toArray, List.getElem_cons_succ, List.getElem_cons_zero, List.setIfInBounds_toArray, List.set_cons_zero, List.set_cons_succ])
        refine wpAnyH_ready (rs := [10]) (by kernel_rfl) (by simp) ?_
        refine AllReadyH.cons rfl (fun K hK => ?_) (AllReadyH.nil)
        go_simp
        (first | (go_at_call 25; (with_reducible refine (rtile_as true goal W H _ _ GG.out.w1 GG.out.w2 GG.out.h1 GG.out.h2 HTL).mono ?_); rintro e z ⟨rfl, hb⟩; have hB2 : Hk (Below (w.heap.size + 1) (w.alloc (.cells #[.int .i64 W, .int .i64 H, .slice a n c, .slice la ln lc, .int .i64 cl, .int .i64 s, .slice (some ⟨tb, toff, none⟩) tn tc] 28)) z) := ⟨by first | exact kw_step HB.out hNW hb | exact kw_step HB.out.drew hNW hb⟩; clear hb; replace HB := hB2; clear hB2; clear hc hf hl hn' hm; obtain ⟨hc, hf, hl, hn', hm⟩ := kw_rules HB.out hNW))
        refine hK.out _ _ ?_ (fun hHeld => ?_)
        · exact kw_S HB.out
        clear hK K
        (try simp only [Act.put, List.getElem_toArray, List.getElem_cons_succ, List.getElem_cons_zero, List.setIfInBounds_toArray, List.set_cons_zero, List.set_cons_succ])
        refine wpAnyH_take (i := 11) (v := ?_) rfl (by kernel_rfl) (by kernel_rfl) (by kernel_rfl) (fun _ _ _ h => h) (Or.inl ⟨by rfl, fun wX hSw => ?_⟩) (by assumption) ?_
        rotate_left
        · (try dsimp only at hSw); go_simp; try with_reducible rfl
        (try simp only [Act.put, List.getElem_toArray, List.getElem_cons_succ, List.getElem_cons_zero, List.setIfInBounds_toArray, List.set_cons_zero, List.set_cons_succ])
        refine wpAnyH_take (i := 12) (v := ?_) rfl (by kernel_rfl) (by kernel_rfl) (by kernel_rfl) (fun _ _ _ h => h) (Or.inl ⟨by rfl, fun wX hSw => ?_⟩) (by assumption) ?_
        rotate_left
        · (try dsimp only at hSw); go_simp; try with_reducible rfl
        (try simp only [Act.put, List.getElem_toArray, List.getElem_cons_succ, List.getElem_cons_zero, List.setIfInBounds_toArray, List.set_cons_zero, List.set_cons_succ])
        refine wpAnyH_done (by kernel_rfl) ?_ _
        as_aux_lemma =>
          go_upto_region 10 with fail
          refine wp_region_held_drew (S := (fun X => (∀ b o, b < w.heap.size + 1 → X.cell? ⟨b, o, none⟩ = ((w.alloc (.cells #[.int .i64 W, .int .i64 H, .slice a n c, .slice la ln lc, .int .i64 cl, .int .i64 s, .slice (some ⟨tb, toff, none⟩) tn tc] 28))).cell? ⟨b, o, none⟩) ∧ Below (w.heap.size + 1) (w.alloc (.cells #[.int .i64 W, .int .i64 H, .slice a n c, .slice la ln lc, .int .i64 cl, .int .i64 s, .slice (some ⟨tb, toff, none⟩) tn tc] 28)) X)) (by kernel_rfl) ?_ (fun hHeld => ?_)
          · exact kw_S (kw_drew HB.out)
          refine wpAnyH_take (i := 0) (v := ?_) rfl (by kernel_rfl) (by kernel_rfl) (by kernel_rfl) (fun _ _ _ h => h) (Or.inl ⟨by rfl, fun wX hSw => ?_⟩) (by assumption) ?_
          rotate_left
          · (try dsimp only at hSw); go_simp; try with_reducible rfl
          (try simp only [Act.put, List.getElem_toArray, List.getElem_cons_succ, List.getElem_cons_zero, List.setIfInBounds_toArray, List.set_cons_zero, List.set_cons_succ])
          refine wpAnyH_take (i := 1) (v := ?_) rfl (by kernel_rfl) (by kernel_rfl) (by kernel_rfl) (fun _ _ _ h => h) (Or.inl ⟨by rfl, fun wX hSw => ?_⟩) (by assumption) ?_
          rotate_left
          · (try dsimp only at hSw); go_simp; try with_reducible rfl
          (try simp only [Act.put, List.getElem_toArray, List.getElem_cons_succ, List.getElem_cons_zero, List.setIfInBounds_toArray, List.set_cons_zero, List.set_cons_succ])
          refine wpAnyH_take (i := 2) (v := ?_) rfl (by kernel_rfl) (by kernel_rfl) (by kernel_rfl) (fun _ _ _ h => h) (Or.inl ⟨by rfl, fun wX hSw => ?_⟩) (by assumption) ?_
          rotate_left
          · (try dsimp only at hSw); go_simp; try with_reducible rfl
          (try simp only [Act.put, List.getElem_toArray, List.getElem_cons_succ, List.getElem_cons_zero, List.setIfInBounds_toArray, List.set_cons_zero, List.set_cons_succ])
          refine wpAnyH_take (i := 3) (v := ?_) rfl (by kernel_rfl) (by kernel_rfl) (by kernel_rfl) (fun _ _ _ h => h) (Or.inl ⟨by rfl, fun wX hSw => ?_⟩) (by assumption) ?_
          rotate_left
          · (try dsimp only at hSw); go_simp; try with_reducible rfl
          (try simp only [Act.put, List.getElem_toArray, List.getElem_cons_succ, List.getElem_cons_zero, List.setIfInBounds_toArray, List.set_cons_zero, List.set_cons_succ])
          refine wpAnyH_take (i := 4) (v := ?_) rfl (by kernel_rfl) (by kernel_rfl) (by kernel_rfl) (fun _ _ _ h => h) (Or.inl ⟨by rfl, fun wX hSw => ?_⟩) (by assumption) ?_
          rotate_left
          · (try dsimp only at hSw); go_simp; try with_reducible rfl
          (try simp only [Act.put, List.getElem_toArray, List.getElem_cons_succ, List.getElem_cons_zero, List.setIfInBounds_toArray, List.set_cons_zero, List.set_cons_succ])
          refine wpAnyH_take (i := 5) (v := ?_) rfl (by kernel_rfl) (by kernel_rfl) (by kernel_rfl) (fun _ _ _ h => h) (Or.inl ⟨by rfl, fun wX hSw => ?_⟩) (by assumption) ?_
          rotate_left
          · (try dsimp only at hSw); go_simp; try with_reducible rfl
          (try simp only [Act.put, List.getElem_toArray, List.getElem_cons_succ, List.getElem_cons_zero, List.setIfInBounds_toArray, List.set_cons_zero, List.set_cons_succ])
          refine wpAnyH_take (i := 6) (v := ?_) rfl (by kernel_rfl) (by kernel_rfl) (by kernel_rfl) (fun _ _ _ h => h) (Or.inl ⟨by rfl, fun wX hSw => ?_⟩) (by assumption) ?_
          rotate_left
          · (try dsimp only at hSw); go_simp; try with_reducible rfl
          (try simp only [Act.put, List.getElem_toArray, List.getElem_cons_succ, List.getElem_cons_zero, List.setIfInBounds_toArray, List.set_cons_zero, List.set_cons_succ])
          refine wpAnyH_take (i := 7) (v := ?_) rfl (by kernel_rfl) (by kernel_rfl) (by kernel_rfl) (fun _ _ _ h => h) (Or.inl ⟨by rfl, fun wX hSw => ?_⟩) (by assumption) ?_
          rotate_left
          · (try dsimp only at hSw); go_simp; try with_reducible rfl
          (try simp only [Act.put, List.getElem_toArray, List.getElem_cons_succ, List.getElem_cons_zero, List.setIfInBounds_toArray, List.set_cons_zero, List.set_cons_succ])
          refine wpAnyH_take (i := 8) (v := ?_) rfl (by kernel_rfl) (by kernel_rfl) (by kernel_rfl) (fun _ _ _ h => h) (Or.inl ⟨by rfl, fun wX hSw => ?_⟩) (by assumption) ?_
          rotate_left
          · (try dsimp only at hSw); go_simp; try with_reducible rfl
          (try simp only [Act.put, List.getElem_toArray, List.getElem_cons_succ, List.getElem_cons_zero, List.setIfInBounds_toArray, List.set_cons_zero, List.set_cons_succ])
          refine wpAnyH_take (i := 9) (v := ?_) rfl (by kernel_rfl) (by kernel_rfl) (by kernel_rfl) (fun _ _ _ h => h) (Or.inl ⟨by rfl, fun wX hSw => ?_⟩) (by assumption) ?_
          rotate_left
          · (try dsimp only at hSw); go_simp; try with_reducible rfl
          (try simp only [Act.put, List.getElem_toArray, List.getElem_cons_succ, List.getElem_cons_zero, List.setIfInBounds_toArray, List.set_cons_zero, List.set_cons_succ])
          refine wpAnyH_take (i := 10) (v := ?_) rfl (by kernel_rfl) (by kernel_rfl) (by kernel_rfl) (fun _ _ _ h => h) (Or.inl ⟨by rfl, fun wX hSw => ?_⟩) (by assumption) ?_
          rotate_left
          · (try dsimp only at hSw); go_simp; try with_reducible rfl
          (try simp only [Act.put, List.getElem_toArray, List.getElem_cons_succ, List.getElem_cons_zero, List.setIfInBounds_toArray, List.set_cons_zero, List.set_cons_succ])
          refine wpAnyH_take (i := 11) (v := ?_) rfl (by kernel_rfl) (by kernel_rfl) (by kernel_rfl) (fun _ _ _ h => h) (Or.inl ⟨by rfl, fun wX hSw => ?_⟩) (by assumption) ?_
          rotate_left
          · (try dsimp only at hSw); go_simp; try with_reducible rfl
          (try simp only [Act.put, List.getElem_toArray, List.getElem_cons_succ, List.getElem_cons_zero, List.setIfInBounds_toArray, List.set_cons_zero, List.set_cons_succ])
          refine wpAnyH_take (i := 12) (v := ?_) rfl (by kernel_rfl) (by kernel_rfl) (by kernel_rfl) (fun _ _ _ h => h) (Or.inl ⟨by rfl, fun wX hSw => ?_⟩) (by assumption) ?_
          rotate_left
          · (try dsimp only at hSw); go_simp; try with_reducible rfl
          (try simp only [Act.put, List.getElem_toArray, List.getElem_cons_succ, List.getElem_cons_zero, List.setIfInBounds_toArray, List.set_cons_zero, List.set_cons_succ])
          refine wpAnyH_ready (rs := [13]) (by kernel_rfl) (by simp) ?_
          refine AllReadyH.cons rfl (fun K hK => ?_) (AllReadyH.nil)
          go_simp
          (first | (go_at_call 26; (with_reducible refine (rmake_any W H a n c xs la ln lc bs cl s goal _ ?_ ?_ hn1 hln1 hc3 hs MM hg).mono ?_); (first | exact (HBY.out _ HB.out).mono (hsz1 HB.out) | exact (HBY.out _ HB.out.drew).mono (hsz1 HB.out.drew)); (first | exact (HBQ.out _ HB.out).mono (hsz1 HB.out) | exact (HBQ.out _ HB.out.drew).mono (hsz1 HB.out.drew)); rintro e z ⟨J1, D1, rfl, hJ, hA, hT, hb⟩; have HA1 := Hk.mk hA; have HT1 := Hk.mk hT; clear hJ hA hT; have hB2 : Hk (Below (w.heap.size + 1) (w.alloc (.cells #[.int .i64 W, .int .i64 H, .slice a n c, .slice la ln lc, .int .i64 cl, .int .i64 s, .slice (some ⟨tb, toff, none⟩) tn tc] 28)) z) := ⟨by first | exact kw_step HB.out hNW hb | exact kw_step HB.out.drew hNW hb⟩; clear hb; replace HB := hB2; clear hB2; clear hc hf hl hn' hm; obtain ⟨hc, hf, hl, hn', hm⟩ := kw_rules HB.out hNW))
          refine hK.out _ _ ?_ (fun hHeld => ?_)
          · exact kw_S HB.out
          clear hK K
          (try simp only [Act.put, List.getElem_toArray, List.getElem_cons_succ, List.getElem_cons_zero, List.setIfInBounds_toArray, List.set_cons_zero, List.set_cons_succ])
          refine wpAnyH_take (i := 14) (v := ?_) rfl (by kernel_rfl) (by kernel_rfl) (by kernel_rfl) (fun _ _ _ h => h) (Or.inl ⟨by rfl, fun wX hSw => ?_⟩) (by assumption) ?_
          rotate_left
          · (try dsimp only at hSw); go_simp; try with_reducible rfl
          (try simp only [Act.put, List.getElem_toArray, List.getElem_cons_succ, List.getElem_cons_zero, List.setIfInBounds_toArray, List.set_cons_zero, List.set_cons_succ])
          refine wpAnyH_done (by kernel_rfl) ?_ _
          as_aux_lemma =>
            go_upto_region 12 with (go_at_call 27; (with_reducible refine (copyg13 W H a n c xs _ ?_ hn2).mono ?_); (exact (HBY.out _ HB.out).mono (hsz1 HB.out)); rintro e z hcg; obtain ⟨a2, c2, rfl, hown, hb⟩ := hcg; have HOW := Hk.mk hown; clear hown; replace HA1 := Hk.mk (HA1.out.later hb); replace HB := Hk.mk (kw_step HB.out hNW hb); clear hb; clear hc hf hl hn' hm; obtain ⟨hc, hf, hl, hn', hm⟩ := kw_rules HB.out hNW)
            have HYC := Hk.mk ((own_byS HOW.out).alloc (Nat.le_refl _) (.cells #[.int .i64 W, .int .i64 H, .slice a2 n c2] 24))
            have HB12 := Hk.mk (kw_al HB.out hNW (.cells #[.int .i64 W, .int .i64 H, .slice a2 n c2] 24))
            have HA12 := Hk.mk (HA1.out.alloc (.cells #[.int .i64 W, .int .i64 H, .slice a2 n c2] 24))
            have gw0 : (z.alloc (.cells #[.int .i64 W, .int .i64 H, .slice a2 n c2] 24)).cell? ⟨z.heap.size, 0, none⟩ = some (.int .i64 W) := (Bk.new z #[.int .i64 W, .int .i64 H, .slice a2 n c2] 24).c 0
            have gw1 : (z.alloc (.cells #[.int .i64 W, .int .i64 H, .slice a2 n c2] 24)).cell? ⟨z.heap.size, 1, none⟩ = some (.int .i64 H) := (Bk.new z #[.int .i64 W, .int .i64 H, .slice a2 n c2] 24).c 1
            have gw2 : (z.alloc (.cells #[.int .i64 W, .int .i64 H, .slice a2 n c2] 24)).cell? ⟨z.heap.size, 2, none⟩ = some (.slice a2 n c2) := (Bk.new z #[.int .i64 W, .int .i64 H, .slice a2 n c2] 24).c 2
            have gl : z.heap.size < (z.alloc (.cells #[.int .i64 W, .int .i64 H, .slice a2 n c2] 24)).heap.size := by simp
            have hwz : w.heap.size + 1 ≤ z.heap.size := kw_size HB.out hNW
            have bwc : ∀ b o, b < w.heap.size + 1 → (z.alloc (.cells #[.int .i64 W, .int .i64 H, .slice a2 n c2] 24)).cell? ⟨b, o, none⟩ = ((w.alloc (.cells #[.int .i64 W, .int .i64 H, .slice a n c, .slice la ln lc, .int .i64 cl, .int .i64 s, .slice (some ⟨tb, toff, none⟩) tn tc] 28))).cell? ⟨b, o, none⟩ := fun b o hb => HB12.out.cell (p := ⟨b, o, none⟩) hb
            have bw3 : (z.alloc (.cells #[.int .i64 W, .int .i64 H, .slice a2 n c2] 24)).cell? ⟨w.heap.size, 3, none⟩ = some (.slice la ln lc) := by rw [bwc _ _ (by omega)]; go_simp
            have bw4 : (z.alloc (.cells #[.int .i64 W, .int .i64 H, .slice a2 n c2] 24)).cell? ⟨w.heap.size, 4, none⟩ = some (.int .i64 cl) := by rw [bwc _ _ (by omega)]; go_simp
            have bw5 : (z.alloc (.cells #[.int .i64 W, .int .i64 H, .slice a2 n c2] 24)).cell? ⟨w.heap.size, 5, none⟩ = some (.int .i64 s) := by rw [bwc _ _ (by omega)]; go_simp
            have bw6 : (z.alloc (.cells #[.int .i64 W, .int .i64 H, .slice a2 n c2] 24)).cell? ⟨w.heap.size, 6, none⟩ = some (.slice (some ⟨tb, toff, none⟩) tn tc) := by rw [bwc _ _ (by omega)]; go_simp
            have bwt : (z.alloc (.cells #[.int .i64 W, .int .i64 H, .slice a2 n c2] 24)).cell? ⟨tb, toff + k, none⟩ = some (.int .i64 goal) := by rw [bwc _ _ htb1]; go_simp
            clear bwc HB HA1
            clear hc hf hl hn' hm
            obtain ⟨W12, hW12⟩ : ∃ W12, z.alloc (.cells #[.int .i64 W, .int .i64 H, .slice a2 n c2] 24) = W12 := ⟨_, rfl⟩
            rw [hW12] at HYC HB12 HA12 gw0 gw1 gw2 gl bw3 bw4 bw5 bw6 bwt ⊢
            clear hW12
            obtain ⟨GB, hGB⟩ : ∃ GB, z.heap.size = GB := ⟨_, rfl⟩
            rw [hGB] at HYC gw0 gw1 gw2 gl hwz ⊢
            clear hGB HOW
            have wl : w.heap.size < W12.heap.size := by omega
            have tl : tb < W12.heap.size := by omega
            have HZ : Hk (Below W12.heap.size W12 W12) := ⟨Below.refl _ _⟩
            have HN12 : Hk (w.heap.size + 1 ≤ W12.heap.size) := ⟨by omega⟩
            refine wp_region_held_drew (S := (fun X => (∀ b o, b < W12.heap.size → X.cell? ⟨b, o, none⟩ = W12.cell? ⟨b, o, none⟩) ∧ Below W12.heap.size W12 X)) (by kernel_rfl) ?_ (fun hHeld => ?_)
            · exact kw_S (kw_drew HZ.out)
            refine wpAnyH_take (i := 0) (v := ?_) rfl (by kernel_rfl) (by kernel_rfl) (by kernel_rfl) (fun _ _ _ h => h) (Or.inl ⟨by rfl, fun wX hSw => ?_⟩) (by assumption) ?_
            rotate_left
            · (try dsimp only at hSw); go_simp; try with_reducible rfl
            (try simp only [Act.put, List.getElem_toArray, List.getElem_cons_succ, List.getElem_cons_zero, List.setIfInBounds_toArray, List.set_cons_zero, List.set_cons_succ])
            refine wpAnyH_take (i := 1) (v := ?_) rfl (by kernel_rfl) (by kernel_rfl) (by kernel_rfl) (fun _ _ _ h => h) (Or.inl ⟨by rfl, fun wX hSw => ?_⟩) (by assumption) ?_
            rotate_left
            · (try dsimp only at hSw); go_simp; try with_reducible rfl
            (try simp only [Act.put, List.getElem_toArray, List.getElem_cons_succ, List.getElem_cons_zero, List.setIfInBounds_toArray, List.set_cons_zero, List.set_cons_succ])
            refine wpAnyH_take (i := 2) (v := ?_) rfl (by kernel_rfl) (by kernel_rfl) (by kernel_rfl) (fun _ _ _ h => h) (Or.inl ⟨by rfl, fun wX hSw => ?_⟩) (by assumption) ?_
            rotate_left
            · (try dsimp only at hSw); go_simp; try with_reducible rfl
            (try simp only [Act.put, List.getElem_toArray, List.getElem_cons_succ, List.getElem_cons_zero, List.setIfInBounds_toArray, List.set_cons_zero, List.set_cons_succ])
            refine wpAnyH_take (i := 3) (v := ?_) rfl (by kernel_rfl) (by kernel_rfl) (by kernel_rfl) (fun _ _ _ h => h) (Or.inl ⟨by rfl, fun wX hSw => ?_⟩) (by assumption) ?_
            rotate_left
            · (try dsimp only at hSw); go_simp; try with_reducible rfl
            (try simp only [Act.put, List.getElem_toArray, List.getElem_cons_succ, List.getElem_cons_zero, List.setIfInBounds_toArray, List.set_cons_zero, List.set_cons_succ])
            refine wpAnyH_take (i := 4) (v := ?_) rfl (by kernel_rfl) (by kernel_rfl) (by kernel_rfl) (fun _ _ _ h => h) (Or.inl ⟨by rfl, fun wX hSw => ?_⟩) (by assumption) ?_
            rotate_left
            · (try dsimp only at hSw); go_simp; try with_reducible rfl
            (try simp only [Act.put, List.getElem_toArray, List.getElem_cons_succ, List.getElem_cons_zero, List.setIfInBounds_toArray, List.set_cons_zero, List.set_cons_succ])
            refine wpAnyH_take (i := 5) (v := ?_) rfl (by kernel_rfl) (by kernel_rfl) (by kernel_rfl) (fun _ _ _ h => h) (Or.inl ⟨by rfl, fun wX hSw => ?_⟩) (by assumption) ?_
            rotate_left
            · (try dsimp only at hSw); go_simp; try with_reducible rfl
            (try simp only [Act.put, List.getElem_toArray, List.getElem_cons_succ, List.getElem_cons_zero, List.setIfInBounds_toArray, List.set_cons_zero, List.set_cons_succ])
            refine wpAnyH_take (i := 6) (v := ?_) rfl (by kernel_rfl) (by kernel_rfl) (by kernel_rfl) (fun _ _ _ h => h) (Or.inl ⟨by rfl, fun wX hSw => ?_⟩) (by assumption) ?_
            rotate_left
            · (try dsimp only at hSw); go_simp; try with_reducible rfl
            (try simp only [Act.put, List.getElem_toArray, List.getElem_cons_succ, List.getElem_cons_zero, List.setIfInBounds_toArray, List.set_cons_zero, List.set_cons_succ])
            refine wpAnyH_take (i := 7) (v := ?_) rfl (by kernel_rfl) (by kernel_rfl) (by kernel_rfl) (fun _ _ _ h => h) (Or.inl ⟨by rfl, fun wX hSw => ?_⟩) (by assumption) ?_
            rotate_left
            · (try dsimp only at hSw); go_simp; try with_reducible rfl
            (try simp only [Act.put, List.getElem_toArray, List.getElem_cons_succ, List.getElem_cons_zero, List.setIfInBounds_toArray, List.set_cons_zero, List.set_cons_succ])
            refine wpAnyH_take (i := 8) (v := ?_) rfl (by kernel_rfl) (by kernel_rfl) (by kernel_rfl) (fun _ _ _ h => h) (Or.inl ⟨by rfl, fun wX hSw => ?_⟩) (by assumption) ?_
            rotate_left
            · (try dsimp only at hSw); go_simp; try with_reducible rfl
            (try simp only [Act.put, List.getElem_toArray, List.getElem_cons_succ, List.getElem_cons_zero, List.setIfInBounds_toArray, List.set_cons_zero, List.set_cons_succ])
            refine wpAnyH_take (i := 9) (v := ?_) rfl (by kernel_rfl) (by kernel_rfl) (by kernel_rfl) (fun _ _ _ h => h) (Or.inl ⟨by rfl, fun wX hSw => ?_⟩) (by assumption) ?_
            rotate_left
            · (try dsimp only at hSw); go_simp; try with_reducible rfl
            (try simp only [Act.put, List.getElem_toArray, List.getElem_cons_succ, List.getElem_cons_zero, List.setIfInBounds_toArray, List.set_cons_zero, List.set_cons_succ])
            refine wpAnyH_take (i := 10) (v := ?_) rfl (by kernel_rfl) (by kernel_rfl) (by kernel_rfl) (fun _ _ _ h => h) (Or.inl ⟨by rfl, fun wX hSw => ?_⟩) (by assumption) ?_
            rotate_left
            · (try dsimp only at hSw); go_simp; try with_reducible rfl
            (try simp only [Act.put, List.getElem_toArray, List.getElem_cons_succ, List.getElem_cons_zero, List.setIfInBounds_toArray, List.set_cons_zero, List.set_cons_succ])
            refine wpAnyH_take (i := 11) (v := ?_) rfl (by kernel_rfl) (by kernel_rfl) (by kernel_rfl) (fun _ _ _ h => h) (Or.inl ⟨by rfl, fun wX hSw => ?_⟩) (by assumption) ?_
            rotate_left
            · (try dsimp only at hSw); go_simp; try with_reducible rfl
            (try simp only [Act.put, List.getElem_toArray, List.getElem_cons_succ, List.getElem_cons_zero, List.setIfInBounds_toArray, List.set_cons_zero, List.set_cons_succ])
            refine wpAnyH_ready (rs := [12]) (by kernel_rfl) (by simp) ?_
            refine AllReadyH.cons rfl (fun K hK => ?_) (AllReadyH.nil)
            go_simp
            (first
                          | (go_at_call 28; (with_reducible refine (make_yes W H a2 n c2 xs la ln lc bs cl s goal _ ?_ ?_ ?_ hn1 hln1 hc3 hs MM hg).mono ?_); (exact HLF.out _ HB12.out.drew); (exact HYC.out.drew.mono (Nat.le_of_lt gl)); (exact (HBQ.out _ HB12.out.drew).mono (Nat.le_of_lt wl)); rintro e z ⟨J2, D2, rfl, hJ, hA, hT, hb⟩; have HJ2 : Hk (w.heap.size + 1 ≤ J2) := ⟨Nat.le_trans HN12.out hJ⟩; have HT2 := Hk.mk hT; have HA2 : Hk (Arr z J2 n 3 (fun t => .int .i64 (D1 t))) := ⟨hA.congr fun t ht => by rw [HT1.out.eq hT ht]⟩; have hzz : Below W12.heap.size W12 z := (Below.refl _ _).drew.trans hb; replace HZ := Hk.mk hzz; have HA1 := Hk.mk (HA12.out.later hzz); have HB : Hk (Below (w.heap.size + 1) (w.alloc (.cells #[.int .i64 W, .int .i64 H, .slice a n c, .slice la ln lc, .int .i64 cl, .int .i64 s, .slice (some ⟨tb, toff, none⟩) tn tc] 28)) z) := ⟨HB12.out.trans (hzz.mono HN12.out)⟩; have HYZ := Hk.mk ((HYC.out.mono (Nat.le_of_lt gl)).below hzz (Nat.le_refl _)); have gz0 := (hzz.cell (p := ⟨GB, 0, none⟩) gl).trans gw0; have gz1 := (hzz.cell (p := ⟨GB, 1, none⟩) gl).trans gw1; have gz2 := (hzz.cell (p := ⟨GB, 2, none⟩) gl).trans gw2; clear hJ hA hT hb hzz))
            refine hK.out _ _ ?_ (fun hHeld => ?_)
            · exact kw_S HZ.out
            clear hK K
            (try simp only [Act.put, List.getElem_toArray, List.getElem_cons_succ, List.getElem_cons_zero, List.setIfInBounds_toArray, List.set_cons_zero, List.set_cons_succ])
            refine wpAnyH_take (i := 13) (v := ?_) rfl (by kernel_rfl) (by kernel_rfl) (by kernel_rfl) (fun _ _ _ h => h) (Or.inl ⟨by rfl, fun wX hSw => ?_⟩) (by assumption) ?_
            rotate_left
            · (try dsimp only at hSw); go_simp; try with_reducible rfl
            (try simp only [Act.put, List.getElem_toArray, List.getElem_cons_succ, List.getElem_cons_zero, List.setIfInBounds_toArray, List.set_cons_zero, List.set_cons_succ])
            refine wpAnyH_take (i := 14) (v := ?_) rfl (by kernel_rfl) (by kernel_rfl) (by kernel_rfl) (fun _ _ _ h => h) (Or.inl ⟨by rfl, fun wX hSw => ?_⟩) (by assumption) ?_
            rotate_left
            · (try dsimp only at hSw); go_simp; try with_reducible rfl
            (try simp only [Act.put, List.getElem_toArray, List.getElem_cons_succ, List.getElem_cons_zero, List.setIfInBounds_toArray, List.set_cons_zero, List.set_cons_succ])
            refine wpAnyH_take (i := 15) (v := ?_) rfl (by kernel_rfl) (by kernel_rfl) (by kernel_rfl) (fun _ _ _ h => h) (Or.inl ⟨by rfl, fun wX hSw => ?_⟩) (by assumption) ?_
            rotate_left
            · (try dsimp only at hSw); go_simp; try with_reducible rfl
            (try simp only [Act.put, List.getElem_toArray, List.getElem_cons_succ, List.getElem_cons_zero, List.setIfInBounds_toArray, List.set_cons_zero, List.set_cons_succ])
            refine wpAnyH_take (i := 16) (v := ?_) rfl (by kernel_rfl) (by kernel_rfl) (by kernel_rfl) (fun _ _ _ h => h) (Or.inl ⟨by rfl, fun wX hSw => ?_⟩) (by assumption) ?_
            rotate_left
            · (try dsimp only at hSw); go_simp; try with_reducible rfl
            (try simp only [Act.put, List.getElem_toArray, List.getElem_cons_succ, List.getElem_cons_zero, List.setIfInBounds_toArray, List.set_cons_zero, List.set_cons_succ])
            refine wpAnyH_take (i := 17) (v := ?_) rfl (by kernel_rfl) (by kernel_rfl) (by kernel_rfl) (fun _ _ _ h => h) (Or.inl ⟨by rfl, fun wX hSw => ?_⟩) (by assumption) ?_
            rotate_left
            · (try dsimp only at hSw); go_simp; try with_reducible rfl
            (try simp only [Act.put, List.getElem_toArray, List.getElem_cons_succ, List.getElem_cons_zero, List.setIfInBounds_toArray, List.set_cons_zero, List.set_cons_succ])
            refine wpAnyH_done (by kernel_rfl) ?_ _
            clear gw0 gw1 gw2 bw3 bw4 bw5 bw6 bwt
            obtain ⟨hc, hf, hl, hn', hm⟩ := kw_rules HB.out hNW
            as_aux_lemma =>
              go_wp2_with (first
                | (go_at_call 21; (with_reducible refine (num13_any _ _).mono ?_); rintro e z ⟨rfl, rfl⟩)
                | (go_at_call 29; (with_reducible refine (eqn_yes _ _ n _ _ (J2 + 1) (J1 + 1) _ _ (HA2.out.nq (Nat.lt_succ_self J2)) (HA1.out.nq (Nat.lt_succ_self J1)) hn2).mono ?_); rintro e z ⟨rfl, mm, rfl⟩; replace HA2 := Hk.mk (HA2.out.drewN mm); replace HYZ := Hk.mk (HYZ.out.drewN mm); replace HB := Hk.mk (below_drewN HB.out mm); clear hc hf hl hn' hm; obtain ⟨hc, hf, hl, hn', hm⟩ := kw_rules HB.out hNW)
                | (go_at_call 30; (with_reducible refine (eqg13 W H W H a2 a n n c2 c xs xs _ ?_ ?_ ⟨⟨rfl, rfl, rfl⟩⟩ hn2).mono ?_); (exact HYZ.out.mono HZ.out.size); (exact (HBY.out _ HB.out).mono (hsz1 HB.out)); rintro e z ⟨rfl, hb⟩; replace HA2 := Hk.mk (HA2.out.later hb); replace HB := Hk.mk (kw_step HB.out hNW hb); clear hb; clear hc hf hl hn' hm; obtain ⟨hc, hf, hl, hn', hm⟩ := kw_rules HB.out hNW)
                | (go_at_call 31; (with_reducible refine (numbers_as n J2 _ _ HA2.out hn2).mono ?_); rintro e z ⟨rfl, hb⟩; replace HB := Hk.mk (HB.out.trans (hb.mono HJ2.out)); clear hb; clear hc hf hl hn' hm; obtain ⟨hc, hf, hl, hn', hm⟩ := kw_rules HB.out hNW))
              exact ⟨⟨k + 1, by go_num, by omega, by omega, HB⟩, by simp [intOf]; omega⟩
      · have HTL : Hk (decide (0 ≤ q ∧ q < W * H) = false) := ⟨decide_eq_false htl⟩
        have hqn : q < 0 ∨ (n : Int) ≤ q := by have := GG.out.nn; omega
        clear htl
        as_aux_lemma =>
          go_upto_region 7 with (go_at_call 18; (with_reducible refine (form13_yes W H a n c xs la ln lc bs cl s (some ⟨tb, toff, none⟩) tn tc _ ?_ ?_ (by omega) (by omega) hc3 hs MM).mono ?_); (exact (HBY.out _ HB.out).mono (hsz1 HB.out)); (exact (HBQ.out _ HB.out).mono (hsz1 HB.out)); rintro e z ⟨rfl, hb⟩; replace HB := Hk.mk (kw_step HB.out hNW hb); clear hb; clear hc hf hl hn' hm; obtain ⟨hc, hf, hl, hn', hm⟩ := kw_rules HB.out hNW)
          refine wp_region_held_drew (S := (fun X => (∀ b o, b < w.heap.size + 1 → X.cell? ⟨b, o, none⟩ = ((w.alloc (.cells #[.int .i64 W, .int .i64 H, .slice a n c, .slice la ln lc, .int .i64 cl, .int .i64 s, .slice (some ⟨tb, toff, none⟩) tn tc] 28))).cell? ⟨b, o, none⟩) ∧ Below (w.heap.size + 1) (w.alloc (.cells #[.int .i64 W, .int .i64 H, .slice a n c, .slice la ln lc, .int .i64 cl, .int .i64 s, .slice (some ⟨tb, toff, none⟩) tn tc] 28)) X)) (by kernel_rfl) ?_ (fun hHeld => ?_)
          · exact kw_S (kw_drew HB.out)
          refine wpAnyH_take (i := 0) (v := ?_) rfl (by kernel_rfl) (by kernel_rfl) (by kernel_rfl) (fun _ _ _ h => h) (Or.inl ⟨by rfl, fun wX hSw => ?_⟩) (by assumption) ?_
          rotate_left
          · (try dsimp only at hSw); go_simp; try with_reducible rfl
          (try simp only [Act.put, List.getElem_toArray, List.getElem_cons_succ, List.getElem_cons_zero, List.setIfInBounds_toArray, List.set_cons_zero, List.set_cons_succ])
          refine wpAnyH_take (i := 1) (v := ?_) rfl (by kernel_rfl) (by kernel_rfl) (by kernel_rfl) (fun _ _ _ h => h) (Or.inl ⟨by rfl, fun wX hSw => ?_⟩) (by assumption) ?_
          rotate_left
          · (try dsimp only at hSw); go_simp; try with_reducible rfl
          (try simp only [Act.put, List.getElem_toArray, List.getElem_cons_succ, List.getElem_cons_zero, List.setIfInBounds_toArray, List.set_cons_zero, List.set_cons_succ])
          refine wpAnyH_take (i := 2) (v := ?_) rfl (by kernel_rfl) (by kernel_rfl) (by kernel_rfl) (fun _ _ _ h => h) (Or.inl ⟨by rfl, fun wX hSw => ?_⟩) (by assumption) ?_
          rotate_left
          · (try dsimp only at hSw); go_simp; try with_reducible rfl
          (try simp only [Act.put, List.getElem_toArray, List.getElem_cons_succ, List.getElem_cons_zero, List.setIfInBounds_toArray, List.set_cons_zero, List.set_cons_succ])
          refine wpAnyH_take (i := 3) (v := ?_) rfl (by kernel_rfl) (by kernel_rfl) (by kernel_rfl) (fun _ _ _ h => h) (Or.inl ⟨by rfl, fun wX hSw => ?_⟩) (by assumption) ?_
          rotate_left
          · (try dsimp only at hSw); go_simp; try with_reducible rfl
          (try simp only [Act.put, List.getElem_toArray, List.getElem_cons_succ, List.getElem_cons_zero, List.setIfInBounds_toArray, List.set_cons_zero, List.set_cons_succ])
          refine wpAnyH_take (i := 4) (v := ?_) rfl (by kernel_rfl) (by kernel_rfl) (by kernel_rfl) (fun _ _ _ h => h) (Or.inl ⟨by rfl, fun wX hSw => ?_⟩) (by assumption) ?_
          rotate_left
          · (try dsimp only at hSw); go_simp; try with_reducible rfl
          (try simp only [Act.put, List.getElem_toArray, List.getElem_cons_succ, List.getElem_cons_zero, List.setIfInBounds_toArray, List.set_cons_zero, List.set_cons_succ])
          refine wpAnyH_take (i := 5) (v := ?_) rfl (by kernel_rfl) (by kernel_rfl) (by kernel_rfl) (fun _ _ _ h => h) (Or.inl ⟨by rfl, fun wX hSw => ?_⟩) (by assumption) ?_
          rotate_left
          · (try dsimp only at hSw); go_simp; try with_reducible rfl
          (try simp only [Act.put, List.getElem_toArray, List.getElem_cons_succ, List.getElem_cons_zero, List.setIfInBounds_toArray, List.set_cons_zero, List.set_cons_succ])
          refine wpAnyH_take (i := 6) (v := ?_) rfl (by kernel_rfl) (by kernel_rfl) (by kernel_rfl) (fun _ _ _ h => h) (Or.inl ⟨by rfl, fun wX hSw => ?_⟩) (by assumption) ?_
          rotate_left
          · (try dsimp only at hSw); go_simp; try with_reducible rfl
          (try simp only [Act.put, List.getElem_toArray, List.getElem_cons_succ, List.getElem_cons_zero, List.setIfInBounds_toArray, List.set_cons_zero, List.set_cons_succ])
          refine wpAnyH_take (i := 7) (v := ?_) rfl (by kernel_rfl) (by kernel_rfl) (by kernel_rfl) (fun _ _ _ h => h) (Or.inl ⟨by rfl, fun wX hSw => ?_⟩) (by assumption) ?_
          rotate_left
          · (try dsimp only at hSw); go_simp; try with_reducible rfl
          (try simp only [Act.put, List.getElem_toArray, List.getElem_cons_succ, List.getElem_cons_zero, List.setIfInBounds_toArray, List.set_cons_zero, List.set_cons_succ])
          refine wpAnyH_take (i := 8) (v := ?_) rfl (by kernel_rfl) (by kernel_rfl) (by kernel_rfl) (fun _ _ _ h => h) (Or.inl ⟨by rfl, fun wX hSw => ?_⟩) (by assumption) ?_
          rotate_left
          · (try dsimp only at hSw); go_simp; try with_reducible rfl
          (try simp only [Act.put, List.getElem_toArray, List.getElem_cons_succ, List.getElem_cons_zero, List.setIfInBounds_toArray, List.set_cons_zero, List.set_cons_succ])
          refine wpAnyH_take (i := 9) (v := ?_) rfl (by kernel_rfl) (by kernel_rfl) (by kernel_rfl) (fun _ _ _ h => h) (Or.inl ⟨by rfl, fun wX hSw => ?_⟩) (by assumption) ?_
          rotate_left
          · (try dsimp only at hSw); go_simp; try with_reducible rfl
          (try simp only [Act.put, List.getElem_toArray, List.getElem_cons_succ, List.getElem_cons_zero, List.setIfInBounds_toArray, List.set_cons_zero, List.set_cons_succ])
          refine wpAnyH_ready (rs := [10]) (by kernel_rfl) (by simp) ?_
          refine AllReadyH.cons rfl (fun K hK => ?_) (AllReadyH.nil)
          go_simp
          (first | (go_at_call 25; (with_reducible refine (rtile_as false q W H _ _ GG.out.w1 GG.out.w2 GG.out.h1 GG.out.h2 HTL).mono ?_); rintro e z ⟨rfl, hb⟩; have hB2 : Hk (Below (w.heap.size + 1) (w.alloc (.cells #[.int .i64 W, .int .i64 H, .slice a n c, .slice la ln lc, .int .i64 cl, .int .i64 s, .slice (some ⟨tb, toff, none⟩) tn tc] 28)) z) := ⟨by first | exact kw_step HB.out hNW hb | exact kw_step HB.out.drew hNW hb⟩; clear hb; replace HB := hB2; clear hB2; clear hc hf hl hn' hm; obtain ⟨hc, hf, hl, hn', hm⟩ := kw_rules HB.out hNW))
          refine hK.out _ _ ?_ (fun hHeld => ?_)
          · exact kw_S HB.out
          clear hK K
          (try simp only [Act.put, List.getElem_toArray, List.getElem_cons_succ, List.getElem_cons_zero, List.setIfInBounds_toArray, List.set_cons_zero, List.set_cons_succ])
          refine wpAnyH_take (i := 11) (v := ?_) rfl (by kernel_rfl) (by kernel_rfl) (by kernel_rfl) (fun _ _ _ h => h) (Or.inl ⟨by rfl, fun wX hSw => ?_⟩) (by assumption) ?_
          rotate_left
          · (try dsimp only at hSw); go_simp; try with_reducible rfl
          (try simp only [Act.put, List.getElem_toArray, List.getElem_cons_succ, List.getElem_cons_zero, List.setIfInBounds_toArray, List.set_cons_zero, List.set_cons_succ])
          refine wpAnyH_take (i := 12) (v := ?_) rfl (by kernel_rfl) (by kernel_rfl) (by kernel_rfl) (fun _ _ _ h => h) (Or.inl ⟨by rfl, fun wX hSw => ?_⟩) (by assumption) ?_
          rotate_left
          · (try dsimp only at hSw); go_simp; try with_reducible rfl
          (try simp only [Act.put, List.getElem_toArray, List.getElem_cons_succ, List.getElem_cons_zero, List.setIfInBounds_toArray, List.set_cons_zero, List.set_cons_succ])
          refine wpAnyH_done (by kernel_rfl) ?_ _
          as_aux_lemma =>
            go_upto_region 12 with (go_at_call 27; (with_reducible refine (copyg13 W H a n c xs _ ?_ hn2).mono ?_); (exact (HBY.out _ HB.out).mono (hsz1 HB.out)); rintro e z hcg; obtain ⟨a2, c2, rfl, hown, hb⟩ := hcg; have HOW := Hk.mk hown; clear hown;  replace HB := Hk.mk (kw_step HB.out hNW hb); clear hb; clear hc hf hl hn' hm; obtain ⟨hc, hf, hl, hn', hm⟩ := kw_rules HB.out hNW)
            have HYC := Hk.mk ((own_byS HOW.out).alloc (Nat.le_refl _) (.cells #[.int .i64 W, .int .i64 H, .slice a2 n c2] 24))
            have HB12 := Hk.mk (kw_al HB.out hNW (.cells #[.int .i64 W, .int .i64 H, .slice a2 n c2] 24))
            have gw0 : (z.alloc (.cells #[.int .i64 W, .int .i64 H, .slice a2 n c2] 24)).cell? ⟨z.heap.size, 0, none⟩ = some (.int .i64 W) := (Bk.new z #[.int .i64 W, .int .i64 H, .slice a2 n c2] 24).c 0
            have gw1 : (z.alloc (.cells #[.int .i64 W, .int .i64 H, .slice a2 n c2] 24)).cell? ⟨z.heap.size, 1, none⟩ = some (.int .i64 H) := (Bk.new z #[.int .i64 W, .int .i64 H, .slice a2 n c2] 24).c 1
            have gw2 : (z.alloc (.cells #[.int .i64 W, .int .i64 H, .slice a2 n c2] 24)).cell? ⟨z.heap.size, 2, none⟩ = some (.slice a2 n c2) := (Bk.new z #[.int .i64 W, .int .i64 H, .slice a2 n c2] 24).c 2
            have gl : z.heap.size < (z.alloc (.cells #[.int .i64 W, .int .i64 H, .slice a2 n c2] 24)).heap.size := by simp
            have hwz : w.heap.size + 1 ≤ z.heap.size := kw_size HB.out hNW
            have bwc : ∀ b o, b < w.heap.size + 1 → (z.alloc (.cells #[.int .i64 W, .int .i64 H, .slice a2 n c2] 24)).cell? ⟨b, o, none⟩ = ((w.alloc (.cells #[.int .i64 W, .int .i64 H, .slice a n c, .slice la ln lc, .int .i64 cl, .int .i64 s, .slice (some ⟨tb, toff, none⟩) tn tc] 28))).cell? ⟨b, o, none⟩ := fun b o hb => HB12.out.cell (p := ⟨b, o, none⟩) hb
            have bw3 : (z.alloc (.cells #[.int .i64 W, .int .i64 H, .slice a2 n c2] 24)).cell? ⟨w.heap.size, 3, none⟩ = some (.slice la ln lc) := by rw [bwc _ _ (by omega)]; go_simp
            have bw4 : (z.alloc (.cells #[.int .i64 W, .int .i64 H, .slice a2 n c2] 24)).cell? ⟨w.heap.size, 4, none⟩ = some (.int .i64 cl) := by rw [bwc _ _ (by omega)]; go_simp
            have bw5 : (z.alloc (.cells #[.int .i64 W, .int .i64 H, .slice a2 n c2] 24)).cell? ⟨w.heap.size, 5, none⟩ = some (.int .i64 s) := by rw [bwc _ _ (by omega)]; go_simp
            have bw6 : (z.alloc (.cells #[.int .i64 W, .int .i64 H, .slice a2 n c2] 24)).cell? ⟨w.heap.size, 6, none⟩ = some (.slice (some ⟨tb, toff, none⟩) tn tc) := by rw [bwc _ _ (by omega)]; go_simp
            have bwt : (z.alloc (.cells #[.int .i64 W, .int .i64 H, .slice a2 n c2] 24)).cell? ⟨tb, toff + k, none⟩ = some (.int .i64 q) := by rw [bwc _ _ htb1]; go_simp
            clear bwc HB
            clear hc hf hl hn' hm
            obtain ⟨W12, hW12⟩ : ∃ W12, z.alloc (.cells #[.int .i64 W, .int .i64 H, .slice a2 n c2] 24) = W12 := ⟨_, rfl⟩
            rw [hW12] at HYC HB12 gw0 gw1 gw2 gl bw3 bw4 bw5 bw6 bwt ⊢
            clear hW12
            obtain ⟨GB, hGB⟩ : ∃ GB, z.heap.size = GB := ⟨_, rfl⟩
            rw [hGB] at HYC gw0 gw1 gw2 gl hwz ⊢
            clear hGB HOW
            have wl : w.heap.size < W12.heap.size := by omega
            have tl : tb < W12.heap.size := by omega
            have HZ : Hk (Below W12.heap.size W12 W12) := ⟨Below.refl _ _⟩
            have HN12 : Hk (w.heap.size + 1 ≤ W12.heap.size) := ⟨by omega⟩
            refine wp_region_held_drew (S := (fun X => (∀ b o, b < W12.heap.size → X.cell? ⟨b, o, none⟩ = W12.cell? ⟨b, o, none⟩) ∧ Below W12.heap.size W12 X)) (by kernel_rfl) ?_ (fun hHeld => ?_)
            · exact kw_S (kw_drew HZ.out)
            refine wpAnyH_take (i := 0) (v := ?_) rfl (by kernel_rfl) (by kernel_rfl) (by kernel_rfl) (fun _ _ _ h => h) (Or.inl ⟨by rfl, fun wX hSw => ?_⟩) (by assumption) ?_
            rotate_left
            · (try dsimp only at hSw); go_simp; try with_reducible rfl
            (try simp only [Act.put, List.getElem_toArray, List.getElem_cons_succ, List.getElem_cons_zero, List.setIfInBounds_toArray, List.set_cons_zero, List.set_cons_succ])
            refine wpAnyH_take (i := 1) (v := ?_) rfl (by kernel_rfl) (by kernel_rfl) (by kernel_rfl) (fun _ _ _ h => h) (Or.inl ⟨by rfl, fun wX hSw => ?_⟩) (by assumption) ?_
            rotate_left
            · (try dsimp only at hSw); go_simp; try with_reducible rfl
            (try simp only [Act.put, List.getElem_toArray, List.getElem_cons_succ, List.getElem_cons_zero, List.setIfInBounds_toArray, List.set_cons_zero, List.set_cons_succ])
            refine wpAnyH_take (i := 2) (v := ?_) rfl (by kernel_rfl) (by kernel_rfl) (by kernel_rfl) (fun _ _ _ h => h) (Or.inl ⟨by rfl, fun wX hSw => ?_⟩) (by assumption) ?_
            rotate_left
            · (try dsimp only at hSw); go_simp; try with_reducible rfl
            (try simp only [Act.put, List.getElem_toArray, List.getElem_cons_succ, List.getElem_cons_zero, List.setIfInBounds_toArray, List.set_cons_zero, List.set_cons_succ])
            refine wpAnyH_take (i := 3) (v := ?_) rfl (by kernel_rfl) (by kernel_rfl) (by kernel_rfl) (fun _ _ _ h => h) (Or.inl ⟨by rfl, fun wX hSw => ?_⟩) (by assumption) ?_
            rotate_left
            · (try dsimp only at hSw); go_simp; try with_reducible rfl
            (try simp only [Act.put, List.getElem_toArray, List.getElem_cons_succ, List.getElem_cons_zero, List.setIfInBounds_toArray, List.set_cons_zero, List.set_cons_succ])
            refine wpAnyH_take (i := 4) (v := ?_) rfl (by kernel_rfl) (by kernel_rfl) (by kernel_rfl) (fun _ _ _ h => h) (Or.inl ⟨by rfl, fun wX hSw => ?_⟩) (by assumption) ?_
            rotate_left
            · (try dsimp only at hSw); go_simp; try with_reducible rfl
            (try simp only [Act.put, List.getElem_toArray, List.getElem_cons_succ, List.getElem_cons_zero, List.setIfInBounds_toArray, List.set_cons_zero, List.set_cons_succ])
            refine wpAnyH_take (i := 5) (v := ?_) rfl (by kernel_rfl) (by kernel_rfl) (by kernel_rfl) (fun _ _ _ h => h) (Or.inl ⟨by rfl, fun wX hSw => ?_⟩) (by assumption) ?_
            rotate_left
            · (try dsimp only at hSw); go_simp; try with_reducible rfl
            (try simp only [Act.put, List.getElem_toArray, List.getElem_cons_succ, List.getElem_cons_zero, List.setIfInBounds_toArray, List.set_cons_zero, List.set_cons_succ])
            refine wpAnyH_take (i := 6) (v := ?_) rfl (by kernel_rfl) (by kernel_rfl) (by kernel_rfl) (fun _ _ _ h => h) (Or.inl ⟨by rfl, fun wX hSw => ?_⟩) (by assumption) ?_
            rotate_left
            · (try dsimp only at hSw); go_simp; try with_reducible rfl
            (try simp only [Act.put, List.getElem_toArray, List.getElem_cons_succ, List.getElem_cons_zero, List.setIfInBounds_toArray, List.set_cons_zero, List.set_cons_succ])
            refine wpAnyH_take (i := 7) (v := ?_) rfl (by kernel_rfl) (by kernel_rfl) (by kernel_rfl) (fun _ _ _ h => h) (Or.inl ⟨by rfl, fun wX hSw => ?_⟩) (by assumption) ?_
            rotate_left
            · (try dsimp only at hSw); go_simp; try with_reducible rfl
            (try simp only [Act.put, List.getElem_toArray, List.getElem_cons_succ, List.getElem_cons_zero, List.setIfInBounds_toArray, List.set_cons_zero, List.set_cons_succ])
            refine wpAnyH_take (i := 8) (v := ?_) rfl (by kernel_rfl) (by kernel_rfl) (by kernel_rfl) (fun _ _ _ h => h) (Or.inl ⟨by rfl, fun wX hSw => ?_⟩) (by assumption) ?_
            rotate_left
            · (try dsimp only at hSw); go_simp; try with_reducible rfl
            (try simp only [Act.put, List.getElem_toArray, List.getElem_cons_succ, List.getElem_cons_zero, List.setIfInBounds_toArray, List.set_cons_zero, List.set_cons_succ])
            refine wpAnyH_take (i := 9) (v := ?_) rfl (by kernel_rfl) (by kernel_rfl) (by kernel_rfl) (fun _ _ _ h => h) (Or.inl ⟨by rfl, fun wX hSw => ?_⟩) (by assumption) ?_
            rotate_left
            · (try dsimp only at hSw); go_simp; try with_reducible rfl
            (try simp only [Act.put, List.getElem_toArray, List.getElem_cons_succ, List.getElem_cons_zero, List.setIfInBounds_toArray, List.set_cons_zero, List.set_cons_succ])
            refine wpAnyH_take (i := 10) (v := ?_) rfl (by kernel_rfl) (by kernel_rfl) (by kernel_rfl) (fun _ _ _ h => h) (Or.inl ⟨by rfl, fun wX hSw => ?_⟩) (by assumption) ?_
            rotate_left
            · (try dsimp only at hSw); go_simp; try with_reducible rfl
            (try simp only [Act.put, List.getElem_toArray, List.getElem_cons_succ, List.getElem_cons_zero, List.setIfInBounds_toArray, List.set_cons_zero, List.set_cons_succ])
            refine wpAnyH_take (i := 11) (v := ?_) rfl (by kernel_rfl) (by kernel_rfl) (by kernel_rfl) (fun _ _ _ h => h) (Or.inl ⟨by rfl, fun wX hSw => ?_⟩) (by assumption) ?_
            rotate_left
            · (try dsimp only at hSw); go_simp; try with_reducible rfl
            (try simp only [Act.put, List.getElem_toArray, List.getElem_cons_succ, List.getElem_cons_zero, List.setIfInBounds_toArray, List.set_cons_zero, List.set_cons_succ])
            refine wpAnyH_ready (rs := [12]) (by kernel_rfl) (by simp) ?_
            refine AllReadyH.cons rfl (fun K hK => ?_) (AllReadyH.nil)
            go_simp
            (first
                          | (go_at_call 28; (with_reducible refine (make_none W H a2 n c2 xs la ln lc bs cl s q _ ?_ ?_ ?_ hn1 hln1 hc3 hs MM hqn).mono ?_); (exact HLF.out _ HB12.out.drew); (exact HYC.out.drew.mono (Nat.le_of_lt gl)); (exact (HBQ.out _ HB12.out.drew).mono (Nat.le_of_lt wl)); rintro e z ⟨rfl, hb⟩; have hzz : Below W12.heap.size W12 z := (Below.refl _ _).drew.trans hb; replace HZ := Hk.mk hzz; have HB : Hk (Below (w.heap.size + 1) (w.alloc (.cells #[.int .i64 W, .int .i64 H, .slice a n c, .slice la ln lc, .int .i64 cl, .int .i64 s, .slice (some ⟨tb, toff, none⟩) tn tc] 28)) z) := ⟨HB12.out.trans (hzz.mono HN12.out)⟩; have HYZ := Hk.mk ((HYC.out.mono (Nat.le_of_lt gl)).below hzz (Nat.le_refl _)); have gz0 := (hzz.cell (p := ⟨GB, 0, none⟩) gl).trans gw0; have gz1 := (hzz.cell (p := ⟨GB, 1, none⟩) gl).trans gw1; have gz2 := (hzz.cell (p := ⟨GB, 2, none⟩) gl).trans gw2; clear hb hzz))
            refine hK.out _ _ ?_ (fun hHeld => ?_)
            · exact kw_S HZ.out
            clear hK K
            (try simp only [Act.put, List.getElem_toArray, List.getElem_cons_succ, List.getElem_cons_zero, List.setIfInBounds_toArray, List.set_cons_zero, List.set_cons_succ])
            refine wpAnyH_take (i := 13) (v := ?_) rfl (by kernel_rfl) (by kernel_rfl) (by kernel_rfl) (fun _ _ _ h => h) (Or.inl ⟨by rfl, fun wX hSw => ?_⟩) (by assumption) ?_
            rotate_left
            · (try dsimp only at hSw); go_simp; try with_reducible rfl
            (try simp only [Act.put, List.getElem_toArray, List.getElem_cons_succ, List.getElem_cons_zero, List.setIfInBounds_toArray, List.set_cons_zero, List.set_cons_succ])
            refine wpAnyH_take (i := 14) (v := ?_) rfl (by kernel_rfl) (by kernel_rfl) (by kernel_rfl) (fun _ _ _ h => h) (Or.inl ⟨by rfl, fun wX hSw => ?_⟩) (by assumption) ?_
            rotate_left
            · (try dsimp only at hSw); go_simp; try with_reducible rfl
            (try simp only [Act.put, List.getElem_toArray, List.getElem_cons_succ, List.getElem_cons_zero, List.setIfInBounds_toArray, List.set_cons_zero, List.set_cons_succ])
            refine wpAnyH_take (i := 15) (v := ?_) rfl (by kernel_rfl) (by kernel_rfl) (by kernel_rfl) (fun _ _ _ h => h) (Or.inl ⟨by rfl, fun wX hSw => ?_⟩) (by assumption) ?_
            rotate_left
            · (try dsimp only at hSw); go_simp; try with_reducible rfl
            (try simp only [Act.put, List.getElem_toArray, List.getElem_cons_succ, List.getElem_cons_zero, List.setIfInBounds_toArray, List.set_cons_zero, List.set_cons_succ])
            refine wpAnyH_take (i := 16) (v := ?_) rfl (by kernel_rfl) (by kernel_rfl) (by kernel_rfl) (fun _ _ _ h => h) (Or.inl ⟨by rfl, fun wX hSw => ?_⟩) (by assumption) ?_
            rotate_left
            · (try dsimp only at hSw); go_simp; try with_reducible rfl
            (try simp only [Act.put, List.getElem_toArray, List.getElem_cons_succ, List.getElem_cons_zero, List.setIfInBounds_toArray, List.set_cons_zero, List.set_cons_succ])
            refine wpAnyH_take (i := 17) (v := ?_) rfl (by kernel_rfl) (by kernel_rfl) (by kernel_rfl) (fun _ _ _ h => h) (Or.inl ⟨by rfl, fun wX hSw => ?_⟩) (by assumption) ?_
            rotate_left
            · (try dsimp only at hSw); go_simp; try with_reducible rfl
            (try simp only [Act.put, List.getElem_toArray, List.getElem_cons_succ, List.getElem_cons_zero, List.setIfInBounds_toArray, List.set_cons_zero, List.set_cons_succ])
            refine wpAnyH_done (by kernel_rfl) ?_ _
            clear gw0 gw1 gw2 bw3 bw4 bw5 bw6 bwt
            obtain ⟨hc, hf, hl, hn', hm⟩ := kw_rules HB.out hNW
            as_aux_lemma =>
              go_wp2_with (first
                | (go_at_call 21; (with_reducible refine (num13_any _ _).mono ?_); rintro e z ⟨rfl, rfl⟩)
                | (go_at_call 29; (with_reducible refine (eqn_yes _ _ 0 _ _ 0 0 [] _ (Nq.nil _ _ _) (Nq.nil _ _ _) (by omega)).mono ?_); rintro e z ⟨rfl, mm, rfl⟩; replace HYZ := Hk.mk (HYZ.out.drewN mm); replace HB := Hk.mk (below_drewN HB.out mm); clear hc hf hl hn' hm; obtain ⟨hc, hf, hl, hn', hm⟩ := kw_rules HB.out hNW)
                | (go_at_call 30; (with_reducible refine (eqg13 W H W H a2 a n n c2 c xs xs _ ?_ ?_ ⟨⟨rfl, rfl, rfl⟩⟩ hn2).mono ?_); (exact HYZ.out.mono HZ.out.size); (exact (HBY.out _ HB.out).mono (hsz1 HB.out)); rintro e z ⟨rfl, hb⟩; replace HB := Hk.mk (kw_step HB.out hNW hb); clear hb; clear hc hf hl hn' hm; obtain ⟨hc, hf, hl, hn', hm⟩ := kw_rules HB.out hNW)
                | (go_at_call 31; (with_reducible refine (numbers0 _ _ _ (Below.refl _ _) (Nat.le_refl _)).mono ?_); rintro e z ⟨rfl, hb⟩; replace HB := Hk.mk (kw_step HB.out hNW hb); clear hb; clear hc hf hl hn' hm; obtain ⟨hc, hf, hl, hn', hm⟩ := kw_rules HB.out hNW))
              exact ⟨⟨k + 1, by go_num, by omega, by omega, HB⟩, by simp [intOf]; omega⟩
    · have hor : (¬ k < tn) ∨ (k < tn ∧ ¬ k < 6) := by omega
      rcases hor with h1 | ⟨h1, h3⟩
      · have dk : decide ((k : Int) < (tn : Int)) = false := by simp; omega
        as_aux_lemma =>
          go_wp2_with (go_at_call 24; (with_reducible refine (wakes13_any _ (HLF.out _ HB.out)).mono ?_); rintro e z ⟨rfl, hb⟩; replace HB := Hk.mk (kw_step HB.out hNW hb); clear hb; clear hc hf hl hn' hm; obtain ⟨hc, hf, hl, hn', hm⟩ := kw_rules HB.out hNW)
          go_ret
          exact ⟨rfl, HTR.out _ HB.out⟩
      · have dk : decide ((k : Int) < (tn : Int)) = true := by simpa using h1
        have dk3 : decide ((k : Int) < 6) = false := by simp; omega
        as_aux_lemma =>
          go_wp2_with (go_at_call 24; (with_reducible refine (wakes13_any _ (HLF.out _ HB.out)).mono ?_); rintro e z ⟨rfl, hb⟩; replace HB := Hk.mk (kw_step HB.out hNW hb); clear hb; clear hc hf hl hn' hm; obtain ⟨hc, hf, hl, hn', hm⟩ := kw_rules HB.out hNW)
          go_ret
          exact ⟨rfl, HTR.out _ HB.out⟩
set_option maxRecDepth 1000000 in
set_option maxHeartbeats 3200000 in
theorem fieldMakes_bad (W H : Int) (a : Option Addr) (n c : Nat) (xs : List Int) (la : Option Addr) (ln lc : Nat) (bs : List Bd) (x sz : Int) (tb toff : Nat) (tn tc : Nat) (ts : List Int) (w : World) (hL : LF w) (h : By w w.heap.size a n xs) (hb0 : Bq w w.heap.size la ln bs) (hq : Nq w w.heap.size ((some ⟨tb, toff, none⟩)) tn ts) (hn : n ≤ 700) (hln : ln ≤ 30) (htn : tn ≤ 30) (hlc : ln ≤ lc) (HV : Hk (hv13 n ln tn = false)) (MM : Hk (¬ (MOk W H n xs bs ∧ (0 ≤ x ∧ x ≤ 2) ∧ 0 ≤ sz ∧ sz ≤ 3))) :
    Calls Tryd.prog 4 #[.agg #[.int .i64 W, .int .i64 H, .slice a n c, .slice la ln lc, .int .i64 x, .int .i64 sz, .slice (some ⟨tb, toff, none⟩) tn tc]] w fun e w' => e = .returned (.bool true) ∧ Below w.heap.size w w' := by
  have HWB : Hk (Below w.heap.size w (w.alloc (.cells #[.int .i64 W, .int .i64 H, .slice a n c, .slice la ln lc, .int .i64 x, .int .i64 sz, .slice (some ⟨tb, toff, none⟩) tn tc] 28))) := ⟨(Below.refl _ _).alloc (Nat.le_refl _) _⟩
  have hNW : w.heap.size + 1 ≤ (w.alloc (.cells #[.int .i64 W, .int .i64 H, .slice a n c, .slice la ln lc, .int .i64 x, .int .i64 sz, .slice (some ⟨tb, toff, none⟩) tn tc] 28)).heap.size := by simp
  have HB : Hk (Below (w.heap.size + 1) (w.alloc (.cells #[.int .i64 W, .int .i64 H, .slice a n c, .slice la ln lc, .int .i64 x, .int .i64 sz, .slice (some ⟨tb, toff, none⟩) tn tc] 28)) (w.alloc (.cells #[.int .i64 W, .int .i64 H, .slice a n c, .slice la ln lc, .int .i64 x, .int .i64 sz, .slice (some ⟨tb, toff, none⟩) tn tc] 28))) := ⟨Below.refl _ _⟩
  have HTR : Hk (∀ X, Below (w.heap.size + 1) (w.alloc (.cells #[.int .i64 W, .int .i64 H, .slice a n c, .slice la ln lc, .int .i64 x, .int .i64 sz, .slice (some ⟨tb, toff, none⟩) tn tc] 28)) X → Below w.heap.size w X) := ⟨fun X hX => HWB.out.trans (hX.mono (by omega))⟩
  have HBY := Hk.mk (fun (X : World) (hX : Below (w.heap.size + 1) (w.alloc (.cells #[.int .i64 W, .int .i64 H, .slice a n c, .slice la ln lc, .int .i64 x, .int .i64 sz, .slice (some ⟨tb, toff, none⟩) tn tc] 28)) X) => h.below (HTR.out X hX) (Nat.le_refl _))
  have HBQ := Hk.mk (fun (X : World) (hX : Below (w.heap.size + 1) (w.alloc (.cells #[.int .i64 W, .int .i64 H, .slice a n c, .slice la ln lc, .int .i64 x, .int .i64 sz, .slice (some ⟨tb, toff, none⟩) tn tc] 28)) X) => hb0.below (HTR.out X hX) (Nat.le_refl _))
  have HNQT := Hk.mk (fun (X : World) (hX : Below (w.heap.size + 1) (w.alloc (.cells #[.int .i64 W, .int .i64 H, .slice a n c, .slice la ln lc, .int .i64 x, .int .i64 sz, .slice (some ⟨tb, toff, none⟩) tn tc] 28)) X) => hq.below (HTR.out X hX) (Nat.le_refl _))
  have HLF := Hk.mk (fun (X : World) (hX : Below (w.heap.size + 1) (w.alloc (.cells #[.int .i64 W, .int .i64 H, .slice a n c, .slice la ln lc, .int .i64 x, .int .i64 sz, .slice (some ⟨tb, toff, none⟩) tn tc] 28)) X) => hL.below (HTR.out X hX) (Nat.le_refl _))
  clear h hb0 hL
  obtain ⟨hc, hf, hl, hn', hm⟩ := kw_rules HB.out hNW
  have hn1 : n ≤ 140737488355328 := by omega
  have hn2 : n ≤ 1099511627776 := by omega
  have hln1 : ln ≤ 1099511627776 := by omega
  go_enter Tryd.func4, Tryd.ntmps4
  go_wp2_with (go_at_call 17; (with_reducible refine (heavy13_as false W H x sz a la (some ⟨tb, toff, none⟩) n c ln lc tn tc _ (by omega) (by omega) (by omega) HV).mono ?_); rintro e z ⟨rfl, hb⟩; replace HB := Hk.mk (kw_step HB.out hNW hb); clear hb; clear hc hf hl hn' hm; obtain ⟨hc, hf, hl, hn', hm⟩ := kw_rules HB.out hNW)
  have HB := HB
  clear hc hf hl hn' hm
  have HNT := Hk.mk hq
  go_loopw [3] (fun i wr => ∃ k : Nat, i = .int .i64 k ∧ k ≤ 6 ∧ k ≤ tn ∧ Hk (Below (w.heap.size + 1) (w.alloc (.cells #[.int .i64 W, .int .i64 H, .slice a n c, .slice la ln lc, .int .i64 x, .int .i64 sz, .slice (some ⟨tb, toff, none⟩) tn tc] 28)) wr)) (fun i _ => 6 - (intOf i).toNat)
  case atStart => exact ⟨0, rfl, by omega, by omega, HB⟩
  case round =>
    clear HB
    obtain ⟨k, rfl, hk3, hkt, HB⟩ := hrel
    obtain ⟨hc, hf, hl, hn', hm⟩ := kw_rules HB.out hNW
    by_cases hlt : k < tn ∧ k < 6
    · obtain ⟨hlt, hl3⟩ := hlt
      have k0 : (0 : Int) ≤ (k : Int) := by omega
      have k1 : (k : Int) < (tn : Int) := by omega
      have k2 : (k : Int) < 6 := by omega
      have dk : decide ((k : Int) < (tn : Int)) = true := by simpa using hlt
      have dk3 : decide ((k : Int) < 6) = true := by simp; omega
      obtain ⟨tb', toff', hta, htb, hcell⟩ := HNT.out.rd (by omega)
      injection hta with hta
      injection hta with hta1 hta2
      subst hta1 hta2
      have tc0 := hcell k hlt
      have htb1 : tb < w.heap.size + 1 := by omega
      clear hcell
      obtain ⟨q, hqe⟩ : ∃ q, ts.getD k 0 = q := ⟨_, rfl⟩
      rw [hqe] at tc0
      clear hqe
      as_aux_lemma =>
        go_upto_region 7 with (go_at_call 18; (with_reducible refine (form13_no W H a n c xs la ln lc bs x sz (some ⟨tb, toff, none⟩) tn tc _ ?_ ?_ (by omega) (by omega) MM).mono ?_); (exact (HBY.out _ HB.out).mono (hsz1 HB.out)); (exact (HBQ.out _ HB.out).mono (hsz1 HB.out)); rintro e z ⟨rfl, hb⟩; replace HB := Hk.mk (kw_step HB.out hNW hb); clear hb; clear hc hf hl hn' hm; obtain ⟨hc, hf, hl, hn', hm⟩ := kw_rules HB.out hNW)
        go_region
        have HB := Hk.mk HB.out.drew
        clear hc hf hl hn' hm
        obtain ⟨hc, hf, hl, hn', hm⟩ := kw_rules HB.out hNW
        as_aux_lemma =>
            go_upto_region 12 with (go_at_call 27; (with_reducible refine (copyg13 W H a n c xs _ ?_ hn2).mono ?_); (exact (HBY.out _ HB.out).mono (hsz1 HB.out)); rintro e z hcg; obtain ⟨a2, c2, rfl, hown, hb⟩ := hcg; have HOW := Hk.mk hown; clear hown;  replace HB := Hk.mk (kw_step HB.out hNW hb); clear hb; clear hc hf hl hn' hm; obtain ⟨hc, hf, hl, hn', hm⟩ := kw_rules HB.out hNW)
            have HYC := Hk.mk ((own_byS HOW.out).alloc (Nat.le_refl _) (.cells #[.int .i64 W, .int .i64 H, .slice a2 n c2] 24))
            have HB12 := Hk.mk (kw_al HB.out hNW (.cells #[.int .i64 W, .int .i64 H, .slice a2 n c2] 24))
            have gw0 : (z.alloc (.cells #[.int .i64 W, .int .i64 H, .slice a2 n c2] 24)).cell? ⟨z.heap.size, 0, none⟩ = some (.int .i64 W) := (Bk.new z #[.int .i64 W, .int .i64 H, .slice a2 n c2] 24).c 0
            have gw1 : (z.alloc (.cells #[.int .i64 W, .int .i64 H, .slice a2 n c2] 24)).cell? ⟨z.heap.size, 1, none⟩ = some (.int .i64 H) := (Bk.new z #[.int .i64 W, .int .i64 H, .slice a2 n c2] 24).c 1
            have gw2 : (z.alloc (.cells #[.int .i64 W, .int .i64 H, .slice a2 n c2] 24)).cell? ⟨z.heap.size, 2, none⟩ = some (.slice a2 n c2) := (Bk.new z #[.int .i64 W, .int .i64 H, .slice a2 n c2] 24).c 2
            have gl : z.heap.size < (z.alloc (.cells #[.int .i64 W, .int .i64 H, .slice a2 n c2] 24)).heap.size := by simp
            have hwz : w.heap.size + 1 ≤ z.heap.size := kw_size HB.out hNW
            have bwc : ∀ b o, b < w.heap.size + 1 → (z.alloc (.cells #[.int .i64 W, .int .i64 H, .slice a2 n c2] 24)).cell? ⟨b, o, none⟩ = ((w.alloc (.cells #[.int .i64 W, .int .i64 H, .slice a n c, .slice la ln lc, .int .i64 x, .int .i64 sz, .slice (some ⟨tb, toff, none⟩) tn tc] 28))).cell? ⟨b, o, none⟩ := fun b o hb => HB12.out.cell (p := ⟨b, o, none⟩) hb
            have bw3 : (z.alloc (.cells #[.int .i64 W, .int .i64 H, .slice a2 n c2] 24)).cell? ⟨w.heap.size, 3, none⟩ = some (.slice la ln lc) := by rw [bwc _ _ (by omega)]; go_simp
            have bw4 : (z.alloc (.cells #[.int .i64 W, .int .i64 H, .slice a2 n c2] 24)).cell? ⟨w.heap.size, 4, none⟩ = some (.int .i64 x) := by rw [bwc _ _ (by omega)]; go_simp
            have bw5 : (z.alloc (.cells #[.int .i64 W, .int .i64 H, .slice a2 n c2] 24)).cell? ⟨w.heap.size, 5, none⟩ = some (.int .i64 sz) := by rw [bwc _ _ (by omega)]; go_simp
            have bw6 : (z.alloc (.cells #[.int .i64 W, .int .i64 H, .slice a2 n c2] 24)).cell? ⟨w.heap.size, 6, none⟩ = some (.slice (some ⟨tb, toff, none⟩) tn tc) := by rw [bwc _ _ (by omega)]; go_simp
            have bwt : (z.alloc (.cells #[.int .i64 W, .int .i64 H, .slice a2 n c2] 24)).cell? ⟨tb, toff + k, none⟩ = some (.int .i64 q) := by rw [bwc _ _ htb1]; go_simp
            clear bwc HB
            clear hc hf hl hn' hm
            obtain ⟨W12, hW12⟩ : ∃ W12, z.alloc (.cells #[.int .i64 W, .int .i64 H, .slice a2 n c2] 24) = W12 := ⟨_, rfl⟩
            rw [hW12] at HYC HB12 gw0 gw1 gw2 gl bw3 bw4 bw5 bw6 bwt ⊢
            clear hW12
            obtain ⟨GB, hGB⟩ : ∃ GB, z.heap.size = GB := ⟨_, rfl⟩
            rw [hGB] at HYC gw0 gw1 gw2 gl hwz ⊢
            clear hGB HOW
            have wl : w.heap.size < W12.heap.size := by omega
            have tl : tb < W12.heap.size := by omega
            have HZ : Hk (Below W12.heap.size W12 W12) := ⟨Below.refl _ _⟩
            have HN12 : Hk (w.heap.size + 1 ≤ W12.heap.size) := ⟨by omega⟩
            refine wp_region_held_drew (S := (fun X => (∀ b o, b < W12.heap.size → X.cell? ⟨b, o, none⟩ = W12.cell? ⟨b, o, none⟩) ∧ Below W12.heap.size W12 X)) (by kernel_rfl) ?_ (fun hHeld => ?_)
            · exact kw_S (kw_drew HZ.out)
            refine wpAnyH_take (i := 0) (v := ?_) rfl (by kernel_rfl) (by kernel_rfl) (by kernel_rfl) (fun _ _ _ h => h) (Or.inl ⟨by rfl, fun wX hSw => ?_⟩) (by assumption) ?_
            rotate_left
            · (try dsimp only at hSw); go_simp; try with_reducible rfl
            (try simp only [Act.put, List.getElem_toArray, List.getElem_cons_succ, List.getElem_cons_zero, List.setIfInBounds_toArray, List.set_cons_zero, List.set_cons_succ])
            refine wpAnyH_take (i := 1) (v := ?_) rfl (by kernel_rfl) (by kernel_rfl) (by kernel_rfl) (fun _ _ _ h => h) (Or.inl ⟨by rfl, fun wX hSw => ?_⟩) (by assumption) ?_
            rotate_left
            · (try dsimp only at hSw); go_simp; try with_reducible rfl
            (try simp only [Act.put, List.getElem_toArray, List.getElem_cons_succ, List.getElem_cons_zero, List.setIfInBounds_toArray, List.set_cons_zero, List.set_cons_succ])
            refine wpAnyH_take (i := 2) (v := ?_) rfl (by kernel_rfl) (by kernel_rfl) (by kernel_rfl) (fun _ _ _ h => h) (Or.inl ⟨by rfl, fun wX hSw => ?_⟩) (by assumption) ?_
            rotate_left
            · (try dsimp only at hSw); go_simp; try with_reducible rfl
            (try simp only [Act.put, List.getElem_toArray, List.getElem_cons_succ, List.getElem_cons_zero, List.setIfInBounds_toArray, List.set_cons_zero, List.set_cons_succ])
            refine wpAnyH_take (i := 3) (v := ?_) rfl (by kernel_rfl) (by kernel_rfl) (by kernel_rfl) (fun _ _ _ h => h) (Or.inl ⟨by rfl, fun wX hSw => ?_⟩) (by assumption) ?_
            rotate_left
            · (try dsimp only at hSw); go_simp; try with_reducible rfl
            (try simp only [Act.put, List.getElem_toArray, List.getElem_cons_succ, List.getElem_cons_zero, List.setIfInBounds_toArray, List.set_cons_zero, List.set_cons_succ])
            refine wpAnyH_take (i := 4) (v := ?_) rfl (by kernel_rfl) (by kernel_rfl) (by kernel_rfl) (fun _ _ _ h => h) (Or.inl ⟨by rfl, fun wX hSw => ?_⟩) (by assumption) ?_
            rotate_left
            · (try dsimp only at hSw); go_simp; try with_reducible rfl
            (try simp only [Act.put, List.getElem_toArray, List.getElem_cons_succ, List.getElem_cons_zero, List.setIfInBounds_toArray, List.set_cons_zero, List.set_cons_succ])
            refine wpAnyH_take (i := 5) (v := ?_) rfl (by kernel_rfl) (by kernel_rfl) (by kernel_rfl) (fun _ _ _ h => h) (Or.inl ⟨by rfl, fun wX hSw => ?_⟩) (by assumption) ?_
            rotate_left
            · (try dsimp only at hSw); go_simp; try with_reducible rfl
            (try simp only [Act.put, List.getElem_toArray, List.getElem_cons_succ, List.getElem_cons_zero, List.setIfInBounds_toArray, List.set_cons_zero, List.set_cons_succ])
            refine wpAnyH_take (i := 6) (v := ?_) rfl (by kernel_rfl) (by kernel_rfl) (by kernel_rfl) (fun _ _ _ h => h) (Or.inl ⟨by rfl, fun wX hSw => ?_⟩) (by assumption) ?_
            rotate_left
            · (try dsimp only at hSw); go_simp; try with_reducible rfl
            (try simp only [Act.put, List.getElem_toArray, List.getElem_cons_succ, List.getElem_cons_zero, List.setIfInBounds_toArray, List.set_cons_zero, List.set_cons_succ])
            refine wpAnyH_take (i := 7) (v := ?_) rfl (by kernel_rfl) (by kernel_rfl) (by kernel_rfl) (fun _ _ _ h => h) (Or.inl ⟨by rfl, fun wX hSw => ?_⟩) (by assumption) ?_
            rotate_left
            · (try dsimp only at hSw); go_simp; try with_reducible rfl
            (try simp only [Act.put, List.getElem_toArray, List.getElem_cons_succ, List.getElem_cons_zero, List.setIfInBounds_toArray, List.set_cons_zero, List.set_cons_succ])
            refine wpAnyH_take (i := 8) (v := ?_) rfl (by kernel_rfl) (by kernel_rfl) (by kernel_rfl) (fun _ _ _ h => h) (Or.inl ⟨by rfl, fun wX hSw => ?_⟩) (by assumption) ?_
            rotate_left
            · (try dsimp only at hSw); go_simp; try with_reducible rfl
            (try simp only [Act.put, List.getElem_toArray, List.getElem_cons_succ, List.getElem_cons_zero, List.setIfInBounds_toArray, List.set_cons_zero, List.set_cons_succ])
            refine wpAnyH_take (i := 9) (v := ?_) rfl (by kernel_rfl) (by kernel_rfl) (by kernel_rfl) (fun _ _ _ h => h) (Or.inl ⟨by rfl, fun wX hSw => ?_⟩) (by assumption) ?_
            rotate_left
            · (try dsimp only at hSw); go_simp; try with_reducible rfl
            (try simp only [Act.put, List.getElem_toArray, List.getElem_cons_succ, List.getElem_cons_zero, List.setIfInBounds_toArray, List.set_cons_zero, List.set_cons_succ])
            refine wpAnyH_take (i := 10) (v := ?_) rfl (by kernel_rfl) (by kernel_rfl) (by kernel_rfl) (fun _ _ _ h => h) (Or.inl ⟨by rfl, fun wX hSw => ?_⟩) (by assumption) ?_
            rotate_left
            · (try dsimp only at hSw); go_simp; try with_reducible rfl
            (try simp only [Act.put, List.getElem_toArray, List.getElem_cons_succ, List.getElem_cons_zero, List.setIfInBounds_toArray, List.set_cons_zero, List.set_cons_succ])
            refine wpAnyH_take (i := 11) (v := ?_) rfl (by kernel_rfl) (by kernel_rfl) (by kernel_rfl) (fun _ _ _ h => h) (Or.inl ⟨by rfl, fun wX hSw => ?_⟩) (by assumption) ?_
            rotate_left
            · (try dsimp only at hSw); go_simp; try with_reducible rfl
            (try simp only [Act.put, List.getElem_toArray, List.getElem_cons_succ, List.getElem_cons_zero, List.setIfInBounds_toArray, List.set_cons_zero, List.set_cons_succ])
            refine wpAnyH_ready (rs := [12]) (by kernel_rfl) (by simp) ?_
            refine AllReadyH.cons rfl (fun K hK => ?_) (AllReadyH.nil)
            go_simp
            (first
                          | (go_at_call 28; (with_reducible refine (make_no W H a2 n c2 xs la ln lc bs x sz q _ ?_ ?_ ?_ hn1 hln1 MM).mono ?_); (exact HLF.out _ HB12.out.drew); (exact HYC.out.drew.mono (Nat.le_of_lt gl)); (exact (HBQ.out _ HB12.out.drew).mono (Nat.le_of_lt wl)); rintro e z ⟨rfl, hb⟩; have hzz : Below W12.heap.size W12 z := (Below.refl _ _).drew.trans hb; replace HZ := Hk.mk hzz; have HB : Hk (Below (w.heap.size + 1) (w.alloc (.cells #[.int .i64 W, .int .i64 H, .slice a n c, .slice la ln lc, .int .i64 x, .int .i64 sz, .slice (some ⟨tb, toff, none⟩) tn tc] 28)) z) := ⟨HB12.out.trans (hzz.mono HN12.out)⟩; have HYZ := Hk.mk ((HYC.out.mono (Nat.le_of_lt gl)).below hzz (Nat.le_refl _)); have gz0 := (hzz.cell (p := ⟨GB, 0, none⟩) gl).trans gw0; have gz1 := (hzz.cell (p := ⟨GB, 1, none⟩) gl).trans gw1; have gz2 := (hzz.cell (p := ⟨GB, 2, none⟩) gl).trans gw2; clear hb hzz))
            refine hK.out _ _ ?_ (fun hHeld => ?_)
            · exact kw_S HZ.out
            clear hK K
            (try simp only [Act.put, List.getElem_toArray, List.getElem_cons_succ, List.getElem_cons_zero, List.setIfInBounds_toArray, List.set_cons_zero, List.set_cons_succ])
            refine wpAnyH_take (i := 13) (v := ?_) rfl (by kernel_rfl) (by kernel_rfl) (by kernel_rfl) (fun _ _ _ h => h) (Or.inl ⟨by rfl, fun wX hSw => ?_⟩) (by assumption) ?_
            rotate_left
            · (try dsimp only at hSw); go_simp; try with_reducible rfl
            (try simp only [Act.put, List.getElem_toArray, List.getElem_cons_succ, List.getElem_cons_zero, List.setIfInBounds_toArray, List.set_cons_zero, List.set_cons_succ])
            refine wpAnyH_take (i := 14) (v := ?_) rfl (by kernel_rfl) (by kernel_rfl) (by kernel_rfl) (fun _ _ _ h => h) (Or.inl ⟨by rfl, fun wX hSw => ?_⟩) (by assumption) ?_
            rotate_left
            · (try dsimp only at hSw); go_simp; try with_reducible rfl
            (try simp only [Act.put, List.getElem_toArray, List.getElem_cons_succ, List.getElem_cons_zero, List.setIfInBounds_toArray, List.set_cons_zero, List.set_cons_succ])
            refine wpAnyH_take (i := 15) (v := ?_) rfl (by kernel_rfl) (by kernel_rfl) (by kernel_rfl) (fun _ _ _ h => h) (Or.inl ⟨by rfl, fun wX hSw => ?_⟩) (by assumption) ?_
            rotate_left
            · (try dsimp only at hSw); go_simp; try with_reducible rfl
            (try simp only [Act.put, List.getElem_toArray, List.getElem_cons_succ, List.getElem_cons_zero, List.setIfInBounds_toArray, List.set_cons_zero, List.set_cons_succ])
            refine wpAnyH_take (i := 16) (v := ?_) rfl (by kernel_rfl) (by kernel_rfl) (by kernel_rfl) (fun _ _ _ h => h) (Or.inl ⟨by rfl, fun wX hSw => ?_⟩) (by assumption) ?_
            rotate_left
            · (try dsimp only at hSw); go_simp; try with_reducible rfl
            (try simp only [Act.put, List.getElem_toArray, List.getElem_cons_succ, List.getElem_cons_zero, List.setIfInBounds_toArray, List.set_cons_zero, List.set_cons_succ])
            refine wpAnyH_take (i := 17) (v := ?_) rfl (by kernel_rfl) (by kernel_rfl) (by kernel_rfl) (fun _ _ _ h => h) (Or.inl ⟨by rfl, fun wX hSw => ?_⟩) (by assumption) ?_
            rotate_left
            · (try dsimp only at hSw); go_simp; try with_reducible rfl
            (try simp only [Act.put, List.getElem_toArray, List.getElem_cons_succ, List.getElem_cons_zero, List.setIfInBounds_toArray, List.set_cons_zero, List.set_cons_succ])
            refine wpAnyH_done (by kernel_rfl) ?_ _
            clear gw0 gw1 gw2 bw3 bw4 bw5 bw6 bwt
            obtain ⟨hc, hf, hl, hn', hm⟩ := kw_rules HB.out hNW
            as_aux_lemma =>
              go_wp2_with (first
                | (go_at_call 21; (with_reducible refine (num13_any _ _).mono ?_); rintro e z ⟨rfl, rfl⟩)
                | (go_at_call 29; (with_reducible refine (eqn_yes _ _ 0 _ _ 0 0 [] _ (Nq.nil _ _ _) (Nq.nil _ _ _) (by omega)).mono ?_); rintro e z ⟨rfl, mm, rfl⟩; replace HYZ := Hk.mk (HYZ.out.drewN mm); replace HB := Hk.mk (below_drewN HB.out mm); clear hc hf hl hn' hm; obtain ⟨hc, hf, hl, hn', hm⟩ := kw_rules HB.out hNW)
                | (go_at_call 30; (with_reducible refine (eqg13 W H W H a2 a n n c2 c xs xs _ ?_ ?_ ⟨⟨rfl, rfl, rfl⟩⟩ hn2).mono ?_); (exact HYZ.out.mono HZ.out.size); (exact (HBY.out _ HB.out).mono (hsz1 HB.out)); rintro e z ⟨rfl, hb⟩; replace HB := Hk.mk (kw_step HB.out hNW hb); clear hb; clear hc hf hl hn' hm; obtain ⟨hc, hf, hl, hn', hm⟩ := kw_rules HB.out hNW)
                | (go_at_call 31; (with_reducible refine (numbers0 _ _ _ (Below.refl _ _) (Nat.le_refl _)).mono ?_); rintro e z ⟨rfl, hb⟩; replace HB := Hk.mk (kw_step HB.out hNW hb); clear hb; clear hc hf hl hn' hm; obtain ⟨hc, hf, hl, hn', hm⟩ := kw_rules HB.out hNW))
              exact ⟨⟨k + 1, by go_num, by omega, by omega, HB⟩, by simp [intOf]; omega⟩
    · have hor : (¬ k < tn) ∨ (k < tn ∧ ¬ k < 6) := by omega
      rcases hor with h1 | ⟨h1, h3⟩
      · have dk : decide ((k : Int) < (tn : Int)) = false := by simp; omega
        as_aux_lemma =>
          go_wp2_with (go_at_call 24; (with_reducible refine (wakes13_any _ (HLF.out _ HB.out)).mono ?_); rintro e z ⟨rfl, hb⟩; replace HB := Hk.mk (kw_step HB.out hNW hb); clear hb; clear hc hf hl hn' hm; obtain ⟨hc, hf, hl, hn', hm⟩ := kw_rules HB.out hNW)
          go_ret
          exact ⟨rfl, HTR.out _ HB.out⟩
      · have dk : decide ((k : Int) < (tn : Int)) = true := by simpa using h1
        have dk3 : decide ((k : Int) < 6) = false := by simp; omega
        as_aux_lemma =>
          go_wp2_with (go_at_call 24; (with_reducible refine (wakes13_any _ (HLF.out _ HB.out)).mono ?_); rintro e z ⟨rfl, hb⟩; replace HB := Hk.mk (kw_step HB.out hNW hb); clear hb; clear hc hf hl hn' hm; obtain ⟨hc, hf, hl, hn', hm⟩ := kw_rules HB.out hNW)
          go_ret
          exact ⟨rfl, HTR.out _ HB.out⟩
end Go.Proofs.YthabjihpjdlmoaaDoor
