import Derived.Deep.QuietTactic
import Derived.BigQuiet
import Derived.Deep.RegionWith
import Derived.Deep.RegionHeld3
import Derived.Deep.DeepCutAuto
import Derived.Deep.DeepFit
import Derived.Outline
import Derived.Test.YtjjodfdmbiebnaaRl
/- For every argument, BuildDrops answers true and leaves its argument as it was: what stands there without any one is the page's, or refused. No condition. -/
namespace Go.Proofs.Ytjjodfdmbiebnaa
open Go.ChangeShapes Go.WideShapes Go.ChangeAt Go.RowKit Go.Deep
set_option linter.unusedVariables false
set_option linter.unusedSimpArgs false
set_option maxRecDepth 100000 in
set_option maxHeartbeats 3200000 in
theorem buildDrops_big (W H : Int) (a : Option Addr) (n c : Nat) (xs : List Int) (la : Option Addr) (ln lc : Nat) (bs : List Bd) (ma : Option Addr) (mn mc : Nat) (ia : Option Addr) (im ic : Nat) (w : World) (h : By w w.heap.size a n xs) (hb0 : Bq w w.heap.size la ln bs) (hlc : ln ≤ lc) (hcc : lc ≤ 9223372036854775807) (js : List Int) (hq0 : Nq w w.heap.size ia im js) (hn : n ≤ 9223372036854775807) (hln : ln ≤ 9223372036854775807) (HV : Hk (gtA n ln mn im = true)) :
    Calls Try.prog 4 #[.agg #[.int .i64 W, .int .i64 H, .slice a n c, .slice la ln lc, .slice ma mn mc, .slice ia im ic]] w fun e w' => e = .returned (.bool true) ∧ Below w.heap.size w w' := by
  have HWB : Hk (Below w.heap.size w (w.alloc (.cells #[.int .i64 W, .int .i64 H, .slice a n c, .slice la ln lc, .slice ma mn mc, .slice ia im ic] 28))) := ⟨(Below.refl _ _).alloc (Nat.le_refl _) _⟩
  have hNW : w.heap.size + 1 ≤ (w.alloc (.cells #[.int .i64 W, .int .i64 H, .slice a n c, .slice la ln lc, .slice ma mn mc, .slice ia im ic] 28)).heap.size := by simp
  have HB : Hk (Below (w.heap.size + 1) (w.alloc (.cells #[.int .i64 W, .int .i64 H, .slice a n c, .slice la ln lc, .slice ma mn mc, .slice ia im ic] 28)) (w.alloc (.cells #[.int .i64 W, .int .i64 H, .slice a n c, .slice la ln lc, .slice ma mn mc, .slice ia im ic] 28))) := ⟨Below.refl _ _⟩
  have HTR : Hk (∀ X, Below (w.heap.size + 1) (w.alloc (.cells #[.int .i64 W, .int .i64 H, .slice a n c, .slice la ln lc, .slice ma mn mc, .slice ia im ic] 28)) X → Below w.heap.size w X) := ⟨fun X hX => HWB.out.trans (hX.mono (by omega))⟩
  have HBY := Hk.mk (fun (X : World) (hX : Below (w.heap.size + 1) (w.alloc (.cells #[.int .i64 W, .int .i64 H, .slice a n c, .slice la ln lc, .slice ma mn mc, .slice ia im ic] 28)) X) => h.below (HTR.out X hX) (Nat.le_refl _))
  have HBQ := Hk.mk (fun (X : World) (hX : Below (w.heap.size + 1) (w.alloc (.cells #[.int .i64 W, .int .i64 H, .slice a n c, .slice la ln lc, .slice ma mn mc, .slice ia im ic] 28)) X) => hb0.below (HTR.out X hX) (Nat.le_refl _))
  clear h hb0
  obtain ⟨hc, hf, hl, hn', hm⟩ := kw_rules HB.out hNW
  go_enter Try.func4, Try.ntmps4
  go_wp2_with (go_at_call 14; (with_reducible refine (heavy8_as true W H a n c la ln lc ma mn mc ia im ic _ (by omega) (by omega) HV).mono ?_); rintro e z ⟨rfl, hb⟩; replace HB := Hk.mk (kw_step HB.out hNW hb); clear hb; clear hc hf hl hn' hm; obtain ⟨hc, hf, hl, hn', hm⟩ := kw_rules HB.out hNW)
  go_ret
  exact ⟨rfl, HTR.out _ HB.out⟩
set_option maxRecDepth 100000 in
set_option maxHeartbeats 3200000 in
theorem buildDrops_go (W H : Int) (a : Option Addr) (n c : Nat) (xs : List Int) (la : Option Addr) (ln lc : Nat) (bs : List Bd) (ma : Option Addr) (mn mc : Nat) (ia : Option Addr) (im ic : Nat) (w : World) (h : By w w.heap.size a n xs) (hb0 : Bq w w.heap.size la ln bs) (hlc : ln ≤ lc) (hcc : lc ≤ 9223372036854775807) (js : List Int) (hq0 : Nq w w.heap.size ia im js) (hn : n ≤ 700) (hln : ln ≤ 30) (him : im ≤ 60) (HV : Hk (gtA n ln mn im = false)) :
    Calls Try.prog 4 #[.agg #[.int .i64 W, .int .i64 H, .slice a n c, .slice la ln lc, .slice ma mn mc, .slice ia im ic]] w fun e w' => e = .returned (.bool true) ∧ Below w.heap.size w w' := by
  have HWB : Hk (Below w.heap.size w (w.alloc (.cells #[.int .i64 W, .int .i64 H, .slice a n c, .slice la ln lc, .slice ma mn mc, .slice ia im ic] 28))) := ⟨(Below.refl _ _).alloc (Nat.le_refl _) _⟩
  have hNW : w.heap.size + 1 ≤ (w.alloc (.cells #[.int .i64 W, .int .i64 H, .slice a n c, .slice la ln lc, .slice ma mn mc, .slice ia im ic] 28)).heap.size := by simp
  have HB : Hk (Below (w.heap.size + 1) (w.alloc (.cells #[.int .i64 W, .int .i64 H, .slice a n c, .slice la ln lc, .slice ma mn mc, .slice ia im ic] 28)) (w.alloc (.cells #[.int .i64 W, .int .i64 H, .slice a n c, .slice la ln lc, .slice ma mn mc, .slice ia im ic] 28))) := ⟨Below.refl _ _⟩
  have HTR : Hk (∀ X, Below (w.heap.size + 1) (w.alloc (.cells #[.int .i64 W, .int .i64 H, .slice a n c, .slice la ln lc, .slice ma mn mc, .slice ia im ic] 28)) X → Below w.heap.size w X) := ⟨fun X hX => HWB.out.trans (hX.mono (by omega))⟩
  have HBY := Hk.mk (fun (X : World) (hX : Below (w.heap.size + 1) (w.alloc (.cells #[.int .i64 W, .int .i64 H, .slice a n c, .slice la ln lc, .slice ma mn mc, .slice ia im ic] 28)) X) => h.below (HTR.out X hX) (Nat.le_refl _))
  have HBQ := Hk.mk (fun (X : World) (hX : Below (w.heap.size + 1) (w.alloc (.cells #[.int .i64 W, .int .i64 H, .slice a n c, .slice la ln lc, .slice ma mn mc, .slice ia im ic] 28)) X) => hb0.below (HTR.out X hX) (Nat.le_refl _))
  have HNQ := Hk.mk hq0
  have HLN := Hk.mk hb0.len
  clear h hb0 hq0
  obtain ⟨hc, hf, hl, hn', hm⟩ := kw_rules HB.out hNW
  go_enter Try.func4, Try.ntmps4
  go_wp2_with (go_at_call 14; (with_reducible refine (heavy8_as false W H a n c la ln lc ma mn mc ia im ic _ (by omega) (by omega) HV).mono ?_); rintro e z ⟨rfl, hb⟩; replace HB := Hk.mk (kw_step HB.out hNW hb); clear hb; clear hc hf hl hn' hm; obtain ⟨hc, hf, hl, hn', hm⟩ := kw_rules HB.out hNW)
  clear hc hf hl hn' hm
  go_loopw [3] (fun i wr => ∃ j : Nat, i = .int .i64 j ∧ j ≤ 15 ∧ Hk (Below (w.heap.size + 1) (w.alloc (.cells #[.int .i64 W, .int .i64 H, .slice a n c, .slice la ln lc, .slice ma mn mc, .slice ia im ic] 28)) wr)) (fun i _ => 15 - (intOf i).toNat)
  case atStart => exact ⟨0, rfl, by omega, HB⟩
  case round =>
    clear HB
    obtain ⟨j, rfl, hj, HB⟩ := hrel
    obtain ⟨hc, hf, hl, hn', hm⟩ := kw_rules HB.out hNW
    by_cases hlt : j < im ∧ j < 15
    · obtain ⟨g1, g2⟩ := hlt
      obtain ⟨ib, io, rfl, hib, hjc⟩ := HNQ.out.rd (by omega)
      have hjc' := hjc j g1
      obtain ⟨id, hid⟩ : ∃ id, js.getD j 0 = id := ⟨_, rfl⟩
      rw [hid] at hjc'
      have hj0 : w.cell? ⟨ib, io + j, none⟩ = some (.int .i64 id) := hjc'
      have hibw : ib < w.heap.size + 1 := by omega
      clear hjc hjc' hid
      have j0 : (0 : Int) ≤ (j : Int) := by omega
      have j1 : (j : Int) < (im : Int) := by omega
      by_cases hA : ascB bs
      case neg =>
        have HA := Hk.mk hA
        clear hA
        go_wp2_with (first
          | (go_at_call 24; (with_reducible refine (ids8_no la ln lc w.heap.size bs _ ?_ (by omega) HA).mono ?_); (exact HBQ.out _ HB.out); rintro e z ⟨rfl, m1, rfl⟩; replace HB := Hk.mk (below_drewN HB.out m1); clear hc hf hl hn' hm; obtain ⟨hc, hf, hl, hn', hm⟩ := kw_rules HB.out hNW)
          | (go_at_call 15; (with_reducible refine (copyb_any la ln lc w.heap.size bs _ ?_ ?_ (by omega)).mono ?_); (exact HBQ.out _ HB.out); (exact hsz1 HB.out); rintro e VB ⟨v2, rfl, ho2, hb⟩; obtain ⟨a2, c2, rfl, hnc2, hcm2, hq2, hbb2⟩ := ho2.bq; have hcm3 : c2 ≤ 9223372036854775807 := (by unfold maxLen at hcm2; omega); have HQ2 := Hk.mk hq2; clear ho2 hq2 hbb2 hcm2; replace HB := Hk.mk (kw_step HB.out hNW hb); clear hb; clear hc hf hl hn' hm; obtain ⟨hc, hf, hl, hn', hm⟩ := kw_rules HB.out hNW)
          | (go_at_call 26; (with_reducible refine (drop_form a2 ln c2 VB.heap.size bs id _ HQ2.out (Nat.le_refl _) (by omega) hnc2 hcm3 HA).mono ?_); rintro e z3 ⟨rfl, hb⟩; have HQ3 : Hk (Bq z3 z3.heap.size a2 ln bs) := ⟨(HQ2.out.below hb (Nat.le_refl _)).mono hb.size⟩; replace HB := Hk.mk (kw_step HB.out hNW hb); clear hb; clear hc hf hl hn' hm; obtain ⟨hc, hf, hl, hn', hm⟩ := kw_rules HB.out hNW)
          | (go_at_call 19; (with_reducible refine (num8_any _ _).mono ?_); rintro e z ⟨rfl, rfl⟩)
          | (go_at_call 21; (with_reducible refine (eqbd_yes none none 0 0 0 0 0 [] _ (Bq.nil _ _ _) (Bq.nil _ _ _) (by omega)).mono ?_); rintro e z ⟨rfl, m2, rfl⟩; replace HB := Hk.mk (below_drewN HB.out m2); clear hc hf hl hn' hm; obtain ⟨hc, hf, hl, hn', hm⟩ := kw_rules HB.out hNW)
          | (go_at_call 21; (with_reducible refine (eqbd_yes a2 la ln c2 lc _ w.heap.size bs _ (HQ3.out.drewN m2) ?_ (by omega)).mono ?_); (exact HBQ.out _ HB.out); rintro e z ⟨rfl, m3, rfl⟩; replace HB := Hk.mk (below_drewN HB.out m3); clear hc hf hl hn' hm; obtain ⟨hc, hf, hl, hn', hm⟩ := kw_rules HB.out hNW))
        exact ⟨⟨j + 1, by go_num, by omega, ⟨by have := HB.out; rwa [World.drewN_drewN] at this⟩⟩, by simp [intOf]; omega⟩
      have HA := Hk.mk hA
      clear hA
      by_cases hex : ∃ k, k < ln ∧ (bs.getD k default).i = id
      case neg =>
        have HID : Hk (∀ k, k < ln → (bs.getD k default).i ≠ id) := ⟨fun k hk he => hex ⟨k, hk, he⟩⟩
        clear hex
        go_upto_region 8 with (go_at_call 24; (with_reducible refine (ids8_yes la ln lc w.heap.size bs _ ?_ (by omega) HA).mono ?_); (exact HBQ.out _ HB.out); rintro e z ⟨rfl, m1, rfl⟩; replace HB := Hk.mk (below_drewN HB.out m1); clear hc hf hl hn' hm; obtain ⟨hc, hf, hl, hn', hm⟩ := kw_rules HB.out hNW)
        obtain ⟨VA, hVA⟩ : ∃ VA, World.drewN wr m1 = VA := ⟨_, rfl⟩
        rw [hVA] at HB hc hf hl hn' hm ⊢
        have q3 : VA.cell? ⟨w.heap.size, 3, none⟩ = some (.slice la ln lc) := (hc _ _ (by omega)).trans (by go_simp)
        have q5 : VA.cell? ⟨w.heap.size, 5, none⟩ = some (.slice (some ⟨ib, io, none⟩) im ic) := (hc _ _ (by omega)).trans (by go_simp)
        have qj : VA.cell? ⟨ib, io + j, none⟩ = some (.int .i64 id) := (hc _ _ (by omega)).trans (by go_simp)
        have bX : w.heap.size < VA.heap.size := hl _ (by omega)
        have bI : ib < VA.heap.size := hl _ (by omega)
        have HB0 := HB
        have HQL := Hk.mk (HBQ.out _ HB.out)
        have hszv : Hk (w.heap.size ≤ VA.heap.size) := ⟨by omega⟩
        clear hVA
        clear hc hf hl hn' hm
        have L0V : VA.heap.size ≤ VA.heap.size := Nat.le_refl _
        apply reg_merge
        intro HG1
        refine wp_region_held_drew (S := fun Z => (∀ b o, b < VA.heap.size → Z.cell? ⟨b, o, none⟩ = VA.cell? ⟨b, o, none⟩)) (by kernel_rfl) (fun _ _ _ => rfl) (fun hHeld => ?_)
        have HB : Hk (Below VA.heap.size VA VA.drew) := ⟨(Below.refl _ _).drew⟩
        obtain ⟨W8, hWe⟩ : ∃ W8, VA.drew = W8 := ⟨_, rfl⟩
        rw [hWe] at HB hHeld ⊢
        clear hWe
        refine wpAnyH_take (i := 0) (v := ?_) rfl (by kernel_rfl) (by kernel_rfl) (by kernel_rfl) (fun _ _ _ h => h) (Or.inl ⟨by rfl, fun wX hSw => ?_⟩) (by assumption) ?_
        rotate_left
        · (try dsimp only at hSw); go_simp; try with_reducible rfl
        (try simp only [Act.put, List.getElem_toArray, List.getElem_cons_succ, List.getElem_cons_zero, List.setIfInBounds_toArray, List.set_cons_zero, List.set_cons_succ])
        refine wpAnyH_take (i := 1) (v := ?_) rfl (by kernel_rfl) (by kernel_rfl) (by kernel_rfl) (fun _ _ _ h => h) (Or.inl ⟨by rfl, fun wX hSw => ?_⟩) (by assumption) ?_
        rotate_left
        · (try dsimp only at hSw); go_simp; try with_reducible rfl
        (try simp only [Act.put, List.getElem_toArray, List.getElem_cons_succ, List.getElem_cons_zero, List.setIfInBounds_toArray, List.set_cons_zero, List.set_cons_succ])
        refine wpAnyH_take (i := 2) (v := ?_) rfl (by kernel_rfl) (by kernel_rfl) (by kernel_rfl) (fun _ _ _ h => h) (Or.inl ⟨by rfl, fun wX hSw => ?_⟩) (by assumption) ?_
        rotate_left
        · (try dsimp only at hSw); go_simp; try with_reducible rfl
        (try simp only [Act.put, List.getElem_toArray, List.getElem_cons_succ, List.getElem_cons_zero, List.setIfInBounds_toArray, List.set_cons_zero, List.set_cons_succ])
        refine wpAnyH_take (i := 3) (v := ?_) rfl (by kernel_rfl) (by kernel_rfl) (by kernel_rfl) (fun _ _ _ h => h) (Or.inl ⟨by rfl, fun wX hSw => ?_⟩) (by assumption) ?_
        rotate_left
        · (try dsimp only at hSw); go_simp; try with_reducible rfl
        (try simp only [Act.put, List.getElem_toArray, List.getElem_cons_succ, List.getElem_cons_zero, List.setIfInBounds_toArray, List.set_cons_zero, List.set_cons_succ])
        refine wpAnyH_take (i := 4) (v := ?_) rfl (by kernel_rfl) (by kernel_rfl) (by kernel_rfl) (fun _ _ _ h => h) (Or.inl ⟨by rfl, fun wX hSw => ?_⟩) (by assumption) ?_
        rotate_left
        · (try dsimp only at hSw); go_simp; try with_reducible rfl
        (try simp only [Act.put, List.getElem_toArray, List.getElem_cons_succ, List.getElem_cons_zero, List.setIfInBounds_toArray, List.set_cons_zero, List.set_cons_succ])
        refine wpAnyH_take (i := 5) (v := ?_) rfl (by kernel_rfl) (by kernel_rfl) (by kernel_rfl) (fun _ _ _ h => h) (Or.inl ⟨by rfl, fun wX hSw => ?_⟩) (by assumption) ?_
        rotate_left
        · (try dsimp only at hSw); go_simp; try with_reducible rfl
        (try simp only [Act.put, List.getElem_toArray, List.getElem_cons_succ, List.getElem_cons_zero, List.setIfInBounds_toArray, List.set_cons_zero, List.set_cons_succ])
        refine wpAnyH_take (i := 6) (v := ?_) rfl (by kernel_rfl) (by kernel_rfl) (by kernel_rfl) (fun _ _ _ h => h) (Or.inl ⟨by rfl, fun wX hSw => ?_⟩) (by assumption) ?_
        rotate_left
        · (try dsimp only at hSw); go_simp; try with_reducible rfl
        (try simp only [Act.put, List.getElem_toArray, List.getElem_cons_succ, List.getElem_cons_zero, List.setIfInBounds_toArray, List.set_cons_zero, List.set_cons_succ])
        refine wpAnyH_ready (rs := [7]) (by kernel_rfl) (by simp) ?_
        refine AllReadyH.cons rfl (fun K hK => ?_) (AllReadyH.nil)
        · skip
          go_simp
          ((go_at_call 25; (with_reducible refine (rdrop_no la ln lc w.heap.size bs id _ (HQL.out.below HB.out hszv.out) (Nat.le_trans hszv.out (kw_le HB.out L0V)) (by omega) hlc hcc HID).mono ?_); rintro e z ⟨rfl, hb⟩))
          replace HB := Hk.mk (kw_step HB.out L0V hb)
          clear hb
          refine hK.out _ _ ?_ (fun hHeld2 => ?_)
          · exact kw_s HB.out
          clear hK K hHeld
          have hHeld := hHeld2
          clear hHeld2
          (try simp only [Act.put, List.getElem_toArray, List.getElem_cons_succ, List.getElem_cons_zero, List.setIfInBounds_toArray, List.set_cons_zero, List.set_cons_succ])
          refine wpAnyH_take (i := 8) (v := ?_) rfl (by kernel_rfl) (by kernel_rfl) (by kernel_rfl) (fun _ _ _ h => h) (Or.inl ⟨by rfl, fun wX hSw => ?_⟩) (by assumption) ?_
          rotate_left
          · (try dsimp only at hSw); go_simp; try with_reducible rfl
          (try simp only [Act.put, List.getElem_toArray, List.getElem_cons_succ, List.getElem_cons_zero, List.setIfInBounds_toArray, List.set_cons_zero, List.set_cons_succ])
          refine wpAnyH_take (i := 9) (v := ?_) rfl (by kernel_rfl) (by kernel_rfl) (by kernel_rfl) (fun _ _ _ h => h) (Or.inl ⟨by rfl, fun wX hSw => ?_⟩) (by assumption) ?_
          rotate_left
          · (try dsimp only at hSw); go_simp; try with_reducible rfl
          (try simp only [Act.put, List.getElem_toArray, List.getElem_cons_succ, List.getElem_cons_zero, List.setIfInBounds_toArray, List.set_cons_zero, List.set_cons_succ])
          refine wpAnyH_take (i := 10) (v := ?_) rfl (by kernel_rfl) (by kernel_rfl) (by kernel_rfl) (fun _ _ _ h => h) (Or.inl ⟨by rfl, fun wX hSw => ?_⟩) (by assumption) ?_
          rotate_left
          · (try dsimp only at hSw); go_simp; try with_reducible rfl
          (try simp only [Act.put, List.getElem_toArray, List.getElem_cons_succ, List.getElem_cons_zero, List.setIfInBounds_toArray, List.set_cons_zero, List.set_cons_succ])
          refine wpAnyH_take (i := 11) (v := ?_) rfl (by kernel_rfl) (by kernel_rfl) (by kernel_rfl) (fun _ _ _ h => h) (Or.inl ⟨by rfl, fun wX hSw => ?_⟩) (by assumption) ?_
          rotate_left
          · (try dsimp only at hSw); go_simp; try with_reducible rfl
          (try simp only [Act.put, List.getElem_toArray, List.getElem_cons_succ, List.getElem_cons_zero, List.setIfInBounds_toArray, List.set_cons_zero, List.set_cons_succ])
          refine wpAnyH_take (i := 12) (v := ?_) rfl (by kernel_rfl) (by kernel_rfl) (by kernel_rfl) (fun _ _ _ h => h) (Or.inl ⟨by rfl, fun wX hSw => ?_⟩) (by assumption) ?_
          rotate_left
          · (try dsimp only at hSw); go_simp; try with_reducible rfl
          (try simp only [Act.put, List.getElem_toArray, List.getElem_cons_succ, List.getElem_cons_zero, List.setIfInBounds_toArray, List.set_cons_zero, List.set_cons_succ])
          refine reg_cast (l' := #[true, true, true, true, true, true, true, true, true, true, true, true, true]) (by kernel_rfl) ?_
          revert hHeld
          revert HB
          revert z
          exact HG1.out
        intro W8 HB hHeld
        refine wpAnyH_done (by kernel_rfl) ?_ _
        replace HB := Hk.mk (kw_step HB0.out hNW HB.out)
        obtain ⟨hc, hf, hl, hn', hm⟩ := kw_rules HB.out hNW
        go_wp2_with (first
          | (go_at_call 15; (with_reducible refine (copyb_any la ln lc w.heap.size bs _ ?_ ?_ (by omega)).mono ?_); (exact HBQ.out _ HB.out); (exact hsz1 HB.out); rintro e VB ⟨v2, rfl, ho2, hb⟩; obtain ⟨a2, c2, rfl, hnc2, hcm2, hq2, hbb2⟩ := ho2.bq; have hcm3 : c2 ≤ 9223372036854775807 := (by unfold maxLen at hcm2; omega); have HQ2 := Hk.mk hq2; clear ho2 hq2 hbb2 hcm2; replace HB := Hk.mk (kw_step HB.out hNW hb); clear hb; clear hc hf hl hn' hm; obtain ⟨hc, hf, hl, hn', hm⟩ := kw_rules HB.out hNW)
          | (go_at_call 26; (with_reducible refine (drop_none a2 ln c2 VB.heap.size bs id _ HQ2.out (Nat.le_refl _) (by omega) hnc2 hcm3 HA HID).mono ?_); rintro e z3 ⟨rfl, hb⟩; have HQ3 : Hk (Bq z3 z3.heap.size a2 ln bs) := ⟨(HQ2.out.below hb (Nat.le_refl _)).mono hb.size⟩; replace HB := Hk.mk (kw_step HB.out hNW hb); clear hb; clear hc hf hl hn' hm; obtain ⟨hc, hf, hl, hn', hm⟩ := kw_rules HB.out hNW)
          | (go_at_call 19; (with_reducible refine (num8_any _ _).mono ?_); rintro e z ⟨rfl, rfl⟩)
          | (go_at_call 21; (with_reducible refine (eqbd_yes none none 0 0 0 0 0 [] _ (Bq.nil _ _ _) (Bq.nil _ _ _) (by omega)).mono ?_); rintro e z ⟨rfl, m2, rfl⟩; replace HB := Hk.mk (below_drewN HB.out m2); clear hc hf hl hn' hm; obtain ⟨hc, hf, hl, hn', hm⟩ := kw_rules HB.out hNW)
          | (go_at_call 21; (with_reducible refine (eqbd_yes a2 la ln c2 lc _ w.heap.size bs _ (HQ3.out.drewN m2) ?_ (by omega)).mono ?_); (exact HBQ.out _ HB.out); rintro e z ⟨rfl, m3, rfl⟩; replace HB := Hk.mk (below_drewN HB.out m3); clear hc hf hl hn' hm; obtain ⟨hc, hf, hl, hn', hm⟩ := kw_rules HB.out hNW))
        exact ⟨⟨j + 1, by go_num, by omega, ⟨by have := HB.out; rwa [World.drewN_drewN] at this⟩⟩, by simp [intOf]; omega⟩
      obtain ⟨k0, hk0, he0⟩ := hex
      have HAT := Hk.mk he0
      have HID : Hk (∀ k, k < k0 → (bs.getD k default).i ≠ id) := ⟨fun k hk he => by
        obtain ⟨d, hd⟩ : ∃ d, k0 = k + d + 1 := ⟨k0 - k - 1, by omega⟩
        have h6 := asc_lt HA.out d k (by rw [HLN.out]; omega)
        rw [← hd] at h6
        omega⟩
      clear he0
      go_upto_region 8 with (go_at_call 24; (with_reducible refine (ids8_yes la ln lc w.heap.size bs _ ?_ (by omega) HA).mono ?_); (exact HBQ.out _ HB.out); rintro e z ⟨rfl, m1, rfl⟩; replace HB := Hk.mk (below_drewN HB.out m1); clear hc hf hl hn' hm; obtain ⟨hc, hf, hl, hn', hm⟩ := kw_rules HB.out hNW)
      obtain ⟨VA, hVA⟩ : ∃ VA, World.drewN wr m1 = VA := ⟨_, rfl⟩
      rw [hVA] at HB hc hf hl hn' hm ⊢
      have q3 : VA.cell? ⟨w.heap.size, 3, none⟩ = some (.slice la ln lc) := (hc _ _ (by omega)).trans (by go_simp)
      have q5 : VA.cell? ⟨w.heap.size, 5, none⟩ = some (.slice (some ⟨ib, io, none⟩) im ic) := (hc _ _ (by omega)).trans (by go_simp)
      have qj : VA.cell? ⟨ib, io + j, none⟩ = some (.int .i64 id) := (hc _ _ (by omega)).trans (by go_simp)
      have bX : w.heap.size < VA.heap.size := hl _ (by omega)
      have bI : ib < VA.heap.size := hl _ (by omega)
      have HB0 := HB
      have HQL := Hk.mk (HBQ.out _ HB.out)
      have hszv : Hk (w.heap.size ≤ VA.heap.size) := ⟨by omega⟩
      clear hVA
      clear hc hf hl hn' hm
      have L0V : VA.heap.size ≤ VA.heap.size := Nat.le_refl _
      apply reg_merge
      intro HG1
      refine wp_region_held_drew (S := fun Z => (∀ b o, b < VA.heap.size → Z.cell? ⟨b, o, none⟩ = VA.cell? ⟨b, o, none⟩)) (by kernel_rfl) (fun _ _ _ => rfl) (fun hHeld => ?_)
      have HB : Hk (Below VA.heap.size VA VA.drew) := ⟨(Below.refl _ _).drew⟩
      obtain ⟨W8, hWe⟩ : ∃ W8, VA.drew = W8 := ⟨_, rfl⟩
      rw [hWe] at HB hHeld ⊢
      clear hWe
      refine wpAnyH_take (i := 0) (v := ?_) rfl (by kernel_rfl) (by kernel_rfl) (by kernel_rfl) (fun _ _ _ h => h) (Or.inl ⟨by rfl, fun wX hSw => ?_⟩) (by assumption) ?_
      rotate_left
      · (try dsimp only at hSw); go_simp; try with_reducible rfl
      (try simp only [Act.put, List.getElem_toArray, List.getElem_cons_succ, List.getElem_cons_zero, List.setIfInBounds_toArray, List.set_cons_zero, List.set_cons_succ])
      refine wpAnyH_take (i := 1) (v := ?_) rfl (by kernel_rfl) (by kernel_rfl) (by kernel_rfl) (fun _ _ _ h => h) (Or.inl ⟨by rfl, fun wX hSw => ?_⟩) (by assumption) ?_
      rotate_left
      · (try dsimp only at hSw); go_simp; try with_reducible rfl
      (try simp only [Act.put, List.getElem_toArray, List.getElem_cons_succ, List.getElem_cons_zero, List.setIfInBounds_toArray, List.set_cons_zero, List.set_cons_succ])
      refine wpAnyH_take (i := 2) (v := ?_) rfl (by kernel_rfl) (by kernel_rfl) (by kernel_rfl) (fun _ _ _ h => h) (Or.inl ⟨by rfl, fun wX hSw => ?_⟩) (by assumption) ?_
      rotate_left
      · (try dsimp only at hSw); go_simp; try with_reducible rfl
      (try simp only [Act.put, List.getElem_toArray, List.getElem_cons_succ, List.getElem_cons_zero, List.setIfInBounds_toArray, List.set_cons_zero, List.set_cons_succ])
      refine wpAnyH_take (i := 3) (v := ?_) rfl (by kernel_rfl) (by kernel_rfl) (by kernel_rfl) (fun _ _ _ h => h) (Or.inl ⟨by rfl, fun wX hSw => ?_⟩) (by assumption) ?_
      rotate_left
      · (try dsimp only at hSw); go_simp; try with_reducible rfl
      (try simp only [Act.put, List.getElem_toArray, List.getElem_cons_succ, List.getElem_cons_zero, List.setIfInBounds_toArray, List.set_cons_zero, List.set_cons_succ])
      refine wpAnyH_take (i := 4) (v := ?_) rfl (by kernel_rfl) (by kernel_rfl) (by kernel_rfl) (fun _ _ _ h => h) (Or.inl ⟨by rfl, fun wX hSw => ?_⟩) (by assumption) ?_
      rotate_left
      · (try dsimp only at hSw); go_simp; try with_reducible rfl
      (try simp only [Act.put, List.getElem_toArray, List.getElem_cons_succ, List.getElem_cons_zero, List.setIfInBounds_toArray, List.set_cons_zero, List.set_cons_succ])
      refine wpAnyH_take (i := 5) (v := ?_) rfl (by kernel_rfl) (by kernel_rfl) (by kernel_rfl) (fun _ _ _ h => h) (Or.inl ⟨by rfl, fun wX hSw => ?_⟩) (by assumption) ?_
      rotate_left
      · (try dsimp only at hSw); go_simp; try with_reducible rfl
      (try simp only [Act.put, List.getElem_toArray, List.getElem_cons_succ, List.getElem_cons_zero, List.setIfInBounds_toArray, List.set_cons_zero, List.set_cons_succ])
      refine wpAnyH_take (i := 6) (v := ?_) rfl (by kernel_rfl) (by kernel_rfl) (by kernel_rfl) (fun _ _ _ h => h) (Or.inl ⟨by rfl, fun wX hSw => ?_⟩) (by assumption) ?_
      rotate_left
      · (try dsimp only at hSw); go_simp; try with_reducible rfl
      (try simp only [Act.put, List.getElem_toArray, List.getElem_cons_succ, List.getElem_cons_zero, List.setIfInBounds_toArray, List.set_cons_zero, List.set_cons_succ])
      refine wpAnyH_ready (rs := [7]) (by kernel_rfl) (by simp) ?_
      refine AllReadyH.cons rfl (fun K hK => ?_) (AllReadyH.nil)
      · skip
        go_simp
        ((go_at_call 25; (with_reducible refine (rdrop_yes la ln lc w.heap.size bs id _ (HQL.out.below HB.out hszv.out) (Nat.le_trans hszv.out (kw_le HB.out L0V)) (by omega) hlc hcc k0 hk0 HAT HID).mono ?_); rintro e z ⟨v, rfl, hv, hb⟩; obtain ⟨a4, c4, rfl, -, -, -, -⟩ := hv.bq; have HV4 := Hk.mk (hv.weak (kw_le HB.out L0V)); clear hv))
        replace HB := Hk.mk (kw_step HB.out L0V hb)
        clear hb
        refine hK.out _ _ ?_ (fun hHeld2 => ?_)
        · exact kw_s HB.out
        clear hK K hHeld
        have hHeld := hHeld2
        clear hHeld2
        (try simp only [Act.put, List.getElem_toArray, List.getElem_cons_succ, List.getElem_cons_zero, List.setIfInBounds_toArray, List.set_cons_zero, List.set_cons_succ])
        refine wpAnyH_take (i := 8) (v := ?_) rfl (by kernel_rfl) (by kernel_rfl) (by kernel_rfl) (fun _ _ _ h => h) (Or.inl ⟨by rfl, fun wX hSw => ?_⟩) (by assumption) ?_
        rotate_left
        · (try dsimp only at hSw); go_simp; try with_reducible rfl
        (try simp only [Act.put, List.getElem_toArray, List.getElem_cons_succ, List.getElem_cons_zero, List.setIfInBounds_toArray, List.set_cons_zero, List.set_cons_succ])
        refine wpAnyH_take (i := 9) (v := ?_) rfl (by kernel_rfl) (by kernel_rfl) (by kernel_rfl) (fun _ _ _ h => h) (Or.inl ⟨by rfl, fun wX hSw => ?_⟩) (by assumption) ?_
        rotate_left
        · (try dsimp only at hSw); go_simp; try with_reducible rfl
        (try simp only [Act.put, List.getElem_toArray, List.getElem_cons_succ, List.getElem_cons_zero, List.setIfInBounds_toArray, List.set_cons_zero, List.set_cons_succ])
        refine wpAnyH_take (i := 10) (v := ?_) rfl (by kernel_rfl) (by kernel_rfl) (by kernel_rfl) (fun _ _ _ h => h) (Or.inl ⟨by rfl, fun wX hSw => ?_⟩) (by assumption) ?_
        rotate_left
        · (try dsimp only at hSw); go_simp; try with_reducible rfl
        (try simp only [Act.put, List.getElem_toArray, List.getElem_cons_succ, List.getElem_cons_zero, List.setIfInBounds_toArray, List.set_cons_zero, List.set_cons_succ])
        refine wpAnyH_take (i := 11) (v := ?_) rfl (by kernel_rfl) (by kernel_rfl) (by kernel_rfl) (fun _ _ _ h => h) (Or.inl ⟨by rfl, fun wX hSw => ?_⟩) (by assumption) ?_
        rotate_left
        · (try dsimp only at hSw); go_simp; try with_reducible rfl
        (try simp only [Act.put, List.getElem_toArray, List.getElem_cons_succ, List.getElem_cons_zero, List.setIfInBounds_toArray, List.set_cons_zero, List.set_cons_succ])
        refine wpAnyH_take (i := 12) (v := ?_) rfl (by kernel_rfl) (by kernel_rfl) (by kernel_rfl) (fun _ _ _ h => h) (Or.inl ⟨by rfl, fun wX hSw => ?_⟩) (by assumption) ?_
        rotate_left
        · (try dsimp only at hSw); go_simp; try with_reducible rfl
        (try simp only [Act.put, List.getElem_toArray, List.getElem_cons_succ, List.getElem_cons_zero, List.setIfInBounds_toArray, List.set_cons_zero, List.set_cons_succ])
        refine reg_cast (l' := #[true, true, true, true, true, true, true, true, true, true, true, true, true]) (by kernel_rfl) ?_
        revert hHeld
        revert HV4
        revert HB
        revert c4
        revert a4
        revert z
        exact HG1.out
      intro W8 a4 c4 HB HV4 hHeld
      refine wpAnyH_done (by kernel_rfl) ?_ _
      replace HB := Hk.mk (kw_step HB0.out hNW HB.out)
      obtain ⟨hc, hf, hl, hn', hm⟩ := kw_rules HB.out hNW
      go_wp2_with (first
        | (go_at_call 15; (with_reducible refine (copyb_any la ln lc w.heap.size bs _ ?_ ?_ (by omega)).mono ?_); (exact HBQ.out _ HB.out); (exact hsz1 HB.out); rintro e VB ⟨v2, rfl, ho2, hb⟩; obtain ⟨a2, c2, rfl, hnc2, hcm2, hq2, hbb2⟩ := ho2.bq; have hcm3 : c2 ≤ 9223372036854775807 := (by unfold maxLen at hcm2; omega); have HQ2 := Hk.mk hq2; clear ho2 hq2 hbb2 hcm2; replace HV4 := Hk.mk (HV4.out.below hb); replace HB := Hk.mk (kw_step HB.out hNW hb); clear hb; clear hc hf hl hn' hm; obtain ⟨hc, hf, hl, hn', hm⟩ := kw_rules HB.out hNW)
        | (go_at_call 26; (with_reducible refine (drop_yes a2 ln c2 VB.heap.size bs id _ HQ2.out (Nat.le_refl _) (by omega) hnc2 hcm3 HA k0 hk0 HAT).mono ?_); rintro e z3 ⟨v3, rfl, ho3, hb⟩; have HQ3 : Hk (Bq z3 z3.heap.size a2 ln bs) := ⟨(HQ2.out.below hb (Nat.le_refl _)).mono hb.size⟩; obtain ⟨a3, c3, rfl, -, -, hq4, -⟩ := ho3.bq; have HQ4 := Hk.mk hq4; replace HV4 := Hk.mk (HV4.out.below hb); have HQ5 := Hk.mk (own8_bq HV4.out); clear ho3 hq4; replace HB := Hk.mk (kw_step HB.out hNW hb); clear hb; clear hc hf hl hn' hm; obtain ⟨hc, hf, hl, hn', hm⟩ := kw_rules HB.out hNW)
        | (go_at_call 19; (with_reducible refine (num8_any _ _).mono ?_); rintro e z ⟨rfl, rfl⟩)
        | (go_at_call 21; (with_reducible refine (eqbd_yes a3 a4 (ln - 1) c3 c4 _ _ (bs.take k0 ++ bs.drop (k0 + 1)) _ HQ4.out HQ5.out (by omega)).mono ?_); rintro e z ⟨rfl, m2, rfl⟩; replace HB := Hk.mk (below_drewN HB.out m2); clear hc hf hl hn' hm; obtain ⟨hc, hf, hl, hn', hm⟩ := kw_rules HB.out hNW)
        | (go_at_call 21; (with_reducible refine (eqbd_yes a2 la ln c2 lc _ w.heap.size bs _ (HQ3.out.drewN m2) ?_ (by omega)).mono ?_); (exact HBQ.out _ HB.out); rintro e z ⟨rfl, m3, rfl⟩; replace HB := Hk.mk (below_drewN HB.out m3); clear hc hf hl hn' hm; obtain ⟨hc, hf, hl, hn', hm⟩ := kw_rules HB.out hNW))
      exact ⟨⟨j + 1, by go_num, by omega, ⟨by have := HB.out; rwa [World.drewN_drewN] at this⟩⟩, by simp [intOf]; omega⟩
    · go_wp2_with (go_at_call 23; (with_reducible refine (wakes8_any _).mono ?_); rintro e z ⟨rfl, hb⟩; replace HB := Hk.mk (kw_step HB.out hNW hb); clear hb; clear hc hf hl hn' hm; obtain ⟨hc, hf, hl, hn', hm⟩ := kw_rules HB.out hNW)
      all_goals
        go_ret
        exact ⟨rfl, HTR.out _ HB.out⟩
theorem buildDrops_walk (v : Value) (w : World) (rows : Asks8 w v) :
    Calls Try.prog 4 #[v] w fun e w' => e = .returned (.bool true) ∧ Below w.heap.size w w' := by
  obtain ⟨W, H, a, n, c, xs, la, ln, lc, bs, ma, mn, mc, ms, ia, im, ic, js, rfl, hW, hH, hn, hlc, hcc, hby, hbq, hi, hmc, hc2, hmq, hj, him, hnq⟩ := rows
  by_cases g : gtA n ln mn im = true
  · exact buildDrops_big W H a n c xs la ln lc bs ma mn mc ia im ic w hby hbq hlc hcc js hnq hn (by omega) ⟨g⟩
  · have g' : gtA n ln mn im = false := by simpa using g
    have hs : n ≤ 700 ∧ ln ≤ 30 ∧ im ≤ 60 := by unfold gtA at g'; simp at g'; omega
    exact buildDrops_go W H a n c xs la ln lc bs ma mn mc ia im ic w hby hbq hlc hcc js hnq hs.1 hs.2.1 hs.2.2 ⟨g'⟩

theorem buildDrops_own : ownKnob Try.prog.godebug = none := by kernel_rfl
theorem buildDrops_laidOut : laidOutB Try.prog = true := by kernel_rfl
set_option maxRecDepth 100000 in
theorem buildDrops_lifted (os : Os) (started : os.Started) (H : Type) (enc : TypeId × Value → H) :
    ReturnsInHanded {} Try.checked os 4 .any (Rows.buildDropsSpec.pre6 enc Try.prog Try.f4 Rows.buildDropsRow.domain false) (Rows.buildDropsSpec.post enc Try.prog Try.f4 false true false false) := by
  refine returnsInHanded_of_change (C := Try.checked) buildDrops_own started (by kernel_rfl) Try.func4
    (ChangeSpec.witness6 (enc := enc) (C := Try.checked) false ⟨#[], #[.agg #[.int .i64 0, .int .i64 0, .slice none 0 0, .slice none 0 0, .slice none 0 0, .slice none 0 0]], []⟩ 8 (by kernel_rfl) (by kernel_rfl) (by kernel_rfl) (by kernel_rfl)) ?_
  intro W base args ds gs before hval0 hW hcnd _
  have hval : ∀ (j : Nat) t v, Try.f4.params[j]? = some t → args[j]? = some v → Value.okWide Try.prog W .any base t v := hval0
  have hW' := hW
  obtain ⟨p, q, hA0, hV, rfl, hfz, hnd⟩ := hW
  have hA : DataW.TrodAll enc Try.prog W 0 (fun _ => true) true Try.f4.params.toList args.toList ds p := hA0
  rw [Try.params4] at hA hval
  obtain ⟨v0, vs0, d0, ds0, p0, q0, hargs, rfl, rfl, h0, r0⟩ := trodAll_cons hA
  obtain ⟨rfl, rfl, rfl⟩ := trodAll_nil r0
  obtain rfl : args = #[v0] := by cases args; simp_all
  obtain ⟨rfl, rfl⟩ := trodVars_none hV
  obtain ⟨cs0, rfl, hcs0⟩ := okWide_struct Try.underlying28 (hval 0 28 v0 rfl rfl)
  have k0 := h0
  have lt0 : ∀ x ∈ p0, x.block < W.heap.size := by obtain ⟨m, hm⟩ := k0; exact DataW.trod_lt m _ _ _ hm
  have rows : Asks8 W (.agg cs0) := by obtain ⟨fuel, hf⟩ := h0; exact asks8_of hcs0 hf
  clear hA0 hval0
  refine (buildDrops_walk (.agg cs0) W rows).mono fun e W' ⟨he, bel⟩ => ?_
  subst he
  exact ⟨_, rfl, _, _, _, [], _, [], hW', trodAll_mk1 (shut_bool Try.underlying4 _), (trodAll_cons_mk (Below.trod buildDrops_laidOut (by kernel_rfl) (of_decide_eq_true (by kernel_rfl)) k0 bel lt0) trodAll_mk0), rfl, bel.frame _, fun h => by cases h⟩
theorem buildDrops_over : Rows.buildDropsRow.holds Try.pinned (OpenSpec.ofChange Rows.buildDropsSpec) :=
  OpenClaim.holds_of_wide 4 Try.f4 rfl rfl rfl rfl rfl rfl rfl ⟨rfl, rfl, rfl, rfl, rfl⟩ rfl rfl rfl rfl rfl (by kernel_rfl) Try.func4 (by kernel_rfl)
    (of_decide_eq_true (by kernel_rfl)) (by unfold Func.isWrapper; first | (rw [if_pos (by decide +kernel)]; kernel_rfl) | (rw [if_neg (by decide +kernel)]; exact ⟨rfl, rfl⟩))
    (fun os started H enc _ => buildDrops_lifted os started H enc)
/-- The given statement of BuildDrops. -/
theorem buildDrops_holds : Rows.BuildDropsSaid := buildDrops_over
end Go.Proofs.Ytjjodfdmbiebnaa

