import Derived.Deep.QuietTactic
import Derived.BigQuiet
import Derived.Deep.RegionWith
import Derived.Deep.RegionHeld3
import Derived.Deep.DeepCutAuto
import Derived.Deep.DeepFit
import Derived.Outline
import Derived.Test.YtifnmgbeepgfiaaCo
/- Layer 10: any parts with those of one sector reckoned anew, where they may be. -/
namespace Go.Proofs.Ytifnmgbeepgfiaa
open Go.ChangeShapes Go.WideShapes Go.ChangeAt Go.RowKit Go.Deep
set_option linter.unusedVariables false
set_option linter.unusedSimpArgs false
theorem arp_drew {w : World} {J n c : Nat} {P : Nat → Int} (h : Arp w J n c P) : Arp w.drew J n c P := h.of_block rfl
theorem arp_nq {w : World} {J n c : Nat} {P : Nat → Int} (h : Arp w J n c P) : Nq w (J + 1) (some ⟨J, 0, none⟩) n ((List.range n).map P) :=
  ⟨by simp, fun hn => ⟨J, 0, rfl, Nat.lt_succ_self _, fun k hk => by rw [Nat.zero_add, h.cell hk]; simp [List.getD, hk]⟩⟩
set_option maxRecDepth 100000 in
set_option maxHeartbeats 20000000 in
theorem sectorRedo_yes (W H : Int) (fb fo n fc : Nat) (fr : Nat → Bool) (tb toff tn tc : Nat) (ts : List Int) (pb po pc : Nat) (ps : List Int) (w : World) (hfn : n ≤ 9223372036854775807) (htn : tn ≤ 9223372036854775807) (hpn : n ≤ 9223372036854775807) (hfl : fb < w.heap.size) (hF : ∀ k, k < n → w.cell? ⟨fb, fo + k, none⟩ = some (.bool (fr k))) (hts : Nq w w.heap.size (some ⟨tb, toff, none⟩) tn ts) (hps : Nq w w.heap.size (some ⟨pb, po, none⟩) n ps) (HV : Hk (heavyS n tn n = false)) (MM : Hk (mayS W H n = true)) :
    Calls Try.prog 4 #[.agg #[.int .i64 W, .int .i64 H, .slice (some ⟨fb, fo, none⟩) n fc, .slice (some ⟨tb, toff, none⟩) tn tc, .slice (some ⟨pb, po, none⟩) n pc]] w fun e w' => e = .returned (.bool true) ∧ Below w.heap.size w w' := by
  have HWB : Hk (Below w.heap.size w (w.alloc (.cells #[.int .i64 W, .int .i64 H, .slice (some ⟨fb, fo, none⟩) n fc, .slice (some ⟨tb, toff, none⟩) tn tc, .slice (some ⟨pb, po, none⟩) n pc] 25))) := ⟨(Below.refl _ _).alloc (Nat.le_refl _) _⟩
  have hNW : (w.heap.size + 1) ≤ (w.alloc (.cells #[.int .i64 W, .int .i64 H, .slice (some ⟨fb, fo, none⟩) n fc, .slice (some ⟨tb, toff, none⟩) tn tc, .slice (some ⟨pb, po, none⟩) n pc] 25)).heap.size := by simp
  have HB : Hk (Below (w.heap.size + 1) (w.alloc (.cells #[.int .i64 W, .int .i64 H, .slice (some ⟨fb, fo, none⟩) n fc, .slice (some ⟨tb, toff, none⟩) tn tc, .slice (some ⟨pb, po, none⟩) n pc] 25)) (w.alloc (.cells #[.int .i64 W, .int .i64 H, .slice (some ⟨fb, fo, none⟩) n fc, .slice (some ⟨tb, toff, none⟩) tn tc, .slice (some ⟨pb, po, none⟩) n pc] 25))) := ⟨Below.refl _ _⟩
  have HTR : Hk (∀ X, Below (w.heap.size + 1) (w.alloc (.cells #[.int .i64 W, .int .i64 H, .slice (some ⟨fb, fo, none⟩) n fc, .slice (some ⟨tb, toff, none⟩) tn tc, .slice (some ⟨pb, po, none⟩) n pc] 25)) X → Below w.heap.size w X) := ⟨fun X hX => HWB.out.trans (hX.mono (by omega))⟩
  have hfs : n ≤ 900 ∧ tn ≤ 60 := by have := HV.out; unfold heavyS at this; simp at this; omega
  obtain ⟨⟨w1, w2, h1, h2⟩, hn⟩ := mayS_yes MM.out
  have hp : 1 * 1 ≤ W * H := Int.mul_le_mul w1 h1 (by omega) (by omega)
  have n1 : 0 < n := by omega
  have e1 : IntKind.i64.wrap (W * H) = (n : Int) := by rw [← hn]; exact wr_in' (by omega)
  have HN := Hk.mk hn
  have HPS := Hk.mk (fun (X : World) (hX : Below (w.heap.size + 1) (w.alloc (.cells #[.int .i64 W, .int .i64 H, .slice (some ⟨fb, fo, none⟩) n fc, .slice (some ⟨tb, toff, none⟩) tn tc, .slice (some ⟨pb, po, none⟩) n pc] 25)) X) => hps.below (HTR.out X hX) (Nat.le_refl _))
  have HFR := Hk.mk (fun (X : World) (hX : Below (w.heap.size + 1) (w.alloc (.cells #[.int .i64 W, .int .i64 H, .slice (some ⟨fb, fo, none⟩) n fc, .slice (some ⟨tb, toff, none⟩) tn tc, .slice (some ⟨pb, po, none⟩) n pc] 25)) X) (k : Nat) (hk : k < n) => ((HTR.out X hX).cell (p := ⟨fb, fo + k, none⟩) hfl).trans (hF k hk))
  clear hps hn hp hF
  obtain ⟨hc, hf, hl, hn', hm⟩ := kw_rules HB.out hNW
  go_enter Try.func4, Try.ntmps4
  go_wp2_with (go_at_call 6; (with_reducible refine (heavy10_as false W H _ (some ⟨tb, toff, none⟩) _ n fc tn tc n pc _ hfn htn hpn HV).mono ?_); rintro e z ⟨rfl, hb⟩; replace HB := Hk.mk (kw_step HB.out hNW hb); clear hb; clear hc hf hl hn' hm; obtain ⟨hc, hf, hl, hn', hm⟩ := kw_rules HB.out hNW)
  obtain ⟨M0, hM0⟩ : ∃ M : Nat, M = min tn 10 := ⟨_, rfl⟩
  go_loopw [3] (fun i wr => ∃ k : Nat, i = .int .i64 k ∧ k ≤ M0 ∧ Hk (Below (w.heap.size + 1) (w.alloc (.cells #[.int .i64 W, .int .i64 H, .slice (some ⟨fb, fo, none⟩) n fc, .slice (some ⟨tb, toff, none⟩) tn tc, .slice (some ⟨pb, po, none⟩) n pc] 25)) wr)) (fun i _ => M0 - (intOf i).toNat)
  case atStart => exact ⟨0, rfl, by omega, HB⟩
  case round =>
    clear HB
    obtain ⟨k, rfl, hk, HB⟩ := hrel
    clear hc hf hl hn' hm
    obtain ⟨hc, hf, hl, hn', hm⟩ := kw_rules HB.out hNW
    have k0 : (0 : Int) ≤ (k : Int) := by omega
    by_cases hlt : k < tn
    · have k1 : (k : Int) < (tn : Int) := by omega
      have dk : decide ((k : Int) < (tn : Int)) = true := by simpa using hlt
      by_cases hlt2 : k < 10
      · have k2 : (k : Int) < 10 := by omega
        have dk3 : decide ((k : Int) < 10) = true := by simp; omega
        obtain ⟨tb', toff', hta, htb, hcell⟩ := hts.rd (by omega)
        injection hta with hta
        injection hta with hta1 hta2
        subst hta1 hta2
        have tc0 := hcell k hlt
        have htb1 : tb < w.heap.size + 1 := by omega
        obtain ⟨q, hqe⟩ : ∃ q, ts.getD k 0 = q := ⟨_, rfl⟩
        rw [hqe] at tc0
        clear hqe hcell
        by_cases q0 : q < 0
        · have QB : Hk (q < 0 ∨ (n : Int) ≤ q) := ⟨Or.inl q0⟩
          have d0 : decide (q < 0) = true := decide_eq_true q0
          as_aux_lemma =>
            go_upto_region 9 with (go_at_call 7; (with_reducible refine (form10_yes W H _ (some ⟨tb, toff, none⟩) _ n fc tn tc n pc _ MM).mono ?_); rintro e z ⟨rfl, hb⟩; replace HB := Hk.mk (kw_step HB.out hNW hb); clear hb; clear hc hf hl hn' hm; obtain ⟨hc, hf, hl, hn', hm⟩ := kw_rules HB.out hNW)
            go_quiet (fail)
            clear hc hf hl hn' hm
            replace HB := Hk.mk (below_drewN HB.out nq)
            generalize World.drewN _ nq = VR at *
            obtain ⟨hc, hf, hl, hn', hm⟩ := kw_rules HB.out hNW
            go_upto_region 14 with (go_at_call 17; (with_reducible refine (copyi_any _ n pc ps _ ((HPS.out _ HB.out).mono (hszA HB.out)) (by omega)).mono ?_); rintro e z ⟨v, rfl, ho, hb⟩; obtain ⟨a2, c2, rfl, hc2, hq2⟩ := ho.nq; have HQ2 := Hk.mk hq2; clear ho hq2 hc2; replace HB := Hk.mk (kw_step HB.out hNW hb); clear hb; clear hc hf hl hn' hm; obtain ⟨hc, hf, hl, hn', hm⟩ := kw_rules HB.out hNW)
            refine wp_region_held_drew (S := (fun X => (∀ b o, b < (w.heap.size + 1) → X.cell? ⟨b, o, none⟩ = ((w.alloc (.cells #[.int .i64 W, .int .i64 H, .slice (some ⟨fb, fo, none⟩) n fc, .slice (some ⟨tb, toff, none⟩) tn tc, .slice (some ⟨pb, po, none⟩) n pc] 25))).cell? ⟨b, o, none⟩) ∧ Below (w.heap.size + 1) (w.alloc (.cells #[.int .i64 W, .int .i64 H, .slice (some ⟨fb, fo, none⟩) n fc, .slice (some ⟨tb, toff, none⟩) tn tc, .slice (some ⟨pb, po, none⟩) n pc] 25)) X)) (by kernel_rfl) ?_ (fun hHeld => ?_)
            · exact kw_S (kw_drew HB.out)
            refine wpAnyH_take (i := 0) (v := ?_) rfl (by kernel_rfl) (by kernel_rfl) (by kernel_rfl) (fun _ _ _ h => h) (Or.inl ⟨by rfl, fun wX hSw => ?_⟩) (by assumption) ?_
            rotate_left
            · (try dsimp only at hSw); go_simp; try with_reducible rfl
            (try simp only [Act.put, List.getElem_toArray, List.getElem_cons_succ, List.getElem_cons_zero, List.setIfInBounds_toArray, List.set_cons_zero, List.set_cons_succ])
            refine wpAnyH_take (i := 1) (v := ?_) rfl (by kernel_rfl) (by kernel_rfl) (by kernel_rfl) (fun _ _ _ h => h) (Or.inl ⟨by rfl, fun wX hSw => ?_⟩) (by assumption) ?_
            rotate_left
            · (try dsimp only at hSw); go_simp; try with_reducible rfl
            (try simp only [Act.put, List.getElem_toArray, List.getElem_cons_succ, List.getElem_cons_zero, List.setIfInBounds_toArray, List.set_cons_zero, List.set_cons_succ])
            refine wpAnyH_take (i := 2) (v := ?_) rfl (by kernel_rfl) (by kernel_rfl) (by kernel_rfl) (fun _ _ _ h => h) (Or.inl ⟨by rfl, fun wX hSw => ?_⟩) (by assumption) ?_
            rotate_left
            · (try dsimp only at hSw); go_simp; try with_reducible rfl
            (try simp only [Act.put, List.getElem_toArray, List.getElem_cons_succ, List.getElem_cons_zero, List.setIfInBounds_toArray, List.set_cons_zero, List.set_cons_succ])
            refine wpAnyH_take (i := 3) (v := ?_) rfl (by kernel_rfl) (by kernel_rfl) (by kernel_rfl) (fun _ _ _ h => h) (Or.inl ⟨by rfl, fun wX hSw => ?_⟩) (by assumption) ?_
            rotate_left
            · (try dsimp only at hSw); go_simp; try with_reducible rfl
            (try simp only [Act.put, List.getElem_toArray, List.getElem_cons_succ, List.getElem_cons_zero, List.setIfInBounds_toArray, List.set_cons_zero, List.set_cons_succ])
            refine wpAnyH_take (i := 4) (v := ?_) rfl (by kernel_rfl) (by kernel_rfl) (by kernel_rfl) (fun _ _ _ h => h) (Or.inl ⟨by rfl, fun wX hSw => ?_⟩) (by assumption) ?_
            rotate_left
            · (try dsimp only at hSw); go_simp; try with_reducible rfl
            (try simp only [Act.put, List.getElem_toArray, List.getElem_cons_succ, List.getElem_cons_zero, List.setIfInBounds_toArray, List.set_cons_zero, List.set_cons_succ])
            refine wpAnyH_take (i := 5) (v := ?_) rfl (by kernel_rfl) (by kernel_rfl) (by kernel_rfl) (fun _ _ _ h => h) (Or.inl ⟨by rfl, fun wX hSw => ?_⟩) (by assumption) ?_
            rotate_left
            · (try dsimp only at hSw); go_simp; try with_reducible rfl
            (try simp only [Act.put, List.getElem_toArray, List.getElem_cons_succ, List.getElem_cons_zero, List.setIfInBounds_toArray, List.set_cons_zero, List.set_cons_succ])
            refine wpAnyH_take (i := 6) (v := ?_) rfl (by kernel_rfl) (by kernel_rfl) (by kernel_rfl) (fun _ _ _ h => h) (Or.inl ⟨by rfl, fun wX hSw => ?_⟩) (by assumption) ?_
            rotate_left
            · (try dsimp only at hSw); go_simp; try with_reducible rfl
            (try simp only [Act.put, List.getElem_toArray, List.getElem_cons_succ, List.getElem_cons_zero, List.setIfInBounds_toArray, List.set_cons_zero, List.set_cons_succ])
            refine wpAnyH_take (i := 7) (v := ?_) rfl (by kernel_rfl) (by kernel_rfl) (by kernel_rfl) (fun _ _ _ h => h) (Or.inl ⟨by rfl, fun wX hSw => ?_⟩) (by assumption) ?_
            rotate_left
            · (try dsimp only at hSw); go_simp; try with_reducible rfl
            (try simp only [Act.put, List.getElem_toArray, List.getElem_cons_succ, List.getElem_cons_zero, List.setIfInBounds_toArray, List.set_cons_zero, List.set_cons_succ])
            refine wpAnyH_take (i := 8) (v := ?_) rfl (by kernel_rfl) (by kernel_rfl) (by kernel_rfl) (fun _ _ _ h => h) (Or.inl ⟨by rfl, fun wX hSw => ?_⟩) (by assumption) ?_
            rotate_left
            · (try dsimp only at hSw); go_simp; try with_reducible rfl
            (try simp only [Act.put, List.getElem_toArray, List.getElem_cons_succ, List.getElem_cons_zero, List.setIfInBounds_toArray, List.set_cons_zero, List.set_cons_succ])
            refine wpAnyH_take (i := 9) (v := ?_) rfl (by kernel_rfl) (by kernel_rfl) (by kernel_rfl) (fun _ _ _ h => h) (Or.inl ⟨by rfl, fun wX hSw => ?_⟩) (by assumption) ?_
            rotate_left
            · (try dsimp only at hSw); go_simp; try with_reducible rfl
            (try simp only [Act.put, List.getElem_toArray, List.getElem_cons_succ, List.getElem_cons_zero, List.setIfInBounds_toArray, List.set_cons_zero, List.set_cons_succ])
            refine wpAnyH_take (i := 10) (v := ?_) rfl (by kernel_rfl) (by kernel_rfl) (by kernel_rfl) (fun _ _ _ h => h) (Or.inl ⟨by rfl, fun wX hSw => ?_⟩) (by assumption) ?_
            rotate_left
            · (try dsimp only at hSw); go_simp; try with_reducible rfl
            (try simp only [Act.put, List.getElem_toArray, List.getElem_cons_succ, List.getElem_cons_zero, List.setIfInBounds_toArray, List.set_cons_zero, List.set_cons_succ])
            refine wpAnyH_take (i := 11) (v := ?_) rfl (by kernel_rfl) (by kernel_rfl) (by kernel_rfl) (fun _ _ _ h => h) (Or.inl ⟨by rfl, fun wX hSw => ?_⟩) (by assumption) ?_
            rotate_left
            · (try dsimp only at hSw); go_simp; try with_reducible rfl
            (try simp only [Act.put, List.getElem_toArray, List.getElem_cons_succ, List.getElem_cons_zero, List.setIfInBounds_toArray, List.set_cons_zero, List.set_cons_succ])
            refine wpAnyH_ready (rs := [12]) (by kernel_rfl) (by simp) ?_
            refine AllReadyH.cons rfl (fun K hK => ?_) (AllReadyH.nil)
            go_simp
            ((go_at_call 18; (with_reducible refine (sredo_none W H q _ a2 n fc c2 _ MM QB).mono ?_); rintro e z ⟨rfl, hb⟩; have HQ3 : Hk (Nq z z.heap.size a2 n ps) := ⟨by first | exact nq_later10 HQ2.out hb | exact nq_later10 (nqD10 HQ2.out) hb⟩; replace HQ2 := HQ3; clear HQ3; have hB2 : Hk (Below (w.heap.size + 1) (w.alloc (.cells #[.int .i64 W, .int .i64 H, .slice (some ⟨fb, fo, none⟩) n fc, .slice (some ⟨tb, toff, none⟩) tn tc, .slice (some ⟨pb, po, none⟩) n pc] 25)) z) := ⟨by first | exact kw_step HB.out hNW hb | exact kw_step HB.out.drew hNW hb⟩; clear hb; replace HB := hB2; clear hB2; clear hc hf hl hn' hm; obtain ⟨hc, hf, hl, hn', hm⟩ := kw_rules HB.out hNW))
            refine hK.out _ _ ?_ (fun hHeld => ?_)
            · exact kw_S HB.out
            clear hK K
            (try simp only [Act.put, List.getElem_toArray, List.getElem_cons_succ, List.getElem_cons_zero, List.setIfInBounds_toArray, List.set_cons_zero, List.set_cons_succ])
            refine wpAnyH_take (i := 13) (v := ?_) rfl (by kernel_rfl) (by kernel_rfl) (by kernel_rfl) (fun _ _ _ h => h) (Or.inl ⟨by rfl, fun wX hSw => ?_⟩) (by assumption) ?_
            rotate_left
            · (try dsimp only at hSw); go_simp; try with_reducible rfl
            (try simp only [Act.put, List.getElem_toArray, List.getElem_cons_succ, List.getElem_cons_zero, List.setIfInBounds_toArray, List.set_cons_zero, List.set_cons_succ])
            refine wpAnyH_take (i := 14) (v := ?_) rfl (by kernel_rfl) (by kernel_rfl) (by kernel_rfl) (fun _ _ _ h => h) (Or.inl ⟨by rfl, fun wX hSw => ?_⟩) (by assumption) ?_
            rotate_left
            · (try dsimp only at hSw); go_simp; try with_reducible rfl
            (try simp only [Act.put, List.getElem_toArray, List.getElem_cons_succ, List.getElem_cons_zero, List.setIfInBounds_toArray, List.set_cons_zero, List.set_cons_succ])
            refine wpAnyH_take (i := 15) (v := ?_) rfl (by kernel_rfl) (by kernel_rfl) (by kernel_rfl) (fun _ _ _ h => h) (Or.inl ⟨by rfl, fun wX hSw => ?_⟩) (by assumption) ?_
            rotate_left
            · (try dsimp only at hSw); go_simp; try with_reducible rfl
            (try simp only [Act.put, List.getElem_toArray, List.getElem_cons_succ, List.getElem_cons_zero, List.setIfInBounds_toArray, List.set_cons_zero, List.set_cons_succ])
            refine wpAnyH_take (i := 16) (v := ?_) rfl (by kernel_rfl) (by kernel_rfl) (by kernel_rfl) (fun _ _ _ h => h) (Or.inl ⟨by rfl, fun wX hSw => ?_⟩) (by assumption) ?_
            rotate_left
            · (try dsimp only at hSw); go_simp; try with_reducible rfl
            (try simp only [Act.put, List.getElem_toArray, List.getElem_cons_succ, List.getElem_cons_zero, List.setIfInBounds_toArray, List.set_cons_zero, List.set_cons_succ])
            refine wpAnyH_take (i := 17) (v := ?_) rfl (by kernel_rfl) (by kernel_rfl) (by kernel_rfl) (fun _ _ _ h => h) (Or.inl ⟨by rfl, fun wX hSw => ?_⟩) (by assumption) ?_
            rotate_left
            · (try dsimp only at hSw); go_simp; try with_reducible rfl
            (try simp only [Act.put, List.getElem_toArray, List.getElem_cons_succ, List.getElem_cons_zero, List.setIfInBounds_toArray, List.set_cons_zero, List.set_cons_succ])
            refine wpAnyH_done (by kernel_rfl) ?_ _
            as_aux_lemma =>
              go_wp2_with (first | (go_at_call 11; (with_reducible refine (num10_any _ _).mono ?_); rintro e z ⟨rfl, rfl⟩) | (go_at_call 12; (with_reducible refine (eqn_yes none none 0 0 0 0 0 [] _ (Nq.nil _ _ _) (Nq.nil _ _ _) (by omega)).mono ?_); rintro e z ⟨rfl, mm, hz⟩; replace HQ2 := Hk.mk (nq_to HQ2.out hz); replace HB := Hk.mk (below_to HB.out hz); clear hz; clear hc hf hl hn' hm; obtain ⟨hc, hf, hl, hn', hm⟩ := kw_rules HB.out hNW) | (go_at_call 12; (with_reducible refine (eqn_yes a2 _ n c2 pc _ _ ps _ HQ2.out (HPS.out _ HB.out) (by omega)).mono ?_); rintro e z ⟨rfl, mm, hz⟩; replace HB := Hk.mk (below_to HB.out hz); clear hz; clear hc hf hl hn' hm; obtain ⟨hc, hf, hl, hn', hm⟩ := kw_rules HB.out hNW))
              exact ⟨⟨k + 1, by go_num, by omega, HB⟩, by simp [intOf]; omega⟩
        · have d0 : decide (q < 0) = false := decide_eq_false q0
          by_cases q1 : (n : Int) ≤ q
          · have QB : Hk (q < 0 ∨ (n : Int) ≤ q) := ⟨Or.inr q1⟩
            have d1 : decide ((n : Int) ≤ q) = true := decide_eq_true q1
            as_aux_lemma =>
              go_upto_region 9 with (go_at_call 7; (with_reducible refine (form10_yes W H _ (some ⟨tb, toff, none⟩) _ n fc tn tc n pc _ MM).mono ?_); rintro e z ⟨rfl, hb⟩; replace HB := Hk.mk (kw_step HB.out hNW hb); clear hb; clear hc hf hl hn' hm; obtain ⟨hc, hf, hl, hn', hm⟩ := kw_rules HB.out hNW)
              go_quiet (fail)
              clear hc hf hl hn' hm
              replace HB := Hk.mk (below_drewN HB.out nq)
              generalize World.drewN _ nq = VR at *
              obtain ⟨hc, hf, hl, hn', hm⟩ := kw_rules HB.out hNW
              go_upto_region 14 with (go_at_call 17; (with_reducible refine (copyi_any _ n pc ps _ ((HPS.out _ HB.out).mono (hszA HB.out)) (by omega)).mono ?_); rintro e z ⟨v, rfl, ho, hb⟩; obtain ⟨a2, c2, rfl, hc2, hq2⟩ := ho.nq; have HQ2 := Hk.mk hq2; clear ho hq2 hc2; replace HB := Hk.mk (kw_step HB.out hNW hb); clear hb; clear hc hf hl hn' hm; obtain ⟨hc, hf, hl, hn', hm⟩ := kw_rules HB.out hNW)
              refine wp_region_held_drew (S := (fun X => (∀ b o, b < (w.heap.size + 1) → X.cell? ⟨b, o, none⟩ = ((w.alloc (.cells #[.int .i64 W, .int .i64 H, .slice (some ⟨fb, fo, none⟩) n fc, .slice (some ⟨tb, toff, none⟩) tn tc, .slice (some ⟨pb, po, none⟩) n pc] 25))).cell? ⟨b, o, none⟩) ∧ Below (w.heap.size + 1) (w.alloc (.cells #[.int .i64 W, .int .i64 H, .slice (some ⟨fb, fo, none⟩) n fc, .slice (some ⟨tb, toff, none⟩) tn tc, .slice (some ⟨pb, po, none⟩) n pc] 25)) X)) (by kernel_rfl) ?_ (fun hHeld => ?_)
              · exact kw_S (kw_drew HB.out)
              refine wpAnyH_take (i := 0) (v := ?_) rfl (by kernel_rfl) (by kernel_rfl) (by kernel_rfl) (fun _ _ _ h => h) (Or.inl ⟨by rfl, fun wX hSw => ?_⟩) (by assumption) ?_
              rotate_left
              · (try dsimp only at hSw); go_simp; try with_reducible rfl
              (try simp only [Act.put, List.getElem_toArray, List.getElem_cons_succ, List.getElem_cons_zero, List.setIfInBounds_toArray, List.set_cons_zero, List.set_cons_succ])
              refine wpAnyH_take (i := 1) (v := ?_) rfl (by kernel_rfl) (by kernel_rfl) (by kernel_rfl) (fun _ _ _ h => h) (Or.inl ⟨by rfl, fun wX hSw => ?_⟩) (by assumption) ?_
              rotate_left
              · (try dsimp only at hSw); go_simp; try with_reducible rfl
              (try simp only [Act.put, List.getElem_toArray, List.getElem_cons_succ, List.getElem_cons_zero, List.setIfInBounds_toArray, List.set_cons_zero, List.set_cons_succ])
              refine wpAnyH_take (i := 2) (v := ?_) rfl (by kernel_rfl) (by kernel_rfl) (by kernel_rfl) (fun _ _ _ h => h) (Or.inl ⟨by rfl, fun wX hSw => ?_⟩) (by assumption) ?_
              rotate_left
              · (try dsimp only at hSw); go_simp; try with_reducible rfl
              (try simp only [Act.put, List.getElem_toArray, List.getElem_cons_succ, List.getElem_cons_zero, List.setIfInBounds_toArray, List.set_cons_zero, List.set_cons_succ])
              refine wpAnyH_take (i := 3) (v := ?_) rfl (by kernel_rfl) (by kernel_rfl) (by kernel_rfl) (fun _ _ _ h => h) (Or.inl ⟨by rfl, fun wX hSw => ?_⟩) (by assumption) ?_
              rotate_left
              · (try dsimp only at hSw); go_simp; try with_reducible rfl
              (try simp only [Act.put, List.getElem_toArray, List.getElem_cons_succ, List.getElem_cons_zero, List.setIfInBounds_toArray, List.set_cons_zero, List.set_cons_succ])
              refine wpAnyH_take (i := 4) (v := ?_) rfl (by kernel_rfl) (by kernel_rfl) (by kernel_rfl) (fun _ _ _ h => h) (Or.inl ⟨by rfl, fun wX hSw => ?_⟩) (by assumption) ?_
              rotate_left
              · (try dsimp only at hSw); go_simp; try with_reducible rfl
              (try simp only [Act.put, List.getElem_toArray, List.getElem_cons_succ, List.getElem_cons_zero, List.setIfInBounds_toArray, List.set_cons_zero, List.set_cons_succ])
              refine wpAnyH_take (i := 5) (v := ?_) rfl (by kernel_rfl) (by kernel_rfl) (by kernel_rfl) (fun _ _ _ h => h) (Or.inl ⟨by rfl, fun wX hSw => ?_⟩) (by assumption) ?_
              rotate_left
              · (try dsimp only at hSw); go_simp; try with_reducible rfl
              (try simp only [Act.put, List.getElem_toArray, List.getElem_cons_succ, List.getElem_cons_zero, List.setIfInBounds_toArray, List.set_cons_zero, List.set_cons_succ])
              refine wpAnyH_take (i := 6) (v := ?_) rfl (by kernel_rfl) (by kernel_rfl) (by kernel_rfl) (fun _ _ _ h => h) (Or.inl ⟨by rfl, fun wX hSw => ?_⟩) (by assumption) ?_
              rotate_left
              · (try dsimp only at hSw); go_simp; try with_reducible rfl
              (try simp only [Act.put, List.getElem_toArray, List.getElem_cons_succ, List.getElem_cons_zero, List.setIfInBounds_toArray, List.set_cons_zero, List.set_cons_succ])
              refine wpAnyH_take (i := 7) (v := ?_) rfl (by kernel_rfl) (by kernel_rfl) (by kernel_rfl) (fun _ _ _ h => h) (Or.inl ⟨by rfl, fun wX hSw => ?_⟩) (by assumption) ?_
              rotate_left
              · (try dsimp only at hSw); go_simp; try with_reducible rfl
              (try simp only [Act.put, List.getElem_toArray, List.getElem_cons_succ, List.getElem_cons_zero, List.setIfInBounds_toArray, List.set_cons_zero, List.set_cons_succ])
              refine wpAnyH_take (i := 8) (v := ?_) rfl (by kernel_rfl) (by kernel_rfl) (by kernel_rfl) (fun _ _ _ h => h) (Or.inl ⟨by rfl, fun wX hSw => ?_⟩) (by assumption) ?_
              rotate_left
              · (try dsimp only at hSw); go_simp; try with_reducible rfl
              (try simp only [Act.put, List.getElem_toArray, List.getElem_cons_succ, List.getElem_cons_zero, List.setIfInBounds_toArray, List.set_cons_zero, List.set_cons_succ])
              refine wpAnyH_take (i := 9) (v := ?_) rfl (by kernel_rfl) (by kernel_rfl) (by kernel_rfl) (fun _ _ _ h => h) (Or.inl ⟨by rfl, fun wX hSw => ?_⟩) (by assumption) ?_
              rotate_left
              · (try dsimp only at hSw); go_simp; try with_reducible rfl
              (try simp only [Act.put, List.getElem_toArray, List.getElem_cons_succ, List.getElem_cons_zero, List.setIfInBounds_toArray, List.set_cons_zero, List.set_cons_succ])
              refine wpAnyH_take (i := 10) (v := ?_) rfl (by kernel_rfl) (by kernel_rfl) (by kernel_rfl) (fun _ _ _ h => h) (Or.inl ⟨by rfl, fun wX hSw => ?_⟩) (by assumption) ?_
              rotate_left
              · (try dsimp only at hSw); go_simp; try with_reducible rfl
              (try simp only [Act.put, List.getElem_toArray, List.getElem_cons_succ, List.getElem_cons_zero, List.setIfInBounds_toArray, List.set_cons_zero, List.set_cons_succ])
              refine wpAnyH_take (i := 11) (v := ?_) rfl (by kernel_rfl) (by kernel_rfl) (by kernel_rfl) (fun _ _ _ h => h) (Or.inl ⟨by rfl, fun wX hSw => ?_⟩) (by assumption) ?_
              rotate_left
              · (try dsimp only at hSw); go_simp; try with_reducible rfl
              (try simp only [Act.put, List.getElem_toArray, List.getElem_cons_succ, List.getElem_cons_zero, List.setIfInBounds_toArray, List.set_cons_zero, List.set_cons_succ])
              refine wpAnyH_ready (rs := [12]) (by kernel_rfl) (by simp) ?_
              refine AllReadyH.cons rfl (fun K hK => ?_) (AllReadyH.nil)
              go_simp
              ((go_at_call 18; (with_reducible refine (sredo_none W H q _ a2 n fc c2 _ MM QB).mono ?_); rintro e z ⟨rfl, hb⟩; have HQ3 : Hk (Nq z z.heap.size a2 n ps) := ⟨by first | exact nq_later10 HQ2.out hb | exact nq_later10 (nqD10 HQ2.out) hb⟩; replace HQ2 := HQ3; clear HQ3; have hB2 : Hk (Below (w.heap.size + 1) (w.alloc (.cells #[.int .i64 W, .int .i64 H, .slice (some ⟨fb, fo, none⟩) n fc, .slice (some ⟨tb, toff, none⟩) tn tc, .slice (some ⟨pb, po, none⟩) n pc] 25)) z) := ⟨by first | exact kw_step HB.out hNW hb | exact kw_step HB.out.drew hNW hb⟩; clear hb; replace HB := hB2; clear hB2; clear hc hf hl hn' hm; obtain ⟨hc, hf, hl, hn', hm⟩ := kw_rules HB.out hNW))
              refine hK.out _ _ ?_ (fun hHeld => ?_)
              · exact kw_S HB.out
              clear hK K
              (try simp only [Act.put, List.getElem_toArray, List.getElem_cons_succ, List.getElem_cons_zero, List.setIfInBounds_toArray, List.set_cons_zero, List.set_cons_succ])
              refine wpAnyH_take (i := 13) (v := ?_) rfl (by kernel_rfl) (by kernel_rfl) (by kernel_rfl) (fun _ _ _ h => h) (Or.inl ⟨by rfl, fun wX hSw => ?_⟩) (by assumption) ?_
              rotate_left
              · (try dsimp only at hSw); go_simp; try with_reducible rfl
              (try simp only [Act.put, List.getElem_toArray, List.getElem_cons_succ, List.getElem_cons_zero, List.setIfInBounds_toArray, List.set_cons_zero, List.set_cons_succ])
              refine wpAnyH_take (i := 14) (v := ?_) rfl (by kernel_rfl) (by kernel_rfl) (by kernel_rfl) (fun _ _ _ h => h) (Or.inl ⟨by rfl, fun wX hSw => ?_⟩) (by assumption) ?_
              rotate_left
              · (try dsimp only at hSw); go_simp; try with_reducible rfl
              (try simp only [Act.put, List.getElem_toArray, List.getElem_cons_succ, List.getElem_cons_zero, List.setIfInBounds_toArray, List.set_cons_zero, List.set_cons_succ])
              refine wpAnyH_take (i := 15) (v := ?_) rfl (by kernel_rfl) (by kernel_rfl) (by kernel_rfl) (fun _ _ _ h => h) (Or.inl ⟨by rfl, fun wX hSw => ?_⟩) (by assumption) ?_
              rotate_left
              · (try dsimp only at hSw); go_simp; try with_reducible rfl
              (try simp only [Act.put, List.getElem_toArray, List.getElem_cons_succ, List.getElem_cons_zero, List.setIfInBounds_toArray, List.set_cons_zero, List.set_cons_succ])
              refine wpAnyH_take (i := 16) (v := ?_) rfl (by kernel_rfl) (by kernel_rfl) (by kernel_rfl) (fun _ _ _ h => h) (Or.inl ⟨by rfl, fun wX hSw => ?_⟩) (by assumption) ?_
              rotate_left
              · (try dsimp only at hSw); go_simp; try with_reducible rfl
              (try simp only [Act.put, List.getElem_toArray, List.getElem_cons_succ, List.getElem_cons_zero, List.setIfInBounds_toArray, List.set_cons_zero, List.set_cons_succ])
              refine wpAnyH_take (i := 17) (v := ?_) rfl (by kernel_rfl) (by kernel_rfl) (by kernel_rfl) (fun _ _ _ h => h) (Or.inl ⟨by rfl, fun wX hSw => ?_⟩) (by assumption) ?_
              rotate_left
              · (try dsimp only at hSw); go_simp; try with_reducible rfl
              (try simp only [Act.put, List.getElem_toArray, List.getElem_cons_succ, List.getElem_cons_zero, List.setIfInBounds_toArray, List.set_cons_zero, List.set_cons_succ])
              refine wpAnyH_done (by kernel_rfl) ?_ _
              as_aux_lemma =>
                go_wp2_with (first | (go_at_call 11; (with_reducible refine (num10_any _ _).mono ?_); rintro e z ⟨rfl, rfl⟩) | (go_at_call 12; (with_reducible refine (eqn_yes none none 0 0 0 0 0 [] _ (Nq.nil _ _ _) (Nq.nil _ _ _) (by omega)).mono ?_); rintro e z ⟨rfl, mm, hz⟩; replace HQ2 := Hk.mk (nq_to HQ2.out hz); replace HB := Hk.mk (below_to HB.out hz); clear hz; clear hc hf hl hn' hm; obtain ⟨hc, hf, hl, hn', hm⟩ := kw_rules HB.out hNW) | (go_at_call 12; (with_reducible refine (eqn_yes a2 _ n c2 pc _ _ ps _ HQ2.out (HPS.out _ HB.out) (by omega)).mono ?_); rintro e z ⟨rfl, mm, hz⟩; replace HB := Hk.mk (below_to HB.out hz); clear hz; clear hc hf hl hn' hm; obtain ⟨hc, hf, hl, hn', hm⟩ := kw_rules HB.out hNW))
                exact ⟨⟨k + 1, by go_num, by omega, HB⟩, by simp [intOf]; omega⟩
          · obtain ⟨t, rfl⟩ : ∃ t : Nat, q = t := ⟨q.toNat, by omega⟩
            have htn2 : t < n := by omega
            have d1 : decide ((n : Int) ≤ (t : Int)) = false := decide_eq_false q1
            have d1n : decide (n ≤ t) = false := decide_eq_false (by omega)
            clear q0 q1
            as_aux_lemma =>
              go_upto_region 9 with (go_at_call 7; (with_reducible refine (form10_yes W H _ (some ⟨tb, toff, none⟩) _ n fc tn tc n pc _ MM).mono ?_); rintro e z ⟨rfl, hb⟩; replace HB := Hk.mk (kw_step HB.out hNW hb); clear hb; clear hc hf hl hn' hm; obtain ⟨hc, hf, hl, hn', hm⟩ := kw_rules HB.out hNW)
              go_quiet (fail)
              clear hc hf hl hn' hm
              replace HB := Hk.mk (below_drewN HB.out nq)
              generalize World.drewN _ nq = VR at *
              obtain ⟨hc, hf, hl, hn', hm⟩ := kw_rules HB.out hNW
              go_upto_region 12 with fail
              refine wp_region_held_drew (S := (fun X => (∀ b o, b < (w.heap.size + 1) → X.cell? ⟨b, o, none⟩ = ((w.alloc (.cells #[.int .i64 W, .int .i64 H, .slice (some ⟨fb, fo, none⟩) n fc, .slice (some ⟨tb, toff, none⟩) tn tc, .slice (some ⟨pb, po, none⟩) n pc] 25))).cell? ⟨b, o, none⟩) ∧ Below (w.heap.size + 1) (w.alloc (.cells #[.int .i64 W, .int .i64 H, .slice (some ⟨fb, fo, none⟩) n fc, .slice (some ⟨tb, toff, none⟩) tn tc, .slice (some ⟨pb, po, none⟩) n pc] 25)) X)) (by kernel_rfl) ?_ (fun hHeld => ?_)
              · exact kw_S (kw_drew HB.out)
              refine wpAnyH_take (i := 0) (v := ?_) rfl (by kernel_rfl) (by kernel_rfl) (by kernel_rfl) (fun _ _ _ h => h) (Or.inl ⟨by rfl, fun wX hSw => ?_⟩) (by assumption) ?_
              rotate_left
              · (try dsimp only at hSw); go_simp; try with_reducible rfl
              (try simp only [Act.put, List.getElem_toArray, List.getElem_cons_succ, List.getElem_cons_zero, List.setIfInBounds_toArray, List.set_cons_zero, List.set_cons_succ])
              refine wpAnyH_take (i := 1) (v := ?_) rfl (by kernel_rfl) (by kernel_rfl) (by kernel_rfl) (fun _ _ _ h => h) (Or.inl ⟨by rfl, fun wX hSw => ?_⟩) (by assumption) ?_
              rotate_left
              · (try dsimp only at hSw); go_simp; try with_reducible rfl
              (try simp only [Act.put, List.getElem_toArray, List.getElem_cons_succ, List.getElem_cons_zero, List.setIfInBounds_toArray, List.set_cons_zero, List.set_cons_succ])
              refine wpAnyH_take (i := 2) (v := ?_) rfl (by kernel_rfl) (by kernel_rfl) (by kernel_rfl) (fun _ _ _ h => h) (Or.inl ⟨by rfl, fun wX hSw => ?_⟩) (by assumption) ?_
              rotate_left
              · (try dsimp only at hSw); go_simp; try with_reducible rfl
              (try simp only [Act.put, List.getElem_toArray, List.getElem_cons_succ, List.getElem_cons_zero, List.setIfInBounds_toArray, List.set_cons_zero, List.set_cons_succ])
              refine wpAnyH_take (i := 3) (v := ?_) rfl (by kernel_rfl) (by kernel_rfl) (by kernel_rfl) (fun _ _ _ h => h) (Or.inl ⟨by rfl, fun wX hSw => ?_⟩) (by assumption) ?_
              rotate_left
              · (try dsimp only at hSw); go_simp; try with_reducible rfl
              (try simp only [Act.put, List.getElem_toArray, List.getElem_cons_succ, List.getElem_cons_zero, List.setIfInBounds_toArray, List.set_cons_zero, List.set_cons_succ])
              refine wpAnyH_take (i := 4) (v := ?_) rfl (by kernel_rfl) (by kernel_rfl) (by kernel_rfl) (fun _ _ _ h => h) (Or.inl ⟨by rfl, fun wX hSw => ?_⟩) (by assumption) ?_
              rotate_left
              · (try dsimp only at hSw); go_simp; try with_reducible rfl
              (try simp only [Act.put, List.getElem_toArray, List.getElem_cons_succ, List.getElem_cons_zero, List.setIfInBounds_toArray, List.set_cons_zero, List.set_cons_succ])
              refine wpAnyH_take (i := 5) (v := ?_) rfl (by kernel_rfl) (by kernel_rfl) (by kernel_rfl) (fun _ _ _ h => h) (Or.inl ⟨by rfl, fun wX hSw => ?_⟩) (by assumption) ?_
              rotate_left
              · (try dsimp only at hSw); go_simp; try with_reducible rfl
              (try simp only [Act.put, List.getElem_toArray, List.getElem_cons_succ, List.getElem_cons_zero, List.setIfInBounds_toArray, List.set_cons_zero, List.set_cons_succ])
              refine wpAnyH_take (i := 6) (v := ?_) rfl (by kernel_rfl) (by kernel_rfl) (by kernel_rfl) (fun _ _ _ h => h) (Or.inl ⟨by rfl, fun wX hSw => ?_⟩) (by assumption) ?_
              rotate_left
              · (try dsimp only at hSw); go_simp; try with_reducible rfl
              (try simp only [Act.put, List.getElem_toArray, List.getElem_cons_succ, List.getElem_cons_zero, List.setIfInBounds_toArray, List.set_cons_zero, List.set_cons_succ])
              refine wpAnyH_take (i := 7) (v := ?_) rfl (by kernel_rfl) (by kernel_rfl) (by kernel_rfl) (fun _ _ _ h => h) (Or.inl ⟨by rfl, fun wX hSw => ?_⟩) (by assumption) ?_
              rotate_left
              · (try dsimp only at hSw); go_simp; try with_reducible rfl
              (try simp only [Act.put, List.getElem_toArray, List.getElem_cons_succ, List.getElem_cons_zero, List.setIfInBounds_toArray, List.set_cons_zero, List.set_cons_succ])
              refine wpAnyH_take (i := 8) (v := ?_) rfl (by kernel_rfl) (by kernel_rfl) (by kernel_rfl) (fun _ _ _ h => h) (Or.inl ⟨by rfl, fun wX hSw => ?_⟩) (by assumption) ?_
              rotate_left
              · (try dsimp only at hSw); go_simp; try with_reducible rfl
              (try simp only [Act.put, List.getElem_toArray, List.getElem_cons_succ, List.getElem_cons_zero, List.setIfInBounds_toArray, List.set_cons_zero, List.set_cons_succ])
              refine wpAnyH_take (i := 9) (v := ?_) rfl (by kernel_rfl) (by kernel_rfl) (by kernel_rfl) (fun _ _ _ h => h) (Or.inl ⟨by rfl, fun wX hSw => ?_⟩) (by assumption) ?_
              rotate_left
              · (try dsimp only at hSw); go_simp; try with_reducible rfl
              (try simp only [Act.put, List.getElem_toArray, List.getElem_cons_succ, List.getElem_cons_zero, List.setIfInBounds_toArray, List.set_cons_zero, List.set_cons_succ])
              refine wpAnyH_take (i := 10) (v := ?_) rfl (by kernel_rfl) (by kernel_rfl) (by kernel_rfl) (fun _ _ _ h => h) (Or.inl ⟨by rfl, fun wX hSw => ?_⟩) (by assumption) ?_
              rotate_left
              · (try dsimp only at hSw); go_simp; try with_reducible rfl
              (try simp only [Act.put, List.getElem_toArray, List.getElem_cons_succ, List.getElem_cons_zero, List.setIfInBounds_toArray, List.set_cons_zero, List.set_cons_succ])
              refine wpAnyH_take (i := 11) (v := ?_) rfl (by kernel_rfl) (by kernel_rfl) (by kernel_rfl) (fun _ _ _ h => h) (Or.inl ⟨by rfl, fun wX hSw => ?_⟩) (by assumption) ?_
              rotate_left
              · (try dsimp only at hSw); go_simp; try with_reducible rfl
              (try simp only [Act.put, List.getElem_toArray, List.getElem_cons_succ, List.getElem_cons_zero, List.setIfInBounds_toArray, List.set_cons_zero, List.set_cons_succ])
              refine wpAnyH_take (i := 12) (v := ?_) rfl (by kernel_rfl) (by kernel_rfl) (by kernel_rfl) (fun _ _ _ h => h) (Or.inl ⟨by rfl, fun wX hSw => ?_⟩) (by assumption) ?_
              rotate_left
              · (try dsimp only at hSw); go_simp; try with_reducible rfl
              (try simp only [Act.put, List.getElem_toArray, List.getElem_cons_succ, List.getElem_cons_zero, List.setIfInBounds_toArray, List.set_cons_zero, List.set_cons_succ])
              refine wpAnyH_ready (rs := [13]) (by kernel_rfl) (by simp) ?_
              refine AllReadyH.cons rfl (fun K hK => ?_) (AllReadyH.nil)
              go_simp
              ((go_at_call 16; (with_reducible refine (rredo_any W H t fb fo n fc pc _ ps fr _ w1 w2 h1 h2 HN.out htn2 ?_ ?_ ?_).mono ?_); (first | exact HFR.out _ HB.out | exact HFR.out _ HB.out.drew); (first | exact Nat.lt_of_lt_of_le hfl (hszA HB.out) | exact Nat.lt_of_lt_of_le hfl (hszA HB.out.drew)); (first | exact (HPS.out _ HB.out).mono (hszA HB.out) | exact (HPS.out _ HB.out.drew).mono (hszA HB.out.drew)); rintro e z ⟨J1, jc1, F, rfl, hg1, hp1, hA1, hb⟩; have HA1 := Hk.mk hA1; have HP1 := Hk.mk hp1; clear hA1 hp1 hg1; have hB2 : Hk (Below (w.heap.size + 1) (w.alloc (.cells #[.int .i64 W, .int .i64 H, .slice (some ⟨fb, fo, none⟩) n fc, .slice (some ⟨tb, toff, none⟩) tn tc, .slice (some ⟨pb, po, none⟩) n pc] 25)) z) := ⟨by first | exact kw_step HB.out hNW hb | exact kw_step HB.out.drew hNW hb⟩; clear hb; replace HB := hB2; clear hB2; clear hc hf hl hn' hm; obtain ⟨hc, hf, hl, hn', hm⟩ := kw_rules HB.out hNW))
              refine hK.out _ _ ?_ (fun hHeld => ?_)
              · exact kw_S HB.out
              clear hK K
              (try simp only [Act.put, List.getElem_toArray, List.getElem_cons_succ, List.getElem_cons_zero, List.setIfInBounds_toArray, List.set_cons_zero, List.set_cons_succ])
              refine wpAnyH_take (i := 14) (v := ?_) rfl (by kernel_rfl) (by kernel_rfl) (by kernel_rfl) (fun _ _ _ h => h) (Or.inl ⟨by rfl, fun wX hSw => ?_⟩) (by assumption) ?_
              rotate_left
              · (try dsimp only at hSw); go_simp; try with_reducible rfl
              (try simp only [Act.put, List.getElem_toArray, List.getElem_cons_succ, List.getElem_cons_zero, List.setIfInBounds_toArray, List.set_cons_zero, List.set_cons_succ])
              refine wpAnyH_done (by kernel_rfl) ?_ _
              as_aux_lemma =>
                go_upto_region 14 with (go_at_call 17; (with_reducible refine (copyi_any _ n pc ps _ ((HPS.out _ HB.out).mono (hszA HB.out)) (by omega)).mono ?_); rintro e z ⟨v, rfl, ho, hb⟩; obtain ⟨a2, c2, rfl, hc2, hq2⟩ := ho.nq; obtain ⟨b2, o2, rfl, hb2, hcell2⟩ := hq2.rd n1; have HQ2 := Hk.mk hq2; have HC2 := Hk.mk (And.intro hb2 hcell2); replace HA1 := Hk.mk (HA1.out.later hb); clear ho hq2 hc2 hb2 hcell2; replace HB := Hk.mk (kw_step HB.out hNW hb); clear hb; clear hc hf hl hn' hm; obtain ⟨hc, hf, hl, hn', hm⟩ := kw_rules HB.out hNW)
                refine wp_region_held_drew (S := (fun X => (∀ b o, b < (w.heap.size + 1) → X.cell? ⟨b, o, none⟩ = ((w.alloc (.cells #[.int .i64 W, .int .i64 H, .slice (some ⟨fb, fo, none⟩) n fc, .slice (some ⟨tb, toff, none⟩) tn tc, .slice (some ⟨pb, po, none⟩) n pc] 25))).cell? ⟨b, o, none⟩) ∧ Below (w.heap.size + 1) (w.alloc (.cells #[.int .i64 W, .int .i64 H, .slice (some ⟨fb, fo, none⟩) n fc, .slice (some ⟨tb, toff, none⟩) tn tc, .slice (some ⟨pb, po, none⟩) n pc] 25)) X)) (by kernel_rfl) ?_ (fun hHeld => ?_)
                · exact kw_S (kw_drew HB.out)
                refine wpAnyH_take (i := 0) (v := ?_) rfl (by kernel_rfl) (by kernel_rfl) (by kernel_rfl) (fun _ _ _ h => h) (Or.inl ⟨by rfl, fun wX hSw => ?_⟩) (by assumption) ?_
                rotate_left
                · (try dsimp only at hSw); go_simp; try with_reducible rfl
                (try simp only [Act.put, List.getElem_toArray, List.getElem_cons_succ, List.getElem_cons_zero, List.setIfInBounds_toArray, List.set_cons_zero, List.set_cons_succ])
                refine wpAnyH_take (i := 1) (v := ?_) rfl (by kernel_rfl) (by kernel_rfl) (by kernel_rfl) (fun _ _ _ h => h) (Or.inl ⟨by rfl, fun wX hSw => ?_⟩) (by assumption) ?_
                rotate_left
                · (try dsimp only at hSw); go_simp; try with_reducible rfl
                (try simp only [Act.put, List.getElem_toArray, List.getElem_cons_succ, List.getElem_cons_zero, List.setIfInBounds_toArray, List.set_cons_zero, List.set_cons_succ])
                refine wpAnyH_take (i := 2) (v := ?_) rfl (by kernel_rfl) (by kernel_rfl) (by kernel_rfl) (fun _ _ _ h => h) (Or.inl ⟨by rfl, fun wX hSw => ?_⟩) (by assumption) ?_
                rotate_left
                · (try dsimp only at hSw); go_simp; try with_reducible rfl
                (try simp only [Act.put, List.getElem_toArray, List.getElem_cons_succ, List.getElem_cons_zero, List.setIfInBounds_toArray, List.set_cons_zero, List.set_cons_succ])
                refine wpAnyH_take (i := 3) (v := ?_) rfl (by kernel_rfl) (by kernel_rfl) (by kernel_rfl) (fun _ _ _ h => h) (Or.inl ⟨by rfl, fun wX hSw => ?_⟩) (by assumption) ?_
                rotate_left
                · (try dsimp only at hSw); go_simp; try with_reducible rfl
                (try simp only [Act.put, List.getElem_toArray, List.getElem_cons_succ, List.getElem_cons_zero, List.setIfInBounds_toArray, List.set_cons_zero, List.set_cons_succ])
                refine wpAnyH_take (i := 4) (v := ?_) rfl (by kernel_rfl) (by kernel_rfl) (by kernel_rfl) (fun _ _ _ h => h) (Or.inl ⟨by rfl, fun wX hSw => ?_⟩) (by assumption) ?_
                rotate_left
                · (try dsimp only at hSw); go_simp; try with_reducible rfl
                (try simp only [Act.put, List.getElem_toArray, List.getElem_cons_succ, List.getElem_cons_zero, List.setIfInBounds_toArray, List.set_cons_zero, List.set_cons_succ])
                refine wpAnyH_take (i := 5) (v := ?_) rfl (by kernel_rfl) (by kernel_rfl) (by kernel_rfl) (fun _ _ _ h => h) (Or.inl ⟨by rfl, fun wX hSw => ?_⟩) (by assumption) ?_
                rotate_left
                · (try dsimp only at hSw); go_simp; try with_reducible rfl
                (try simp only [Act.put, List.getElem_toArray, List.getElem_cons_succ, List.getElem_cons_zero, List.setIfInBounds_toArray, List.set_cons_zero, List.set_cons_succ])
                refine wpAnyH_take (i := 6) (v := ?_) rfl (by kernel_rfl) (by kernel_rfl) (by kernel_rfl) (fun _ _ _ h => h) (Or.inl ⟨by rfl, fun wX hSw => ?_⟩) (by assumption) ?_
                rotate_left
                · (try dsimp only at hSw); go_simp; try with_reducible rfl
                (try simp only [Act.put, List.getElem_toArray, List.getElem_cons_succ, List.getElem_cons_zero, List.setIfInBounds_toArray, List.set_cons_zero, List.set_cons_succ])
                refine wpAnyH_take (i := 7) (v := ?_) rfl (by kernel_rfl) (by kernel_rfl) (by kernel_rfl) (fun _ _ _ h => h) (Or.inl ⟨by rfl, fun wX hSw => ?_⟩) (by assumption) ?_
                rotate_left
                · (try dsimp only at hSw); go_simp; try with_reducible rfl
                (try simp only [Act.put, List.getElem_toArray, List.getElem_cons_succ, List.getElem_cons_zero, List.setIfInBounds_toArray, List.set_cons_zero, List.set_cons_succ])
                refine wpAnyH_take (i := 8) (v := ?_) rfl (by kernel_rfl) (by kernel_rfl) (by kernel_rfl) (fun _ _ _ h => h) (Or.inl ⟨by rfl, fun wX hSw => ?_⟩) (by assumption) ?_
                rotate_left
                · (try dsimp only at hSw); go_simp; try with_reducible rfl
                (try simp only [Act.put, List.getElem_toArray, List.getElem_cons_succ, List.getElem_cons_zero, List.setIfInBounds_toArray, List.set_cons_zero, List.set_cons_succ])
                refine wpAnyH_take (i := 9) (v := ?_) rfl (by kernel_rfl) (by kernel_rfl) (by kernel_rfl) (fun _ _ _ h => h) (Or.inl ⟨by rfl, fun wX hSw => ?_⟩) (by assumption) ?_
                rotate_left
                · (try dsimp only at hSw); go_simp; try with_reducible rfl
                (try simp only [Act.put, List.getElem_toArray, List.getElem_cons_succ, List.getElem_cons_zero, List.setIfInBounds_toArray, List.set_cons_zero, List.set_cons_succ])
                refine wpAnyH_take (i := 10) (v := ?_) rfl (by kernel_rfl) (by kernel_rfl) (by kernel_rfl) (fun _ _ _ h => h) (Or.inl ⟨by rfl, fun wX hSw => ?_⟩) (by assumption) ?_
                rotate_left
                · (try dsimp only at hSw); go_simp; try with_reducible rfl
                (try simp only [Act.put, List.getElem_toArray, List.getElem_cons_succ, List.getElem_cons_zero, List.setIfInBounds_toArray, List.set_cons_zero, List.set_cons_succ])
                refine wpAnyH_take (i := 11) (v := ?_) rfl (by kernel_rfl) (by kernel_rfl) (by kernel_rfl) (fun _ _ _ h => h) (Or.inl ⟨by rfl, fun wX hSw => ?_⟩) (by assumption) ?_
                rotate_left
                · (try dsimp only at hSw); go_simp; try with_reducible rfl
                (try simp only [Act.put, List.getElem_toArray, List.getElem_cons_succ, List.getElem_cons_zero, List.setIfInBounds_toArray, List.set_cons_zero, List.set_cons_succ])
                refine wpAnyH_ready (rs := [12]) (by kernel_rfl) (by simp) ?_
                refine AllReadyH.cons rfl (fun K hK => ?_) (AllReadyH.nil)
                go_simp
                ((go_at_call 18; (with_reducible refine (sredo_any W H t fb fo n fc b2 o2 c2 fr (fun k => ps.getD k 0) _ w1 w2 h1 h2 HN.out htn2 ?_ ?_ ?_).mono ?_); (first | exact HFR.out _ HB.out | exact HFR.out _ HB.out.drew); (first | exact Nat.lt_of_lt_of_le hfl (hszA HB.out) | exact Nat.lt_of_lt_of_le hfl (hszA HB.out.drew)); (exact HC2.out.2); rintro e z ⟨J3, jc3, P3, rfl, hg3, hA3, hp3, hb⟩; have HA3 : Hk (Arp z J3 n jc3 (fun k => if secB W t k = true then F k else ps.getD k 0)) := ⟨hA3.congr fun k hk => (hp3 F HP1.out k hk).symm⟩; have HA4 : Hk (Arp z J1 n jc1 (fun k => if secB W t k = true then F k else ps.getD k 0)) := ⟨by first | exact HA1.out.later hb | exact (arp_drew HA1.out).later hb⟩; replace HA1 := HA4; clear HA4; have HQ3 : Hk (Nq z z.heap.size (some ⟨b2, o2, none⟩) n ps) := ⟨by first | exact nq_later10 HQ2.out hb | exact nq_later10 (nqD10 HQ2.out) hb⟩; replace HQ2 := HQ3; clear HQ3 hA3 hp3 hg3 HC2; have hB2 : Hk (Below (w.heap.size + 1) (w.alloc (.cells #[.int .i64 W, .int .i64 H, .slice (some ⟨fb, fo, none⟩) n fc, .slice (some ⟨tb, toff, none⟩) tn tc, .slice (some ⟨pb, po, none⟩) n pc] 25)) z) := ⟨by first | exact kw_step HB.out hNW hb | exact kw_step HB.out.drew hNW hb⟩; clear hb; replace HB := hB2; clear hB2; clear hc hf hl hn' hm; obtain ⟨hc, hf, hl, hn', hm⟩ := kw_rules HB.out hNW))
                refine hK.out _ _ ?_ (fun hHeld => ?_)
                · exact kw_S HB.out
                clear hK K
                (try simp only [Act.put, List.getElem_toArray, List.getElem_cons_succ, List.getElem_cons_zero, List.setIfInBounds_toArray, List.set_cons_zero, List.set_cons_succ])
                refine wpAnyH_take (i := 13) (v := ?_) rfl (by kernel_rfl) (by kernel_rfl) (by kernel_rfl) (fun _ _ _ h => h) (Or.inl ⟨by rfl, fun wX hSw => ?_⟩) (by assumption) ?_
                rotate_left
                · (try dsimp only at hSw); go_simp; try with_reducible rfl
                (try simp only [Act.put, List.getElem_toArray, List.getElem_cons_succ, List.getElem_cons_zero, List.setIfInBounds_toArray, List.set_cons_zero, List.set_cons_succ])
                refine wpAnyH_take (i := 14) (v := ?_) rfl (by kernel_rfl) (by kernel_rfl) (by kernel_rfl) (fun _ _ _ h => h) (Or.inl ⟨by rfl, fun wX hSw => ?_⟩) (by assumption) ?_
                rotate_left
                · (try dsimp only at hSw); go_simp; try with_reducible rfl
                (try simp only [Act.put, List.getElem_toArray, List.getElem_cons_succ, List.getElem_cons_zero, List.setIfInBounds_toArray, List.set_cons_zero, List.set_cons_succ])
                refine wpAnyH_take (i := 15) (v := ?_) rfl (by kernel_rfl) (by kernel_rfl) (by kernel_rfl) (fun _ _ _ h => h) (Or.inl ⟨by rfl, fun wX hSw => ?_⟩) (by assumption) ?_
                rotate_left
                · (try dsimp only at hSw); go_simp; try with_reducible rfl
                (try simp only [Act.put, List.getElem_toArray, List.getElem_cons_succ, List.getElem_cons_zero, List.setIfInBounds_toArray, List.set_cons_zero, List.set_cons_succ])
                refine wpAnyH_take (i := 16) (v := ?_) rfl (by kernel_rfl) (by kernel_rfl) (by kernel_rfl) (fun _ _ _ h => h) (Or.inl ⟨by rfl, fun wX hSw => ?_⟩) (by assumption) ?_
                rotate_left
                · (try dsimp only at hSw); go_simp; try with_reducible rfl
                (try simp only [Act.put, List.getElem_toArray, List.getElem_cons_succ, List.getElem_cons_zero, List.setIfInBounds_toArray, List.set_cons_zero, List.set_cons_succ])
                refine wpAnyH_take (i := 17) (v := ?_) rfl (by kernel_rfl) (by kernel_rfl) (by kernel_rfl) (fun _ _ _ h => h) (Or.inl ⟨by rfl, fun wX hSw => ?_⟩) (by assumption) ?_
                rotate_left
                · (try dsimp only at hSw); go_simp; try with_reducible rfl
                (try simp only [Act.put, List.getElem_toArray, List.getElem_cons_succ, List.getElem_cons_zero, List.setIfInBounds_toArray, List.set_cons_zero, List.set_cons_succ])
                refine wpAnyH_done (by kernel_rfl) ?_ _
                as_aux_lemma =>
                  go_wp2_with (first | (go_at_call 11; (with_reducible refine (num10_any _ _).mono ?_); rintro e z ⟨rfl, rfl⟩) | (go_at_call 12; (with_reducible refine (eqn_yes (some ⟨J3, 0, none⟩) (some ⟨J1, 0, none⟩) n _ _ (J3 + 1) (J1 + 1) ((List.range n).map fun k => if secB W t k = true then F k else ps.getD k 0) _ (arp_nq HA3.out) (arp_nq HA1.out) (by omega)).mono ?_); rintro e z ⟨rfl, mm, hz⟩; replace HQ2 := Hk.mk (nq_to HQ2.out hz); replace HB := Hk.mk (below_to HB.out hz); clear hz; clear hc hf hl hn' hm; obtain ⟨hc, hf, hl, hn', hm⟩ := kw_rules HB.out hNW) | (go_at_call 12; (with_reducible refine (eqn_yes (some ⟨b2, o2, none⟩) (some ⟨pb, po, none⟩) n c2 pc _ _ ps _ HQ2.out (HPS.out _ HB.out) (by omega)).mono ?_); rintro e z ⟨rfl, mm, hz⟩; replace HB := Hk.mk (below_to HB.out hz); clear hz; clear hc hf hl hn' hm; obtain ⟨hc, hf, hl, hn', hm⟩ := kw_rules HB.out hNW))
                  exact ⟨⟨k + 1, by go_num, by omega, HB⟩, by simp [intOf]; omega⟩
      · obtain rfl : k = M0 := by omega
        have dk3 : decide ((k : Int) < 10) = false := by simp; omega
        clear hM0
        as_aux_lemma =>
          go_wp2_with (go_at_call 15; (with_reducible refine (wakes10_any _).mono ?_); rintro e z ⟨rfl, hb⟩; replace HB := Hk.mk (kw_step HB.out hNW hb); clear hb; clear hc hf hl hn' hm; obtain ⟨hc, hf, hl, hn', hm⟩ := kw_rules HB.out hNW)
          go_ret
          exact ⟨rfl, HTR.out _ HB.out⟩
    · obtain rfl : k = M0 := by omega
      have dk : decide ((k : Int) < (tn : Int)) = false := by simpa using hlt
      clear hM0
      as_aux_lemma =>
        go_wp2_with (go_at_call 15; (with_reducible refine (wakes10_any _).mono ?_); rintro e z ⟨rfl, hb⟩; replace HB := Hk.mk (kw_step HB.out hNW hb); clear hb; clear hc hf hl hn' hm; obtain ⟨hc, hf, hl, hn', hm⟩ := kw_rules HB.out hNW)
        go_ret
        exact ⟨rfl, HTR.out _ HB.out⟩
end Go.Proofs.Ytifnmgbeepgfiaa
