import Derived.Deep.QuietTactic
import Derived.BigQuiet
import Derived.Deep.RegionWith
import Derived.Deep.RegionHeld3
import Derived.Deep.DeepCutAuto
import Derived.Deep.DeepFit
import Derived.Outline
import Derived.Test.YthabjihpjdlmoaaDoorGkz
/- Layer 13: the reference's step. -/
namespace Go.Proofs.YthabjihpjdlmoaaDoor
open Go.ChangeShapes Go.WideShapes Go.ChangeAt Go.RowKit Go.Deep
set_option linter.unusedVariables false
set_option linter.unusedSimpArgs false
set_option maxRecDepth 100000 in
set_option maxHeartbeats 1600000 in
theorem rstep_any (W H : Int) (bb off n c : Nat) (xs : List Int) (gd : Nat → Bool) (cl t i I NB nc : Nat) (w : World) (h : By w w.heap.size (some ⟨bb, off, none⟩) n xs) (hA : Arr w I n 4 (fun k => .bool (gd k))) (hN : ∀ j, j < 8 → w.cell? ⟨NB, j, none⟩ = some (.int .i64 (nb W H t j))) (GG : Hk (GOk W H n xs)) (hc3 : cl < 3) (ht : t < n) (hi : i < 8) (hnc : 8 ≤ nc) :
    Calls Tryd.prog 59 #[.agg #[.int .i64 W, .int .i64 H, .slice (some ⟨bb, off, none⟩) n c], .slice (some ⟨I, 0, none⟩) n n, .int .i64 cl, .int .i64 t, .slice (some ⟨NB, 0, none⟩) 8 nc, .int .i64 i, .int .i64 (-1)] w fun e w' => e = .returned (.int .i64 (tD W H gd (kcF cl xs) t i)) ∧ Below w.heap.size w w' := by
  have HWB : Hk (Below w.heap.size w (w.alloc (.cells #[.int .i64 W, .int .i64 H, .slice (some ⟨bb, off, none⟩) n c] 24))) := ⟨(Below.refl _ _).alloc (Nat.le_refl _) _⟩
  have hNW : w.heap.size + 1 ≤ ((w.alloc (.cells #[.int .i64 W, .int .i64 H, .slice (some ⟨bb, off, none⟩) n c] 24))).heap.size := by simp
  have HB : Hk (Below (w.heap.size + 1) (w.alloc (.cells #[.int .i64 W, .int .i64 H, .slice (some ⟨bb, off, none⟩) n c] 24)) (w.alloc (.cells #[.int .i64 W, .int .i64 H, .slice (some ⟨bb, off, none⟩) n c] 24))) := ⟨Below.refl _ _⟩
  have HTR : Hk (∀ X, Below (w.heap.size + 1) (w.alloc (.cells #[.int .i64 W, .int .i64 H, .slice (some ⟨bb, off, none⟩) n c] 24)) X → Below w.heap.size w X) := ⟨fun X hX => HWB.out.trans (hX.mono (by omega))⟩
  obtain ⟨bb', off', hae, hbl, hcc⟩ := h.at_ (by omega)
  injection hae with hae
  injection hae with hae1 hae2
  subst hae1 hae2
  have hI := hA.lt
  have hNB := World.block_lt_of_cell? _ _ (hN 0 (by omega))
  have HNC := Hk.mk hN
  have HA := Hk.mk hA
  have HY := Hk.mk h
  have DM : Hk (Dm W H n) := ⟨dm_of GG.out⟩
  have n16 := DM.out.n16
  have HST : Hk (∀ k, stOk W H gd t k ↔ (0 ≤ nb W H t k ∧ gd t = true ∧ gd (nb W H t k).toNat = true ∧ (4 ≤ k → gd (nb W H t (k - 4)).toNat = true ∧ gd (nb W H t ((k - 3) % 4)).toNat = true))) := ⟨fun k => Iff.rfl⟩
  have HTT : Hk (∀ k, (stOk W H gd t k → tD W H gd (kcF cl xs) t k = (if k < 4 then 5 else 7) * (kcF cl xs t + kcF cl xs (nb W H t k).toNat)) ∧ (¬ stOk W H gd t k → tD W H gd (kcF cl xs) t k = 0)) := ⟨fun k => ⟨fun h => if_pos h, fun h => if_neg h⟩⟩
  have HNB : Hk (∀ j, j < 8 → 0 ≤ nb W H t j → nb W H t j < (n : Int)) := ⟨fun j _ h => by rw [DM.out.nn]; exact nb_lt DM.out.w1 rfl h⟩
  have HSB : Hk (∀ k, 4 ≤ k → k < 8 → 0 ≤ nb W H t k → (0 ≤ nb W H t (k - 4) ∧ nb W H t (k - 4) < (n : Int)) ∧ 0 ≤ nb W H t ((k - 3) % 4) ∧ nb W H t ((k - 3) % 4) < (n : Int)) := ⟨fun k h4 h8 h => by have := DM.out.nn; rw [this]; exact nb_side DM.out.w1 (by omega) h4 h8 h⟩
  have n0 := hN i hi
  clear hN hA h
  generalize nb W H t = N at *
  generalize stOk W H gd t = OK at *
  generalize hD : tD W H gd (kcF cl xs) t = D at *
  have HTD := Hk.mk hD
  clear hD
  have HCC := Hk.mk hcc
  clear hcc
  have i0 : (0 : Int) ≤ (i : Int) := by omega
  have i1 : (i : Int) < 8 := by omega
  have t0 : (0 : Int) ≤ (t : Int) := by omega
  have t1 : (t : Int) < (n : Int) := by omega
  have at0 := HA.out.cell ht
  obtain ⟨hc, hf, hl, hn', hm⟩ := kw_rules HB.out hNW
  by_cases a1 : N i < 0
  · have d1 : decide (N i < 0) = true := by simpa using a1
    have hno : ¬ OK i := fun h => by have := ((HST.out i).1 h).1; omega
    have hv := (HTT.out i).2 hno
    go_enter Tryd.func59, Tryd.ntmps59
    go_wp2_with fail
    go_ret
    exact ⟨by first | rfl | (rw [hv]; rfl) | (rw [HTD.out, hv]; rfl), HTR.out _ HB.out⟩
  obtain ⟨u, hu⟩ : ∃ u : Nat, N i = u := ⟨(N i).toNat, by omega⟩
  have hun : u < n := by have := HNB.out i hi (by omega); omega
  have ut : (N i).toNat = u := by omega
  have at1 := HA.out.cell hun
  have u0 : (0 : Int) ≤ (u : Int) := by omega
  have u1 : (u : Int) < (n : Int) := by omega
  have d1 : decide ((u : Int) < 0) = false := by simp
  have hSk := HST.out i
  rw [ut] at hSk
  have hTk := HTT.out i
  rw [ut] at hTk
  have hi0 : 0 ≤ N i := by omega
  rw [hu] at n0
  clear hu ut a1
  have HSK := Hk.mk hSk
  have HTK := Hk.mk hTk
  have HI0 := Hk.mk hi0
  clear hSk hTk hi0
  by_cases g1' : gd t = false
  · have hno : ¬ OK i := fun h => by have := ((HSK.out).1 h).2.1; rw [g1'] at this; cases this
    have hv := HTK.out.2 hno
    rw [g1'] at at0
    go_enter Tryd.func59, Tryd.ntmps59
    go_wp2_with fail
    go_ret
    exact ⟨by first | rfl | (rw [hv]; rfl) | (rw [HTD.out, hv]; rfl), HTR.out _ HB.out⟩
  have g1 : gd t = true := by simpa using g1'
  rw [g1] at at0
  by_cases g2' : gd u = false
  · have hno : ¬ OK i := fun h => by have := ((HSK.out).1 h).2.2.1; rw [g2'] at this; cases this
    have hv := HTK.out.2 hno
    rw [g2'] at at1
    go_enter Tryd.func59, Tryd.ntmps59
    go_wp2_with fail
    go_ret
    exact ⟨by first | rfl | (rw [hv]; rfl) | (rw [HTD.out, hv]; rfl), HTR.out _ HB.out⟩
  have g2 : gd u = true := by simpa using g2'
  rw [g2] at at1
  have HG := Hk.mk (And.intro g1 g2)
  clear g1 g2 g1' g2'
  have p0 := HCC.out t ht
  have p1 := HCC.out u hun
  have hx := HY.out.bd ht
  have hy := HY.out.bd hun
  have hx5 := GG.out.ts (xs.getD t 0) (getD_mem (by rw [HY.out.len]; exact ht))
  have hy5 := GG.out.ts (xs.getD u 0) (getD_mem (by rw [HY.out.len]; exact hun))
  obtain ⟨x, hxx⟩ : ∃ x : Nat, xs.getD t 0 = x := ⟨(xs.getD t 0).toNat, by omega⟩
  obtain ⟨y, hyy⟩ : ∃ y : Nat, xs.getD u 0 = y := ⟨(xs.getD u 0).toNat, by omega⟩
  rw [hxx] at p0 hx hx5
  rw [hyy] at p1 hy hy5
  obtain ⟨r, hr⟩ : ∃ r, ctS cl x = r := ⟨_, rfl⟩
  obtain ⟨q, hq⟩ : ∃ q, ctS cl y = q := ⟨_, rfl⟩
  have HRX := Hk.mk hr
  have HRY := Hk.mk hq
  have hrb : 0 ≤ r ∧ r ≤ 6 := by rw [← hr]; exact ct_abs _ _
  have hqb : 0 ≤ q ∧ q ≤ 6 := by rw [← hq]; exact ct_abs _ _
  have hkt : kcF cl xs t = r := by unfold kcF; rw [hxx]; simpa using hr
  have hku : kcF cl xs u = q := by unfold kcF; rw [hyy]; simpa using hq
  have hTk := HTK.out
  rw [hkt, hku] at hTk
  have HTK := Hk.mk hTk
  have hbw : bb < w.heap.size + 1 := by omega
  have hwr : IntKind.i64.wrap (r + q) = r + q := wr_in (by omega)
  have hwr2 : wrap64 (r + q) = r + q := by unfold wrap64; omega
  clear hTk hkt hku hxx hyy hr hq
  by_cases k4 : i < 4
  · have d4 : decide ((i : Int) < 4) = true := by simp; omega
    have hyes : OK i := HSK.out.2 ⟨HI0.out, HG.out.1, HG.out.2, fun q => absurd q (by omega)⟩
    have hv := HTK.out.1 hyes
    rw [if_pos k4] at hv
    have HV := Hk.mk hv
    clear hv hyes
    go_enter Tryd.func59, Tryd.ntmps59
    go_upto_region 4 with fail
    refine wp_region_held_drew (S := (fun X => (∀ b o, b < w.heap.size + 1 → X.cell? ⟨b, o, none⟩ = ((w.alloc (.cells #[.int .i64 W, .int .i64 H, .slice (some ⟨bb, off, none⟩) n c] 24))).cell? ⟨b, o, none⟩) ∧ Below (w.heap.size + 1) (w.alloc (.cells #[.int .i64 W, .int .i64 H, .slice (some ⟨bb, off, none⟩) n c] 24)) X)) (by kernel_rfl) ?_ (fun hHeld => ?_)
    · exact kw_S (kw_drew HB.out)
    refine wpAnyH_take (i := 0) (v := ?_) rfl (by kernel_rfl) (by kernel_rfl) (by kernel_rfl) (fun _ _ _ h => h) (Or.inl ⟨by rfl, fun wX hSw => ?_⟩) (by assumption) ?_
    rotate_left
    · (try dsimp only at hSw); go_simp; try with_reducible rfl
    (try simp only [Act.put, List.getElem_toArray, List.getElem_cons_succ, List.getElem_cons_zero, List.setIfInBounds_toArray, List.set_cons_zero, List.set_cons_succ])
    refine wpAnyH_take (i := 1) (v := ?_) rfl (by kernel_rfl) (by kernel_rfl) (by kernel_rfl) (fun _ _ _ h => h) (Or.inl ⟨by rfl, fun wX hSw => ?_⟩) (by assumption) ?_
    rotate_left
    · (try dsimp only at hSw); go_simp; try with_reducible rfl
    (try simp only [Act.put, List.getElem_toArray, List.getElem_cons_succ, List.getElem_cons_zero, List.setIfInBounds_toArray, List.set_cons_zero, List.set_cons_succ])
    refine wpAnyH_take (i := 2) (v := ?_) rfl (by kernel_rfl) (by kernel_rfl) (by kernel_rfl) (fun _ _ _ h => h) (Or.inl ⟨by rfl, fun wX hSw => ?_⟩) (by assumption) ?_
    rotate_left
    · (try dsimp only at hSw); go_simp; try with_reducible rfl
    (try simp only [Act.put, List.getElem_toArray, List.getElem_cons_succ, List.getElem_cons_zero, List.setIfInBounds_toArray, List.set_cons_zero, List.set_cons_succ])
    refine wpAnyH_take (i := 3) (v := ?_) rfl (by kernel_rfl) (by kernel_rfl) (by kernel_rfl) (fun _ _ _ h => h) (Or.inl ⟨by rfl, fun wX hSw => ?_⟩) (by assumption) ?_
    rotate_left
    · (try dsimp only at hSw); go_simp; try with_reducible rfl
    (try simp only [Act.put, List.getElem_toArray, List.getElem_cons_succ, List.getElem_cons_zero, List.setIfInBounds_toArray, List.set_cons_zero, List.set_cons_succ])
    refine wpAnyH_take (i := 4) (v := ?_) rfl (by kernel_rfl) (by kernel_rfl) (by kernel_rfl) (fun _ _ _ h => h) (Or.inl ⟨by rfl, fun wX hSw => ?_⟩) (by assumption) ?_
    rotate_left
    · (try dsimp only at hSw); go_simp; try with_reducible rfl
    (try simp only [Act.put, List.getElem_toArray, List.getElem_cons_succ, List.getElem_cons_zero, List.setIfInBounds_toArray, List.set_cons_zero, List.set_cons_succ])
    refine wpAnyH_take (i := 5) (v := ?_) rfl (by kernel_rfl) (by kernel_rfl) (by kernel_rfl) (fun _ _ _ h => h) (Or.inl ⟨by rfl, fun wX hSw => ?_⟩) (by assumption) ?_
    rotate_left
    · (try dsimp only at hSw); go_simp; try with_reducible rfl
    (try simp only [Act.put, List.getElem_toArray, List.getElem_cons_succ, List.getElem_cons_zero, List.setIfInBounds_toArray, List.set_cons_zero, List.set_cons_succ])
    refine wpAnyH_take (i := 7) (v := ?_) rfl (by kernel_rfl) (by kernel_rfl) (by kernel_rfl) (fun _ _ _ h => h) (Or.inl ⟨by rfl, fun wX hSw => ?_⟩) (by assumption) ?_
    rotate_left
    · (try dsimp only at hSw); go_simp; try with_reducible rfl
    (try simp only [Act.put, List.getElem_toArray, List.getElem_cons_succ, List.getElem_cons_zero, List.setIfInBounds_toArray, List.set_cons_zero, List.set_cons_succ])
    refine wpAnyH_take (i := 8) (v := ?_) rfl (by kernel_rfl) (by kernel_rfl) (by kernel_rfl) (fun _ _ _ h => h) (Or.inl ⟨by rfl, fun wX hSw => ?_⟩) (by assumption) ?_
    rotate_left
    · (try dsimp only at hSw); go_simp; try with_reducible rfl
    (try simp only [Act.put, List.getElem_toArray, List.getElem_cons_succ, List.getElem_cons_zero, List.setIfInBounds_toArray, List.set_cons_zero, List.set_cons_succ])
    refine wpAnyH_take (i := 9) (v := ?_) rfl (by kernel_rfl) (by kernel_rfl) (by kernel_rfl) (fun _ _ _ h => h) (Or.inl ⟨by rfl, fun wX hSw => ?_⟩) (by assumption) ?_
    rotate_left
    · (try dsimp only at hSw); go_simp; try with_reducible rfl
    (try simp only [Act.put, List.getElem_toArray, List.getElem_cons_succ, List.getElem_cons_zero, List.setIfInBounds_toArray, List.set_cons_zero, List.set_cons_succ])
    refine wpAnyH_take (i := 10) (v := ?_) rfl (by kernel_rfl) (by kernel_rfl) (by kernel_rfl) (fun _ _ _ h => h) (Or.inl ⟨by rfl, fun wX hSw => ?_⟩) (by assumption) ?_
    rotate_left
    · (try dsimp only at hSw); go_simp; try with_reducible rfl
    (try simp only [Act.put, List.getElem_toArray, List.getElem_cons_succ, List.getElem_cons_zero, List.setIfInBounds_toArray, List.set_cons_zero, List.set_cons_succ])
    refine wpAnyH_take (i := 11) (v := ?_) rfl (by kernel_rfl) (by kernel_rfl) (by kernel_rfl) (fun _ _ _ h => h) (Or.inl ⟨by rfl, fun wX hSw => ?_⟩) (by assumption) ?_
    rotate_left
    · (try dsimp only at hSw); go_simp; try with_reducible rfl
    (try simp only [Act.put, List.getElem_toArray, List.getElem_cons_succ, List.getElem_cons_zero, List.setIfInBounds_toArray, List.set_cons_zero, List.set_cons_succ])
    refine wpAnyH_take (i := 12) (v := ?_) rfl (by kernel_rfl) (by kernel_rfl) (by kernel_rfl) (fun _ _ _ h => h) (Or.inl ⟨by rfl, fun wX hSw => ?_⟩) (by assumption) ?_
    rotate_left
    · (try dsimp only at hSw); go_simp; try with_reducible rfl
    (try simp only [Act.put, List.getElem_toArray, List.getElem_cons_succ, List.getElem_cons_zero, List.setIfInBounds_toArray, List.set_cons_zero, List.set_cons_succ])
    refine wpAnyH_ready (rs := [6]) (by kernel_rfl) (by simp) ?_
    refine AllReadyH.cons rfl (fun K hK => ?_) (AllReadyH.nil)
    go_simp
    (first
    | (go_at_call 61; (with_reducible refine (rcostC_as cl x _ _ r _ hc3 (by omega) ⟨rfl⟩ ⟨rfl⟩ HRX).mono ?_); rintro e z ⟨rfl, hb⟩; have hB2 : Hk (Below (w.heap.size + 1) (w.alloc (.cells #[.int .i64 W, .int .i64 H, .slice (some ⟨bb, off, none⟩) n c] 24)) z) := ⟨by first | exact kw_step HB.out hNW hb | exact kw_step HB.out.drew hNW hb⟩; clear hb; replace HB := hB2; clear hB2; clear hc hf hl hn' hm; obtain ⟨hc, hf, hl, hn', hm⟩ := kw_rules HB.out hNW)
    | (go_at_call 61; (with_reducible refine (rcostC_as cl y _ _ q _ hc3 (by omega) ⟨rfl⟩ ⟨rfl⟩ HRY).mono ?_); rintro e z ⟨rfl, hb⟩; have hB2 : Hk (Below (w.heap.size + 1) (w.alloc (.cells #[.int .i64 W, .int .i64 H, .slice (some ⟨bb, off, none⟩) n c] 24)) z) := ⟨by first | exact kw_step HB.out hNW hb | exact kw_step HB.out.drew hNW hb⟩; clear hb; replace HB := hB2; clear hB2; clear hc hf hl hn' hm; obtain ⟨hc, hf, hl, hn', hm⟩ := kw_rules HB.out hNW))
    refine hK.out _ _ ?_ (fun hHeld => ?_)
    · exact kw_S HB.out
    clear hK K
    (try simp only [Act.put, List.getElem_toArray, List.getElem_cons_succ, List.getElem_cons_zero, List.setIfInBounds_toArray, List.set_cons_zero, List.set_cons_succ])
    refine wpAnyH_ready (rs := [13]) (by kernel_rfl) (by simp) ?_
    refine AllReadyH.cons rfl (fun K hK => ?_) (AllReadyH.nil)
    go_simp
    (first
    | (go_at_call 61; (with_reducible refine (rcostC_as cl x _ _ r _ hc3 (by omega) ⟨rfl⟩ ⟨rfl⟩ HRX).mono ?_); rintro e z ⟨rfl, hb⟩; have hB2 : Hk (Below (w.heap.size + 1) (w.alloc (.cells #[.int .i64 W, .int .i64 H, .slice (some ⟨bb, off, none⟩) n c] 24)) z) := ⟨by first | exact kw_step HB.out hNW hb | exact kw_step HB.out.drew hNW hb⟩; clear hb; replace HB := hB2; clear hB2; clear hc hf hl hn' hm; obtain ⟨hc, hf, hl, hn', hm⟩ := kw_rules HB.out hNW)
    | (go_at_call 61; (with_reducible refine (rcostC_as cl y _ _ q _ hc3 (by omega) ⟨rfl⟩ ⟨rfl⟩ HRY).mono ?_); rintro e z ⟨rfl, hb⟩; have hB2 : Hk (Below (w.heap.size + 1) (w.alloc (.cells #[.int .i64 W, .int .i64 H, .slice (some ⟨bb, off, none⟩) n c] 24)) z) := ⟨by first | exact kw_step HB.out hNW hb | exact kw_step HB.out.drew hNW hb⟩; clear hb; replace HB := hB2; clear hB2; clear hc hf hl hn' hm; obtain ⟨hc, hf, hl, hn', hm⟩ := kw_rules HB.out hNW))
    refine hK.out _ _ ?_ (fun hHeld => ?_)
    · exact kw_S HB.out
    clear hK K
    (try simp only [Act.put, List.getElem_toArray, List.getElem_cons_succ, List.getElem_cons_zero, List.setIfInBounds_toArray, List.set_cons_zero, List.set_cons_succ])
    refine wpAnyH_take (i := 14) (v := ?_) rfl (by kernel_rfl) (by kernel_rfl) (by kernel_rfl) (fun _ _ _ h => h) (Or.inl ⟨by rfl, fun wX hSw => ?_⟩) (by assumption) ?_
    rotate_left
    · (try dsimp only at hSw); go_simp; try with_reducible rfl
    (try simp only [Act.put, List.getElem_toArray, List.getElem_cons_succ, List.getElem_cons_zero, List.setIfInBounds_toArray, List.set_cons_zero, List.set_cons_succ])
    refine wpAnyH_take (i := 15) (v := ?_) rfl (by kernel_rfl) (by kernel_rfl) (by kernel_rfl) (fun _ _ _ h => h) (Or.inl ⟨by rfl, fun wX hSw => ?_⟩) (by assumption) ?_
    rotate_left
    · (try dsimp only at hSw); go_simp; try with_reducible rfl
    (try simp only [Act.put, List.getElem_toArray, List.getElem_cons_succ, List.getElem_cons_zero, List.setIfInBounds_toArray, List.set_cons_zero, List.set_cons_succ])
    refine wpAnyH_done (by kernel_rfl) ?_ _
    all_goals
      go_wp2_with fail
      go_ret
      exact ⟨by first | rfl | (rw [HV.out]; rfl) | (rw [HTD.out, HV.out]; rfl), HTR.out _ HB.out⟩
  · have d4 : decide ((i : Int) < 4) = false := by simp; omega
    go_enter Tryd.func59, Tryd.ntmps59
    go_upto_region 4 with fail
    refine wp_region_held_drew (S := (fun X => (∀ b o, b < w.heap.size + 1 → X.cell? ⟨b, o, none⟩ = ((w.alloc (.cells #[.int .i64 W, .int .i64 H, .slice (some ⟨bb, off, none⟩) n c] 24))).cell? ⟨b, o, none⟩) ∧ Below (w.heap.size + 1) (w.alloc (.cells #[.int .i64 W, .int .i64 H, .slice (some ⟨bb, off, none⟩) n c] 24)) X)) (by kernel_rfl) ?_ (fun hHeld => ?_)
    · exact kw_S (kw_drew HB.out)
    refine wpAnyH_take (i := 0) (v := ?_) rfl (by kernel_rfl) (by kernel_rfl) (by kernel_rfl) (fun _ _ _ h => h) (Or.inl ⟨by rfl, fun wX hSw => ?_⟩) (by assumption) ?_
    rotate_left
    · (try dsimp only at hSw); go_simp; try with_reducible rfl
    (try simp only [Act.put, List.getElem_toArray, List.getElem_cons_succ, List.getElem_cons_zero, List.setIfInBounds_toArray, List.set_cons_zero, List.set_cons_succ])
    refine wpAnyH_take (i := 1) (v := ?_) rfl (by kernel_rfl) (by kernel_rfl) (by kernel_rfl) (fun _ _ _ h => h) (Or.inl ⟨by rfl, fun wX hSw => ?_⟩) (by assumption) ?_
    rotate_left
    · (try dsimp only at hSw); go_simp; try with_reducible rfl
    (try simp only [Act.put, List.getElem_toArray, List.getElem_cons_succ, List.getElem_cons_zero, List.setIfInBounds_toArray, List.set_cons_zero, List.set_cons_succ])
    refine wpAnyH_take (i := 2) (v := ?_) rfl (by kernel_rfl) (by kernel_rfl) (by kernel_rfl) (fun _ _ _ h => h) (Or.inl ⟨by rfl, fun wX hSw => ?_⟩) (by assumption) ?_
    rotate_left
    · (try dsimp only at hSw); go_simp; try with_reducible rfl
    (try simp only [Act.put, List.getElem_toArray, List.getElem_cons_succ, List.getElem_cons_zero, List.setIfInBounds_toArray, List.set_cons_zero, List.set_cons_succ])
    refine wpAnyH_take (i := 3) (v := ?_) rfl (by kernel_rfl) (by kernel_rfl) (by kernel_rfl) (fun _ _ _ h => h) (Or.inl ⟨by rfl, fun wX hSw => ?_⟩) (by assumption) ?_
    rotate_left
    · (try dsimp only at hSw); go_simp; try with_reducible rfl
    (try simp only [Act.put, List.getElem_toArray, List.getElem_cons_succ, List.getElem_cons_zero, List.setIfInBounds_toArray, List.set_cons_zero, List.set_cons_succ])
    refine wpAnyH_take (i := 4) (v := ?_) rfl (by kernel_rfl) (by kernel_rfl) (by kernel_rfl) (fun _ _ _ h => h) (Or.inl ⟨by rfl, fun wX hSw => ?_⟩) (by assumption) ?_
    rotate_left
    · (try dsimp only at hSw); go_simp; try with_reducible rfl
    (try simp only [Act.put, List.getElem_toArray, List.getElem_cons_succ, List.getElem_cons_zero, List.setIfInBounds_toArray, List.set_cons_zero, List.set_cons_succ])
    refine wpAnyH_take (i := 5) (v := ?_) rfl (by kernel_rfl) (by kernel_rfl) (by kernel_rfl) (fun _ _ _ h => h) (Or.inl ⟨by rfl, fun wX hSw => ?_⟩) (by assumption) ?_
    rotate_left
    · (try dsimp only at hSw); go_simp; try with_reducible rfl
    (try simp only [Act.put, List.getElem_toArray, List.getElem_cons_succ, List.getElem_cons_zero, List.setIfInBounds_toArray, List.set_cons_zero, List.set_cons_succ])
    refine wpAnyH_take (i := 7) (v := ?_) rfl (by kernel_rfl) (by kernel_rfl) (by kernel_rfl) (fun _ _ _ h => h) (Or.inl ⟨by rfl, fun wX hSw => ?_⟩) (by assumption) ?_
    rotate_left
    · (try dsimp only at hSw); go_simp; try with_reducible rfl
    (try simp only [Act.put, List.getElem_toArray, List.getElem_cons_succ, List.getElem_cons_zero, List.setIfInBounds_toArray, List.set_cons_zero, List.set_cons_succ])
    refine wpAnyH_take (i := 8) (v := ?_) rfl (by kernel_rfl) (by kernel_rfl) (by kernel_rfl) (fun _ _ _ h => h) (Or.inl ⟨by rfl, fun wX hSw => ?_⟩) (by assumption) ?_
    rotate_left
    · (try dsimp only at hSw); go_simp; try with_reducible rfl
    (try simp only [Act.put, List.getElem_toArray, List.getElem_cons_succ, List.getElem_cons_zero, List.setIfInBounds_toArray, List.set_cons_zero, List.set_cons_succ])
    refine wpAnyH_take (i := 9) (v := ?_) rfl (by kernel_rfl) (by kernel_rfl) (by kernel_rfl) (fun _ _ _ h => h) (Or.inl ⟨by rfl, fun wX hSw => ?_⟩) (by assumption) ?_
    rotate_left
    · (try dsimp only at hSw); go_simp; try with_reducible rfl
    (try simp only [Act.put, List.getElem_toArray, List.getElem_cons_succ, List.getElem_cons_zero, List.setIfInBounds_toArray, List.set_cons_zero, List.set_cons_succ])
    refine wpAnyH_take (i := 10) (v := ?_) rfl (by kernel_rfl) (by kernel_rfl) (by kernel_rfl) (fun _ _ _ h => h) (Or.inl ⟨by rfl, fun wX hSw => ?_⟩) (by assumption) ?_
    rotate_left
    · (try dsimp only at hSw); go_simp; try with_reducible rfl
    (try simp only [Act.put, List.getElem_toArray, List.getElem_cons_succ, List.getElem_cons_zero, List.setIfInBounds_toArray, List.set_cons_zero, List.set_cons_succ])
    refine wpAnyH_take (i := 11) (v := ?_) rfl (by kernel_rfl) (by kernel_rfl) (by kernel_rfl) (fun _ _ _ h => h) (Or.inl ⟨by rfl, fun wX hSw => ?_⟩) (by assumption) ?_
    rotate_left
    · (try dsimp only at hSw); go_simp; try with_reducible rfl
    (try simp only [Act.put, List.getElem_toArray, List.getElem_cons_succ, List.getElem_cons_zero, List.setIfInBounds_toArray, List.set_cons_zero, List.set_cons_succ])
    refine wpAnyH_take (i := 12) (v := ?_) rfl (by kernel_rfl) (by kernel_rfl) (by kernel_rfl) (fun _ _ _ h => h) (Or.inl ⟨by rfl, fun wX hSw => ?_⟩) (by assumption) ?_
    rotate_left
    · (try dsimp only at hSw); go_simp; try with_reducible rfl
    (try simp only [Act.put, List.getElem_toArray, List.getElem_cons_succ, List.getElem_cons_zero, List.setIfInBounds_toArray, List.set_cons_zero, List.set_cons_succ])
    refine wpAnyH_ready (rs := [6]) (by kernel_rfl) (by simp) ?_
    refine AllReadyH.cons rfl (fun K hK => ?_) (AllReadyH.nil)
    go_simp
    (first
    | (go_at_call 61; (with_reducible refine (rcostC_as cl x _ _ r _ hc3 (by omega) ⟨rfl⟩ ⟨rfl⟩ HRX).mono ?_); rintro e z ⟨rfl, hb⟩; have hB2 : Hk (Below (w.heap.size + 1) (w.alloc (.cells #[.int .i64 W, .int .i64 H, .slice (some ⟨bb, off, none⟩) n c] 24)) z) := ⟨by first | exact kw_step HB.out hNW hb | exact kw_step HB.out.drew hNW hb⟩; clear hb; replace HB := hB2; clear hB2; clear hc hf hl hn' hm; obtain ⟨hc, hf, hl, hn', hm⟩ := kw_rules HB.out hNW)
    | (go_at_call 61; (with_reducible refine (rcostC_as cl y _ _ q _ hc3 (by omega) ⟨rfl⟩ ⟨rfl⟩ HRY).mono ?_); rintro e z ⟨rfl, hb⟩; have hB2 : Hk (Below (w.heap.size + 1) (w.alloc (.cells #[.int .i64 W, .int .i64 H, .slice (some ⟨bb, off, none⟩) n c] 24)) z) := ⟨by first | exact kw_step HB.out hNW hb | exact kw_step HB.out.drew hNW hb⟩; clear hb; replace HB := hB2; clear hB2; clear hc hf hl hn' hm; obtain ⟨hc, hf, hl, hn', hm⟩ := kw_rules HB.out hNW))
    refine hK.out _ _ ?_ (fun hHeld => ?_)
    · exact kw_S HB.out
    clear hK K
    (try simp only [Act.put, List.getElem_toArray, List.getElem_cons_succ, List.getElem_cons_zero, List.setIfInBounds_toArray, List.set_cons_zero, List.set_cons_succ])
    refine wpAnyH_ready (rs := [13]) (by kernel_rfl) (by simp) ?_
    refine AllReadyH.cons rfl (fun K hK => ?_) (AllReadyH.nil)
    go_simp
    (first
    | (go_at_call 61; (with_reducible refine (rcostC_as cl x _ _ r _ hc3 (by omega) ⟨rfl⟩ ⟨rfl⟩ HRX).mono ?_); rintro e z ⟨rfl, hb⟩; have hB2 : Hk (Below (w.heap.size + 1) (w.alloc (.cells #[.int .i64 W, .int .i64 H, .slice (some ⟨bb, off, none⟩) n c] 24)) z) := ⟨by first | exact kw_step HB.out hNW hb | exact kw_step HB.out.drew hNW hb⟩; clear hb; replace HB := hB2; clear hB2; clear hc hf hl hn' hm; obtain ⟨hc, hf, hl, hn', hm⟩ := kw_rules HB.out hNW)
    | (go_at_call 61; (with_reducible refine (rcostC_as cl y _ _ q _ hc3 (by omega) ⟨rfl⟩ ⟨rfl⟩ HRY).mono ?_); rintro e z ⟨rfl, hb⟩; have hB2 : Hk (Below (w.heap.size + 1) (w.alloc (.cells #[.int .i64 W, .int .i64 H, .slice (some ⟨bb, off, none⟩) n c] 24)) z) := ⟨by first | exact kw_step HB.out hNW hb | exact kw_step HB.out.drew hNW hb⟩; clear hb; replace HB := hB2; clear hB2; clear hc hf hl hn' hm; obtain ⟨hc, hf, hl, hn', hm⟩ := kw_rules HB.out hNW))
    refine hK.out _ _ ?_ (fun hHeld => ?_)
    · exact kw_S HB.out
    clear hK K
    (try simp only [Act.put, List.getElem_toArray, List.getElem_cons_succ, List.getElem_cons_zero, List.setIfInBounds_toArray, List.set_cons_zero, List.set_cons_succ])
    refine wpAnyH_take (i := 14) (v := ?_) rfl (by kernel_rfl) (by kernel_rfl) (by kernel_rfl) (fun _ _ _ h => h) (Or.inl ⟨by rfl, fun wX hSw => ?_⟩) (by assumption) ?_
    rotate_left
    · (try dsimp only at hSw); go_simp; try with_reducible rfl
    (try simp only [Act.put, List.getElem_toArray, List.getElem_cons_succ, List.getElem_cons_zero, List.setIfInBounds_toArray, List.set_cons_zero, List.set_cons_succ])
    refine wpAnyH_take (i := 15) (v := ?_) rfl (by kernel_rfl) (by kernel_rfl) (by kernel_rfl) (fun _ _ _ h => h) (Or.inl ⟨by rfl, fun wX hSw => ?_⟩) (by assumption) ?_
    rotate_left
    · (try dsimp only at hSw); go_simp; try with_reducible rfl
    (try simp only [Act.put, List.getElem_toArray, List.getElem_cons_succ, List.getElem_cons_zero, List.setIfInBounds_toArray, List.set_cons_zero, List.set_cons_succ])
    refine wpAnyH_done (by kernel_rfl) ?_ _
    all_goals
      go_wp2_with fail
    as_aux_lemma =>
      go_loopw [17] (fun kk wr => ∃ k : Nat, kk = .int .i64 k ∧ k ≤ 2 ∧ Hk (Below (w.heap.size + 1) (w.alloc (.cells #[.int .i64 W, .int .i64 H, .slice (some ⟨bb, off, none⟩) n c] 24)) wr) ∧ Hk (∀ j, j < k → gd (N ((i - 4 + j) % 4)).toNat = true)) (fun kk _ => 2 - (intOf kk).toNat)
      case atStart => exact ⟨0, rfl, by omega, HB, ⟨fun j hj => absurd hj (by omega)⟩⟩
      case round =>
        clear HB
        obtain ⟨k, rfl, hk2, HB, HK⟩ := hrel
        obtain ⟨hc, hf, hl, hn', hm⟩ := kw_rules HB.out hNW
        by_cases hlt : k < 2
        · have k0 : (0 : Int) ≤ (k : Int) := by omega
          have k1 : (k : Int) < 2 := by omega
          obtain ⟨p, hp⟩ : ∃ p, p = (i - 4 + k) % 4 := ⟨_, rfl⟩
          have hrem : ((i : Int) - 4 + (k : Int)).tmod 4 = (p : Int) := by rw [Int.tmod_eq_emod_of_nonneg (by omega)]; omega
          have p0' : (0 : Int) ≤ (p : Int) := by omega
          have p1' : (p : Int) < 8 := by omega
          have hsb := HSB.out i (by omega) hi HI0.out
          have hpb : 0 ≤ N p ∧ N p < (n : Int) := by
            have hk01 : k = 0 ∨ k = 1 := by omega
            rcases hk01 with e | e
            · rw [show p = i - 4 by omega]; exact hsb.1
            · rw [show p = (i - 3) % 4 by omega]; exact hsb.2
          obtain ⟨v, hv⟩ : ∃ v : Nat, N p = v := ⟨(N p).toNat, by omega⟩
          have hvn : v < n := by omega
          have m0 := HNC.out p (by omega)
          rw [hv] at m0
          have at2 := HA.out.cell hvn
          have v0 : (0 : Int) ≤ (v : Int) := by omega
          have v1 : (v : Int) < (n : Int) := by omega
          have dv : decide ((v : Int) < 0) = false := by simp
          have HPV : Hk (gd (N ((i - 4 + k) % 4)).toNat = gd v) := ⟨by rw [← hp, hv]; simp⟩
          clear hsb hpb hv hp
          by_cases gv : gd v = false
          · have hno : ¬ OK i := fun h => by
              have h4 := ((HSK.out).1 h).2.2.2 (by omega)
              have hk01 : k = 0 ∨ k = 1 := by omega
              rcases hk01 with e | e
              · subst e
                have := HPV.out
                rw [show (i - 4 + 0) % 4 = i - 4 by omega, h4.1, gv] at this
                cases this
              · subst e
                have := HPV.out
                rw [show (i - 4 + 1) % 4 = (i - 3) % 4 by omega, h4.2, gv] at this
                cases this
            have hv := HTK.out.2 hno
            rw [gv] at at2
            go_wp2_with fail
            go_ret
            exact ⟨by first | rfl | (rw [hv]; rfl) | (rw [HTD.out, hv]; rfl), HTR.out _ HB.out⟩
          have gv' : gd v = true := by simpa using gv
          rw [gv'] at at2
          have HGV := Hk.mk gv'
          clear gv gv'
          go_wp2_with fail
          exact ⟨⟨k + 1, by go_num, by omega, HB, ⟨fun j hj => by
            by_cases e : j = k
            · rw [e, HPV.out, HGV.out]
            · exact HK.out j (by omega)⟩⟩, by simp [intOf]; omega⟩
        · obtain rfl : k = 2 := by omega
          have hyes : OK i := HSK.out.2 ⟨HI0.out, HG.out.1, HG.out.2, fun q4 => ⟨by
            have := HK.out 0 (by omega)
            rwa [show (i - 4 + 0) % 4 = i - 4 by omega] at this, by
            have := HK.out 1 (by omega)
            rwa [show (i - 4 + 1) % 4 = (i - 3) % 4 by omega] at this⟩⟩
          have hv := HTK.out.1 hyes
          rw [if_neg k4] at hv
          have HV := Hk.mk hv
          clear hv hyes
          go_wp2_with fail
          go_ret
          exact ⟨by first | rfl | (rw [HV.out]; rfl) | (rw [HTD.out, HV.out]; rfl), HTR.out _ HB.out⟩
end Go.Proofs.YthabjihpjdlmoaaDoor
