import Derived.Deep.QuietTactic
import Derived.BigQuiet
import Derived.Deep.RegionWith
import Derived.Deep.RegionHeld3
import Derived.Deep.DeepCutAuto
import Derived.Deep.DeepFit
import Derived.Outline
import Derived.ProofKit
import Derived.OpenShut
import Derived.ChangeSame
import Derived.Test.YtmphmpfeeiipgaaZtaa
import Derived.Test.YtmphmpfeeiipgaaZtab
/- For every argument, TurnsChecks answers true and leaves its argument as it was: whether any input may be is what the reference says. No condition. -/
namespace Go.Proofs.Ytmphmpfeeiipgaa
open Go.ChangeShapes Go.WideShapes Go.ChangeAt Go.RowKit Go.Deep
set_option linter.unusedVariables false
set_option linter.unusedSimpArgs false
theorem owe_len {w : World} {base m c : Nat} {a : Option Addr} {u : List Int} (h : OwE w base a m c u) : u.length = m := h.nq.len
theorem sm_of_ab {n : Nat} {L l : List Cv} (hl : L.length = n) (hl' : l.length = n) (hs : SmC l) (hu : ∀ x, x ∈ L → x.u.length = x.m) (hab : abC L = abC l) (hm : ∀ x, x ∈ l → x.u.length = x.m) : SmC L :=
  ⟨by rw [hl, ← hl']; exact hs.n, fun x hx => by
    obtain ⟨k, hk, e⟩ := List.mem_iff_getElem.1 hx
    have hk' : k < l.length := by omega
    have h1 := ab_getC hab hk
    have e1 : L.getD k default = x := by simp [List.getD, hk, e]
    have h2 := congrArg (fun c => c.f.u.length) h1
    have h3 := hm _ (getD_memC hk')
    have h4 := hs.m _ (getD_memC hk')
    rw [e1] at h2
    rw [← hu x hx]
    have h5 : x.u.length = (l.getD k default).u.length := h2
    rw [h5, h3]
    exact h4⟩
set_option maxRecDepth 1000000 in
set_option maxHeartbeats 6400000 in
theorem turnsChecks_go (la : Option Addr) (ln lc : Nat) (l : List Iv) (ma : Option Addr) (mn mc : Nat) (m : List Iv) (ta : Option Addr) (tn tc : Nat) (ts : List Int) (w : World) (hl : ln ≤ 17592186044416 ∧ InD w w.heap.size la ln l ∧ BdI l) (hm : mn ≤ 17592186044416 ∧ InD w w.heap.size ma mn m ∧ BdI m) (ht : tn ≤ 17592186044416 ∧ Nq w w.heap.size ta tn ts) :
    Calls Try.prog 3 #[.agg #[.slice la ln lc, .slice ma mn mc, .slice ta tn tc]] w fun e w' => e = .returned (.bool true) ∧ Below w.heap.size w w' := by
  have HWB : Hk (Below w.heap.size w (w.alloc (.cells #[.slice la ln lc, .slice ma mn mc, .slice ta tn tc] 25))) := ⟨(Below.refl _ _).alloc (Nat.le_refl _) _⟩
  have hNW : (w.heap.size + 1) ≤ (w.alloc (.cells #[.slice la ln lc, .slice ma mn mc, .slice ta tn tc] 25)).heap.size := by simp
  have HB : Hk (Below (w.heap.size + 1) (w.alloc (.cells #[.slice la ln lc, .slice ma mn mc, .slice ta tn tc] 25)) (w.alloc (.cells #[.slice la ln lc, .slice ma mn mc, .slice ta tn tc] 25))) := ⟨Below.refl _ _⟩
  have HTR : Hk (∀ X, Below (w.heap.size + 1) (w.alloc (.cells #[.slice la ln lc, .slice ma mn mc, .slice ta tn tc] 25)) X → Below w.heap.size w X) := ⟨fun X hX => HWB.out.trans (hX.mono (by omega))⟩
  have P0 : Hk ((w.alloc (.cells #[.slice la ln lc, .slice ma mn mc, .slice ta tn tc] 25)).cell? ⟨w.heap.size, 0, none⟩ = some (.slice la ln lc)) := ⟨(Bk.new w #[.slice la ln lc, .slice ma mn mc, .slice ta tn tc] 25).c 0⟩
  have P1 : Hk ((w.alloc (.cells #[.slice la ln lc, .slice ma mn mc, .slice ta tn tc] 25)).cell? ⟨w.heap.size, 1, none⟩ = some (.slice ma mn mc)) := ⟨(Bk.new w #[.slice la ln lc, .slice ma mn mc, .slice ta tn tc] 25).c 1⟩
  have P2 : Hk ((w.alloc (.cells #[.slice la ln lc, .slice ma mn mc, .slice ta tn tc] 25)).cell? ⟨w.heap.size, 2, none⟩ = some (.slice ta tn tc)) := ⟨(Bk.new w #[.slice la ln lc, .slice ma mn mc, .slice ta tn tc] 25).c 2⟩
  have HHL : Hk (ln ≤ 17592186044416 ∧ InD (w.alloc (.cells #[.slice la ln lc, .slice ma mn mc, .slice ta tn tc] 25)) (w.alloc (.cells #[.slice la ln lc, .slice ma mn mc, .slice ta tn tc] 25)).heap.size la ln l ∧ BdI l) := ⟨hl.1, hl.2.1.later HWB.out, hl.2.2⟩
  have HHM : Hk (mn ≤ 17592186044416 ∧ InD (w.alloc (.cells #[.slice la ln lc, .slice ma mn mc, .slice ta tn tc] 25)) (w.alloc (.cells #[.slice la ln lc, .slice ma mn mc, .slice ta tn tc] 25)).heap.size ma mn m ∧ BdI m) := ⟨hm.1, hm.2.1.later HWB.out, hm.2.2⟩
  have HL := Hk.mk hl
  have HM := Hk.mk hm
  have HT := Hk.mk ht
  clear hl hm ht
  go_enter Try.func3, Try.ntmps3
  go_upto_if 7 with (go_at_call 10; (with_reducible refine (heavy27_any la ln lc l ma mn mc m ta tn tc _ HHL.out HHM.out).mono ?_); rintro e z ⟨hvy, rfl, hb, HV⟩; (first | (have hB2 := Hk.mk (kw_step HB.out hNW hb); clear hb; replace HB := hB2; clear hB2) | (have hB2 := Hk.mk (kw_step HB.out.drew hNW hb); clear hb; replace HB := hB2; clear hB2)))
  cases hvy
  · obtain ⟨hsl, hsm, ht50⟩ := HV.out rfl
    have HSM := Hk.mk hsm
    have hlen := HM.out.2.1.q.len
    have hmn : mn ≤ 1048576 := by have := hsm.n; omega
    have HLN := Hk.mk hlen
    clear HV hsl hsm ht50 HHL HHM HL HT hlen
    go_wp2
    go_loopw [3] (fun i wr => ∃ (k : Nat), i = .int .i64 k ∧ k ≤ mn ∧ Hk (Below (w.heap.size + 1) (w.alloc (.cells #[.slice la ln lc, .slice ma mn mc, .slice ta tn tc] 25)) wr)) (fun i _ => mn - (intOf i).toNat)
    case atStart => exact ⟨0, rfl, Nat.zero_le _, HB⟩
    case round =>
      clear HB
      obtain ⟨k, rfl, hk, HB⟩ := hrel
      have y0 := (HB.out.cell (p := ⟨w.heap.size, 1, none⟩) (Nat.lt_succ_self _)).trans P1.out
      by_cases hlt : k < mn
      · by_cases h30 : k < 30
        · have hd30 : decide ((k : Int) < 30) = true := by rw [decide_eq_true_iff]; omega
          obtain ⟨b, off, ea, hbl, pp, hd⟩ := HM.out.2.1.three hlt
          have hkl : k < m.length := by rw [HLN.out]; exact hlt
          have HSQ := Hk.mk (HSM.out.m _ (getD_memI hkl))
          obtain ⟨q, hqq⟩ : ∃ q, m.getD k default = q := ⟨_, rfl⟩
          rw [hqq] at pp hd HSQ
          have HP3 : Hk (∀ X, Below w.heap.size w X → X.cell? ⟨b, off + k * 3, none⟩ = some (.int .i64 q.t) ∧ X.cell? ⟨b, off + k * 3 + 1, none⟩ = some (.int .i64 q.p) ∧ X.cell? ⟨b, off + k * 3 + 2, none⟩ = some (.slice q.a q.n q.c)) := ⟨fun X hX => ⟨(hX.cell (p := ⟨b, off + k * 3, none⟩) hbl).trans pp.1, (hX.cell (p := ⟨b, off + k * 3 + 1, none⟩) hbl).trans pp.2.1, (hX.cell (p := ⟨b, off + k * 3 + 2, none⟩) hbl).trans pp.2.2⟩⟩
          have HD : Hk (CmD wr wr.heap.size q.a q.n q.l) := ⟨(hd.below (HTR.out _ HB.out) (Nat.le_refl _)).mono (HTR.out _ HB.out).size⟩
          obtain ⟨r0, r1, r2⟩ := HP3.out wr (HTR.out _ HB.out)
          have t0 : (0 : Int) ≤ (k : Int) := by omega
          have t1 : (k : Int) < (mn : Int) := by omega
          have HLT := Hk.mk hlt
          have gk : IntKind.i64.wrap ((k : Int) + 1) = ((k + 1 : Nat) : Int) := by push_cast; exact wr27 (by omega) (by omega)
          subst ea
          clear pp hd hkl hqq hk hlt h30 HM hmn
          cases hv : okN ⟨q.t, q.p, abC q.l⟩
          · have EM := Hk.mk hv
            have ECQ : Hk ((if okN ⟨q.t, q.p, abC q.l⟩ then (0 : Int) else 1) = 1) := ⟨by rw [hv]; rfl⟩
            clear hv
            as_aux_lemma =>
              go_upto_region 8 with (first
                | (go_at_call 11; (with_reducible refine (copyin_any q.t q.p q.a q.n q.c q.l _ HD.out HSQ.out).mono ?_); rintro e z ⟨a2, c2, L2, rfl, ho2, hab2, hb⟩; have HO2 := Hk.mk ho2; have HAB2 := Hk.mk hab2; have HBz := Hk.mk hb; have HZB := Hk.mk (kw_step HB.out hNW hb); have HDZ := Hk.mk (HD.out.later hb); clear ho2 hab2 hb; have HX := Hk.mk (Bk.new z #[.int .i64 q.t, .int .i64 q.p, .slice a2 q.n c2] 29); have HVB := Hk.mk (HZB.out.alloc (kw_size HZB.out hNW) (.cells #[.int .i64 q.t, .int .i64 q.p, .slice a2 q.n c2] 29)); have HD3 : Hk (CmD (z.alloc (.cells #[.int .i64 q.t, .int .i64 q.p, .slice a2 q.n c2] 29)) (z.alloc (.cells #[.int .i64 q.t, .int .i64 q.p, .slice a2 q.n c2] 29)).heap.size a2 q.n L2) := ⟨(HO2.out.d.below ((Below.refl _ _).alloc (Nat.le_refl _) (.cells #[.int .i64 q.t, .int .i64 q.p, .slice a2 q.n c2] 29)) (Nat.le_refl _)).mono (by simp)⟩; have HDZ2 : Hk (CmD (z.alloc (.cells #[.int .i64 q.t, .int .i64 q.p, .slice a2 q.n c2] 29)) (z.alloc (.cells #[.int .i64 q.t, .int .i64 q.p, .slice a2 q.n c2] 29)).heap.size q.a q.n q.l) := ⟨(HDZ.out.below ((Below.refl _ _).alloc (Nat.le_refl _) (.cells #[.int .i64 q.t, .int .i64 q.p, .slice a2 q.n c2] 29)) (Nat.le_refl _)).mono (by simp)⟩; have HS2 : Hk (SmC L2) := ⟨sm_of_ab HO2.out.o.len HD.out.q.len HSQ.out (fun x hx => owe_len (HO2.out.u x hx)) HAB2.out (fun x hx => (HD.out.u x hx).len)⟩; have EC : Hk ((if okN ⟨q.t, q.p, abC L2⟩ then (0 : Int) else 1) = 1) := ⟨by rw [HAB2.out]; exact ECQ.out⟩)
                | (go_at_call 13; (with_reducible refine (tcheck_as 1 q.t q.p a2 q.n c2 L2 _ HD3.out HS2.out EC).mono ?_); rintro e V ⟨rfl, hb⟩; have x0 := (HX.out.below hb).c 0; have x1 := (HX.out.below hb).c 1; have x2 := (HX.out.below hb).c 2; have xl := (HX.out.below hb).lt; have HVB2 := Hk.mk (kw_step HVB.out hNW hb); have HD2 := Hk.mk (HD3.out.later hb); have HDQ := Hk.mk (HDZ2.out.later hb); clear hb)
                | (go_at_call 12; (with_reducible refine (num27_any _ _).mono ?_); rintro e z2 ⟨rfl, hz⟩; rw [hz]; clear hz z2))
              have y1 := (HVB2.out.cell (p := ⟨w.heap.size, 1, none⟩) (Nat.lt_succ_self _)).trans P1.out
              have yl := World.block_lt_of_cell? _ _ y1
              obtain ⟨p0, p1, p2⟩ := HP3.out V (HTR.out _ HVB2.out)
              have pl := World.block_lt_of_cell? _ _ p0
              have HV : Hk (Below V.heap.size V V) := ⟨Below.refl _ _⟩
              clear HO2 HBz HZB HDZ HX HVB HD3 HDZ2 EC ECQ
              refine wp_region_held_drew (S := (fun X => (∀ b o, b < V.heap.size → X.cell? ⟨b, o, none⟩ = V.cell? ⟨b, o, none⟩) ∧ Below V.heap.size V X)) (by kernel_rfl) ?_ (fun hHeld => ?_)
              · exact kw_S (kw_drew HV.out)
              refine wpAnyH_take (i := 0) (v := ?_) rfl (by kernel_rfl) (by kernel_rfl) (by kernel_rfl) (fun _ _ _ h => h) (Or.inl ⟨by rfl, fun wX hSw => ?_⟩) (by assumption) ?_
              rotate_left
              · (try dsimp only at hSw); go_simp; try with_reducible rfl
              (try simp only [Act.put, List.getElem_toArray, List.getElem_cons_succ, List.getElem_cons_zero, List.setIfInBounds_toArray, List.set_cons_zero, List.set_cons_succ])
              refine wpAnyH_take (i := 1) (v := ?_) rfl (by kernel_rfl) (by kernel_rfl) (by kernel_rfl) (fun _ _ _ h => h) (Or.inl ⟨by rfl, fun wX hSw => ?_⟩) (by assumption) ?_
              rotate_left
              · (try dsimp only at hSw); go_simp; try with_reducible rfl
              (try simp only [Act.put, List.getElem_toArray, List.getElem_cons_succ, List.getElem_cons_zero, List.setIfInBounds_toArray, List.set_cons_zero, List.set_cons_succ])
              refine wpAnyH_take (i := 2) (v := ?_) rfl (by kernel_rfl) (by kernel_rfl) (by kernel_rfl) (fun _ _ _ h => h) (Or.inl ⟨by rfl, fun wX hSw => ?_⟩) (by assumption) ?_
              rotate_left
              · (try dsimp only at hSw); go_simp; try with_reducible rfl
              (try simp only [Act.put, List.getElem_toArray, List.getElem_cons_succ, List.getElem_cons_zero, List.setIfInBounds_toArray, List.set_cons_zero, List.set_cons_succ])
              refine wpAnyH_take (i := 3) (v := ?_) rfl (by kernel_rfl) (by kernel_rfl) (by kernel_rfl) (fun _ _ _ h => h) (Or.inl ⟨by rfl, fun wX hSw => ?_⟩) (by assumption) ?_
              rotate_left
              · (try dsimp only at hSw); go_simp; try with_reducible rfl
              (try simp only [Act.put, List.getElem_toArray, List.getElem_cons_succ, List.getElem_cons_zero, List.setIfInBounds_toArray, List.set_cons_zero, List.set_cons_succ])
              refine wpAnyH_take (i := 4) (v := ?_) rfl (by kernel_rfl) (by kernel_rfl) (by kernel_rfl) (fun _ _ _ h => h) (Or.inl ⟨by rfl, fun wX hSw => ?_⟩) (by assumption) ?_
              rotate_left
              · (try dsimp only at hSw); go_simp; try with_reducible rfl
              (try simp only [Act.put, List.getElem_toArray, List.getElem_cons_succ, List.getElem_cons_zero, List.setIfInBounds_toArray, List.set_cons_zero, List.set_cons_succ])
              refine wpAnyH_take (i := 5) (v := ?_) rfl (by kernel_rfl) (by kernel_rfl) (by kernel_rfl) (fun _ _ _ h => h) (Or.inl ⟨by rfl, fun wX hSw => ?_⟩) (by assumption) ?_
              rotate_left
              · (try dsimp only at hSw); go_simp; try with_reducible rfl
              (try simp only [Act.put, List.getElem_toArray, List.getElem_cons_succ, List.getElem_cons_zero, List.setIfInBounds_toArray, List.set_cons_zero, List.set_cons_succ])
              refine wpAnyH_take (i := 6) (v := ?_) rfl (by kernel_rfl) (by kernel_rfl) (by kernel_rfl) (fun _ _ _ h => h) (Or.inl ⟨by rfl, fun wX hSw => ?_⟩) (by assumption) ?_
              rotate_left
              · (try dsimp only at hSw); go_simp; try with_reducible rfl
              (try simp only [Act.put, List.getElem_toArray, List.getElem_cons_succ, List.getElem_cons_zero, List.setIfInBounds_toArray, List.set_cons_zero, List.set_cons_succ])
              refine wpAnyH_ready (rs := [7]) (by kernel_rfl) (by simp) ?_
              refine AllReadyH.cons rfl (fun K hK => ?_) (AllReadyH.nil)
              go_simp
              (first | (go_at_call 14; (with_reducible refine (rmay27_as false q.t q.p q.a q.n q.c q.l _ (by first | exact (HDQ.out.below HV.out (Nat.le_refl _)).mono HV.out.size | exact (HDQ.out.below HV.out.drew (Nat.le_refl _)).mono HV.out.drew.size) HSQ.out EM).mono ?_); rintro e z ⟨rfl, hb⟩; have hB2 : Hk (Below V.heap.size V z) := ⟨by first | exact kw_step HV.out (Nat.le_refl _) hb | exact kw_step HV.out.drew (Nat.le_refl _) hb⟩; clear hb; replace HV := hB2; clear hB2) | (go_at_call 15; (with_reducible refine (eqin_as true q.t q.p a2 q.n c2 L2 q.t q.p q.a q.n q.c q.l _ (by first | exact (HD2.out.below HV.out (Nat.le_refl _)).mono HV.out.size | exact (HD2.out.below HV.out.drew (Nat.le_refl _)).mono HV.out.drew.size) (by first | exact (HDQ.out.below HV.out (Nat.le_refl _)).mono HV.out.size | exact (HDQ.out.below HV.out.drew (Nat.le_refl _)).mono HV.out.drew.size) HS2.out HSQ.out ⟨⟨fun _ => rfl, fun _ => by rw [HAB2.out]⟩⟩).mono ?_); rintro e z ⟨rfl, hb⟩; have hB2 : Hk (Below V.heap.size V z) := ⟨by first | exact kw_step HV.out (Nat.le_refl _) hb | exact kw_step HV.out.drew (Nat.le_refl _) hb⟩; clear hb; replace HV := hB2; clear hB2))
              refine hK.out _ _ ?_ (fun hHeld => ?_)
              · exact kw_S HV.out
              clear hK K
              (try simp only [Act.put, List.getElem_toArray, List.getElem_cons_succ, List.getElem_cons_zero, List.setIfInBounds_toArray, List.set_cons_zero, List.set_cons_succ])
              refine wpAnyH_take (i := 8) (v := ?_) rfl (by kernel_rfl) (by kernel_rfl) (by kernel_rfl) (fun _ _ _ h => h) (Or.inl ⟨by rfl, fun wX hSw => ?_⟩) (by assumption) ?_
              rotate_left
              · (try dsimp only at hSw); go_simp; try with_reducible rfl
              (try simp only [Act.put, List.getElem_toArray, List.getElem_cons_succ, List.getElem_cons_zero, List.setIfInBounds_toArray, List.set_cons_zero, List.set_cons_succ])
              refine wpAnyH_take (i := 9) (v := ?_) rfl (by kernel_rfl) (by kernel_rfl) (by kernel_rfl) (fun _ _ _ h => h) (Or.inl ⟨by rfl, fun wX hSw => ?_⟩) (by assumption) ?_
              rotate_left
              · (try dsimp only at hSw); go_simp; try with_reducible rfl
              (try simp only [Act.put, List.getElem_toArray, List.getElem_cons_succ, List.getElem_cons_zero, List.setIfInBounds_toArray, List.set_cons_zero, List.set_cons_succ])
              refine wpAnyH_take (i := 10) (v := ?_) rfl (by kernel_rfl) (by kernel_rfl) (by kernel_rfl) (fun _ _ _ h => h) (Or.inl ⟨by rfl, fun wX hSw => ?_⟩) (by assumption) ?_
              rotate_left
              · (try dsimp only at hSw); go_simp; try with_reducible rfl
              (try simp only [Act.put, List.getElem_toArray, List.getElem_cons_succ, List.getElem_cons_zero, List.setIfInBounds_toArray, List.set_cons_zero, List.set_cons_succ])
              refine wpAnyH_take (i := 11) (v := ?_) rfl (by kernel_rfl) (by kernel_rfl) (by kernel_rfl) (fun _ _ _ h => h) (Or.inl ⟨by rfl, fun wX hSw => ?_⟩) (by assumption) ?_
              rotate_left
              · (try dsimp only at hSw); go_simp; try with_reducible rfl
              (try simp only [Act.put, List.getElem_toArray, List.getElem_cons_succ, List.getElem_cons_zero, List.setIfInBounds_toArray, List.set_cons_zero, List.set_cons_succ])
              refine wpAnyH_take (i := 12) (v := ?_) rfl (by kernel_rfl) (by kernel_rfl) (by kernel_rfl) (fun _ _ _ h => h) (Or.inl ⟨by rfl, fun wX hSw => ?_⟩) (by assumption) ?_
              rotate_left
              · (try dsimp only at hSw); go_simp; try with_reducible rfl
              (try simp only [Act.put, List.getElem_toArray, List.getElem_cons_succ, List.getElem_cons_zero, List.setIfInBounds_toArray, List.set_cons_zero, List.set_cons_succ])
              refine wpAnyH_take (i := 13) (v := ?_) rfl (by kernel_rfl) (by kernel_rfl) (by kernel_rfl) (fun _ _ _ h => h) (Or.inl ⟨by rfl, fun wX hSw => ?_⟩) (by assumption) ?_
              rotate_left
              · (try dsimp only at hSw); go_simp; try with_reducible rfl
              (try simp only [Act.put, List.getElem_toArray, List.getElem_cons_succ, List.getElem_cons_zero, List.setIfInBounds_toArray, List.set_cons_zero, List.set_cons_succ])
              refine wpAnyH_take (i := 14) (v := ?_) rfl (by kernel_rfl) (by kernel_rfl) (by kernel_rfl) (fun _ _ _ h => h) (Or.inl ⟨by rfl, fun wX hSw => ?_⟩) (by assumption) ?_
              rotate_left
              · (try dsimp only at hSw); go_simp; try with_reducible rfl
              (try simp only [Act.put, List.getElem_toArray, List.getElem_cons_succ, List.getElem_cons_zero, List.setIfInBounds_toArray, List.set_cons_zero, List.set_cons_succ])
              refine wpAnyH_take (i := 15) (v := ?_) rfl (by kernel_rfl) (by kernel_rfl) (by kernel_rfl) (fun _ _ _ h => h) (Or.inl ⟨by rfl, fun wX hSw => ?_⟩) (by assumption) ?_
              rotate_left
              · (try dsimp only at hSw); go_simp; try with_reducible rfl
              (try simp only [Act.put, List.getElem_toArray, List.getElem_cons_succ, List.getElem_cons_zero, List.setIfInBounds_toArray, List.set_cons_zero, List.set_cons_succ])
              refine wpAnyH_take (i := 16) (v := ?_) rfl (by kernel_rfl) (by kernel_rfl) (by kernel_rfl) (fun _ _ _ h => h) (Or.inl ⟨by rfl, fun wX hSw => ?_⟩) (by assumption) ?_
              rotate_left
              · (try dsimp only at hSw); go_simp; try with_reducible rfl
              (try simp only [Act.put, List.getElem_toArray, List.getElem_cons_succ, List.getElem_cons_zero, List.setIfInBounds_toArray, List.set_cons_zero, List.set_cons_succ])
              refine wpAnyH_take (i := 17) (v := ?_) rfl (by kernel_rfl) (by kernel_rfl) (by kernel_rfl) (fun _ _ _ h => h) (Or.inl ⟨by rfl, fun wX hSw => ?_⟩) (by assumption) ?_
              rotate_left
              · (try dsimp only at hSw); go_simp; try with_reducible rfl
              (try simp only [Act.put, List.getElem_toArray, List.getElem_cons_succ, List.getElem_cons_zero, List.setIfInBounds_toArray, List.set_cons_zero, List.set_cons_succ])
              refine wpAnyH_take (i := 18) (v := ?_) rfl (by kernel_rfl) (by kernel_rfl) (by kernel_rfl) (fun _ _ _ h => h) (Or.inl ⟨by rfl, fun wX hSw => ?_⟩) (by assumption) ?_
              rotate_left
              · (try dsimp only at hSw); go_simp; try with_reducible rfl
              (try simp only [Act.put, List.getElem_toArray, List.getElem_cons_succ, List.getElem_cons_zero, List.setIfInBounds_toArray, List.set_cons_zero, List.set_cons_succ])
              refine wpAnyH_take (i := 19) (v := ?_) rfl (by kernel_rfl) (by kernel_rfl) (by kernel_rfl) (fun _ _ _ h => h) (Or.inl ⟨by rfl, fun wX hSw => ?_⟩) (by assumption) ?_
              rotate_left
              · (try dsimp only at hSw); go_simp; try with_reducible rfl
              (try simp only [Act.put, List.getElem_toArray, List.getElem_cons_succ, List.getElem_cons_zero, List.setIfInBounds_toArray, List.set_cons_zero, List.set_cons_succ])
              refine wpAnyH_take (i := 20) (v := ?_) rfl (by kernel_rfl) (by kernel_rfl) (by kernel_rfl) (fun _ _ _ h => h) (Or.inl ⟨by rfl, fun wX hSw => ?_⟩) (by assumption) ?_
              rotate_left
              · (try dsimp only at hSw); go_simp; try with_reducible rfl
              (try simp only [Act.put, List.getElem_toArray, List.getElem_cons_succ, List.getElem_cons_zero, List.setIfInBounds_toArray, List.set_cons_zero, List.set_cons_succ])
              refine wpAnyH_take (i := 21) (v := ?_) rfl (by kernel_rfl) (by kernel_rfl) (by kernel_rfl) (fun _ _ _ h => h) (Or.inl ⟨by rfl, fun wX hSw => ?_⟩) (by assumption) ?_
              rotate_left
              · (try dsimp only at hSw); go_simp; try with_reducible rfl
              (try simp only [Act.put, List.getElem_toArray, List.getElem_cons_succ, List.getElem_cons_zero, List.setIfInBounds_toArray, List.set_cons_zero, List.set_cons_succ])
              refine wpAnyH_take (i := 22) (v := ?_) rfl (by kernel_rfl) (by kernel_rfl) (by kernel_rfl) (fun _ _ _ h => h) (Or.inl ⟨by rfl, fun wX hSw => ?_⟩) (by assumption) ?_
              rotate_left
              · (try dsimp only at hSw); go_simp; try with_reducible rfl
              (try simp only [Act.put, List.getElem_toArray, List.getElem_cons_succ, List.getElem_cons_zero, List.setIfInBounds_toArray, List.set_cons_zero, List.set_cons_succ])
              refine wpAnyH_take (i := 23) (v := ?_) rfl (by kernel_rfl) (by kernel_rfl) (by kernel_rfl) (fun _ _ _ h => h) (Or.inl ⟨by rfl, fun wX hSw => ?_⟩) (by assumption) ?_
              rotate_left
              · (try dsimp only at hSw); go_simp; try with_reducible rfl
              (try simp only [Act.put, List.getElem_toArray, List.getElem_cons_succ, List.getElem_cons_zero, List.setIfInBounds_toArray, List.set_cons_zero, List.set_cons_succ])
              refine wpAnyH_ready (rs := [24]) (by kernel_rfl) (by simp) ?_
              refine AllReadyH.cons rfl (fun K hK => ?_) (AllReadyH.nil)
              go_simp
              (first | (go_at_call 14; (with_reducible refine (rmay27_as false q.t q.p q.a q.n q.c q.l _ (by first | exact (HDQ.out.below HV.out (Nat.le_refl _)).mono HV.out.size | exact (HDQ.out.below HV.out.drew (Nat.le_refl _)).mono HV.out.drew.size) HSQ.out EM).mono ?_); rintro e z ⟨rfl, hb⟩; have hB2 : Hk (Below V.heap.size V z) := ⟨by first | exact kw_step HV.out (Nat.le_refl _) hb | exact kw_step HV.out.drew (Nat.le_refl _) hb⟩; clear hb; replace HV := hB2; clear hB2) | (go_at_call 15; (with_reducible refine (eqin_as true q.t q.p a2 q.n c2 L2 q.t q.p q.a q.n q.c q.l _ (by first | exact (HD2.out.below HV.out (Nat.le_refl _)).mono HV.out.size | exact (HD2.out.below HV.out.drew (Nat.le_refl _)).mono HV.out.drew.size) (by first | exact (HDQ.out.below HV.out (Nat.le_refl _)).mono HV.out.size | exact (HDQ.out.below HV.out.drew (Nat.le_refl _)).mono HV.out.drew.size) HS2.out HSQ.out ⟨⟨fun _ => rfl, fun _ => by rw [HAB2.out]⟩⟩).mono ?_); rintro e z ⟨rfl, hb⟩; have hB2 : Hk (Below V.heap.size V z) := ⟨by first | exact kw_step HV.out (Nat.le_refl _) hb | exact kw_step HV.out.drew (Nat.le_refl _) hb⟩; clear hb; replace HV := hB2; clear hB2))
              refine hK.out _ _ ?_ (fun hHeld => ?_)
              · exact kw_S HV.out
              clear hK K
              (try simp only [Act.put, List.getElem_toArray, List.getElem_cons_succ, List.getElem_cons_zero, List.setIfInBounds_toArray, List.set_cons_zero, List.set_cons_succ])
              refine wpAnyH_take (i := 25) (v := ?_) rfl (by kernel_rfl) (by kernel_rfl) (by kernel_rfl) (fun _ _ _ h => h) (Or.inl ⟨by rfl, fun wX hSw => ?_⟩) (by assumption) ?_
              rotate_left
              · (try dsimp only at hSw); go_simp; try with_reducible rfl
              (try simp only [Act.put, List.getElem_toArray, List.getElem_cons_succ, List.getElem_cons_zero, List.setIfInBounds_toArray, List.set_cons_zero, List.set_cons_succ])
              refine wpAnyH_take (i := 26) (v := ?_) rfl (by kernel_rfl) (by kernel_rfl) (by kernel_rfl) (fun _ _ _ h => h) (Or.inl ⟨by rfl, fun wX hSw => ?_⟩) (by assumption) ?_
              rotate_left
              · (try dsimp only at hSw); go_simp; try with_reducible rfl
              (try simp only [Act.put, List.getElem_toArray, List.getElem_cons_succ, List.getElem_cons_zero, List.setIfInBounds_toArray, List.set_cons_zero, List.set_cons_succ])
              refine wpAnyH_done (by kernel_rfl) ?_ _
              have HB9 := Hk.mk (HVB2.out.trans (HV.out.mono (kw_size HVB2.out hNW)))
              go_wp2
              exact ⟨⟨k + 1, by go_num, HLT.out, HB9⟩, by first | exact nx_ms HLT.out | exact nx_ms' HLT.out⟩
          · have EM := Hk.mk hv
            have ECQ : Hk ((if okN ⟨q.t, q.p, abC q.l⟩ then (0 : Int) else 1) = 0) := ⟨by rw [hv]; rfl⟩
            clear hv
            as_aux_lemma =>
              go_upto_region 8 with (first
                | (go_at_call 11; (with_reducible refine (copyin_any q.t q.p q.a q.n q.c q.l _ HD.out HSQ.out).mono ?_); rintro e z ⟨a2, c2, L2, rfl, ho2, hab2, hb⟩; have HO2 := Hk.mk ho2; have HAB2 := Hk.mk hab2; have HBz := Hk.mk hb; have HZB := Hk.mk (kw_step HB.out hNW hb); have HDZ := Hk.mk (HD.out.later hb); clear ho2 hab2 hb; have HX := Hk.mk (Bk.new z #[.int .i64 q.t, .int .i64 q.p, .slice a2 q.n c2] 29); have HVB := Hk.mk (HZB.out.alloc (kw_size HZB.out hNW) (.cells #[.int .i64 q.t, .int .i64 q.p, .slice a2 q.n c2] 29)); have HD3 : Hk (CmD (z.alloc (.cells #[.int .i64 q.t, .int .i64 q.p, .slice a2 q.n c2] 29)) (z.alloc (.cells #[.int .i64 q.t, .int .i64 q.p, .slice a2 q.n c2] 29)).heap.size a2 q.n L2) := ⟨(HO2.out.d.below ((Below.refl _ _).alloc (Nat.le_refl _) (.cells #[.int .i64 q.t, .int .i64 q.p, .slice a2 q.n c2] 29)) (Nat.le_refl _)).mono (by simp)⟩; have HDZ2 : Hk (CmD (z.alloc (.cells #[.int .i64 q.t, .int .i64 q.p, .slice a2 q.n c2] 29)) (z.alloc (.cells #[.int .i64 q.t, .int .i64 q.p, .slice a2 q.n c2] 29)).heap.size q.a q.n q.l) := ⟨(HDZ.out.below ((Below.refl _ _).alloc (Nat.le_refl _) (.cells #[.int .i64 q.t, .int .i64 q.p, .slice a2 q.n c2] 29)) (Nat.le_refl _)).mono (by simp)⟩; have HS2 : Hk (SmC L2) := ⟨sm_of_ab HO2.out.o.len HD.out.q.len HSQ.out (fun x hx => owe_len (HO2.out.u x hx)) HAB2.out (fun x hx => (HD.out.u x hx).len)⟩; have EC : Hk ((if okN ⟨q.t, q.p, abC L2⟩ then (0 : Int) else 1) = 0) := ⟨by rw [HAB2.out]; exact ECQ.out⟩)
                | (go_at_call 13; (with_reducible refine (tcheck_as 0 q.t q.p a2 q.n c2 L2 _ HD3.out HS2.out EC).mono ?_); rintro e V ⟨rfl, hb⟩; have x0 := (HX.out.below hb).c 0; have x1 := (HX.out.below hb).c 1; have x2 := (HX.out.below hb).c 2; have xl := (HX.out.below hb).lt; have HVB2 := Hk.mk (kw_step HVB.out hNW hb); have HD2 := Hk.mk (HD3.out.later hb); have HDQ := Hk.mk (HDZ2.out.later hb); clear hb)
                | (go_at_call 12; (with_reducible refine (num27_any _ _).mono ?_); rintro e z2 ⟨rfl, hz⟩; rw [hz]; clear hz z2))
              have y1 := (HVB2.out.cell (p := ⟨w.heap.size, 1, none⟩) (Nat.lt_succ_self _)).trans P1.out
              have yl := World.block_lt_of_cell? _ _ y1
              obtain ⟨p0, p1, p2⟩ := HP3.out V (HTR.out _ HVB2.out)
              have pl := World.block_lt_of_cell? _ _ p0
              have HV : Hk (Below V.heap.size V V) := ⟨Below.refl _ _⟩
              clear HO2 HBz HZB HDZ HX HVB HD3 HDZ2 EC ECQ
              refine wp_region_held_drew (S := (fun X => (∀ b o, b < V.heap.size → X.cell? ⟨b, o, none⟩ = V.cell? ⟨b, o, none⟩) ∧ Below V.heap.size V X)) (by kernel_rfl) ?_ (fun hHeld => ?_)
              · exact kw_S (kw_drew HV.out)
              refine wpAnyH_take (i := 0) (v := ?_) rfl (by kernel_rfl) (by kernel_rfl) (by kernel_rfl) (fun _ _ _ h => h) (Or.inl ⟨by rfl, fun wX hSw => ?_⟩) (by assumption) ?_
              rotate_left
              · (try dsimp only at hSw); go_simp; try with_reducible rfl
              (try simp only [Act.put, List.getElem_toArray, List.getElem_cons_succ, List.getElem_cons_zero, List.setIfInBounds_toArray, List.set_cons_zero, List.set_cons_succ])
              refine wpAnyH_take (i := 1) (v := ?_) rfl (by kernel_rfl) (by kernel_rfl) (by kernel_rfl) (fun _ _ _ h => h) (Or.inl ⟨by rfl, fun wX hSw => ?_⟩) (by assumption) ?_
              rotate_left
              · (try dsimp only at hSw); go_simp; try with_reducible rfl
              (try simp only [Act.put, List.getElem_toArray, List.getElem_cons_succ, List.getElem_cons_zero, List.setIfInBounds_toArray, List.set_cons_zero, List.set_cons_succ])
              refine wpAnyH_take (i := 2) (v := ?_) rfl (by kernel_rfl) (by kernel_rfl) (by kernel_rfl) (fun _ _ _ h => h) (Or.inl ⟨by rfl, fun wX hSw => ?_⟩) (by assumption) ?_
              rotate_left
              · (try dsimp only at hSw); go_simp; try with_reducible rfl
              (try simp only [Act.put, List.getElem_toArray, List.getElem_cons_succ, List.getElem_cons_zero, List.setIfInBounds_toArray, List.set_cons_zero, List.set_cons_succ])
              refine wpAnyH_take (i := 3) (v := ?_) rfl (by kernel_rfl) (by kernel_rfl) (by kernel_rfl) (fun _ _ _ h => h) (Or.inl ⟨by rfl, fun wX hSw => ?_⟩) (by assumption) ?_
              rotate_left
              · (try dsimp only at hSw); go_simp; try with_reducible rfl
              (try simp only [Act.put, List.getElem_toArray, List.getElem_cons_succ, List.getElem_cons_zero, List.setIfInBounds_toArray, List.set_cons_zero, List.set_cons_succ])
              refine wpAnyH_take (i := 4) (v := ?_) rfl (by kernel_rfl) (by kernel_rfl) (by kernel_rfl) (fun _ _ _ h => h) (Or.inl ⟨by rfl, fun wX hSw => ?_⟩) (by assumption) ?_
              rotate_left
              · (try dsimp only at hSw); go_simp; try with_reducible rfl
              (try simp only [Act.put, List.getElem_toArray, List.getElem_cons_succ, List.getElem_cons_zero, List.setIfInBounds_toArray, List.set_cons_zero, List.set_cons_succ])
              refine wpAnyH_take (i := 5) (v := ?_) rfl (by kernel_rfl) (by kernel_rfl) (by kernel_rfl) (fun _ _ _ h => h) (Or.inl ⟨by rfl, fun wX hSw => ?_⟩) (by assumption) ?_
              rotate_left
              · (try dsimp only at hSw); go_simp; try with_reducible rfl
              (try simp only [Act.put, List.getElem_toArray, List.getElem_cons_succ, List.getElem_cons_zero, List.setIfInBounds_toArray, List.set_cons_zero, List.set_cons_succ])
              refine wpAnyH_take (i := 6) (v := ?_) rfl (by kernel_rfl) (by kernel_rfl) (by kernel_rfl) (fun _ _ _ h => h) (Or.inl ⟨by rfl, fun wX hSw => ?_⟩) (by assumption) ?_
              rotate_left
              · (try dsimp only at hSw); go_simp; try with_reducible rfl
              (try simp only [Act.put, List.getElem_toArray, List.getElem_cons_succ, List.getElem_cons_zero, List.setIfInBounds_toArray, List.set_cons_zero, List.set_cons_succ])
              refine wpAnyH_ready (rs := [7]) (by kernel_rfl) (by simp) ?_
              refine AllReadyH.cons rfl (fun K hK => ?_) (AllReadyH.nil)
              go_simp
              (first | (go_at_call 14; (with_reducible refine (rmay27_as true q.t q.p q.a q.n q.c q.l _ (by first | exact (HDQ.out.below HV.out (Nat.le_refl _)).mono HV.out.size | exact (HDQ.out.below HV.out.drew (Nat.le_refl _)).mono HV.out.drew.size) HSQ.out EM).mono ?_); rintro e z ⟨rfl, hb⟩; have hB2 : Hk (Below V.heap.size V z) := ⟨by first | exact kw_step HV.out (Nat.le_refl _) hb | exact kw_step HV.out.drew (Nat.le_refl _) hb⟩; clear hb; replace HV := hB2; clear hB2) | (go_at_call 15; (with_reducible refine (eqin_as true q.t q.p a2 q.n c2 L2 q.t q.p q.a q.n q.c q.l _ (by first | exact (HD2.out.below HV.out (Nat.le_refl _)).mono HV.out.size | exact (HD2.out.below HV.out.drew (Nat.le_refl _)).mono HV.out.drew.size) (by first | exact (HDQ.out.below HV.out (Nat.le_refl _)).mono HV.out.size | exact (HDQ.out.below HV.out.drew (Nat.le_refl _)).mono HV.out.drew.size) HS2.out HSQ.out ⟨⟨fun _ => rfl, fun _ => by rw [HAB2.out]⟩⟩).mono ?_); rintro e z ⟨rfl, hb⟩; have hB2 : Hk (Below V.heap.size V z) := ⟨by first | exact kw_step HV.out (Nat.le_refl _) hb | exact kw_step HV.out.drew (Nat.le_refl _) hb⟩; clear hb; replace HV := hB2; clear hB2))
              refine hK.out _ _ ?_ (fun hHeld => ?_)
              · exact kw_S HV.out
              clear hK K
              (try simp only [Act.put, List.getElem_toArray, List.getElem_cons_succ, List.getElem_cons_zero, List.setIfInBounds_toArray, List.set_cons_zero, List.set_cons_succ])
              refine wpAnyH_take (i := 8) (v := ?_) rfl (by kernel_rfl) (by kernel_rfl) (by kernel_rfl) (fun _ _ _ h => h) (Or.inl ⟨by rfl, fun wX hSw => ?_⟩) (by assumption) ?_
              rotate_left
              · (try dsimp only at hSw); go_simp; try with_reducible rfl
              (try simp only [Act.put, List.getElem_toArray, List.getElem_cons_succ, List.getElem_cons_zero, List.setIfInBounds_toArray, List.set_cons_zero, List.set_cons_succ])
              refine wpAnyH_take (i := 9) (v := ?_) rfl (by kernel_rfl) (by kernel_rfl) (by kernel_rfl) (fun _ _ _ h => h) (Or.inl ⟨by rfl, fun wX hSw => ?_⟩) (by assumption) ?_
              rotate_left
              · (try dsimp only at hSw); go_simp; try with_reducible rfl
              (try simp only [Act.put, List.getElem_toArray, List.getElem_cons_succ, List.getElem_cons_zero, List.setIfInBounds_toArray, List.set_cons_zero, List.set_cons_succ])
              refine wpAnyH_take (i := 10) (v := ?_) rfl (by kernel_rfl) (by kernel_rfl) (by kernel_rfl) (fun _ _ _ h => h) (Or.inl ⟨by rfl, fun wX hSw => ?_⟩) (by assumption) ?_
              rotate_left
              · (try dsimp only at hSw); go_simp; try with_reducible rfl
              (try simp only [Act.put, List.getElem_toArray, List.getElem_cons_succ, List.getElem_cons_zero, List.setIfInBounds_toArray, List.set_cons_zero, List.set_cons_succ])
              refine wpAnyH_take (i := 11) (v := ?_) rfl (by kernel_rfl) (by kernel_rfl) (by kernel_rfl) (fun _ _ _ h => h) (Or.inl ⟨by rfl, fun wX hSw => ?_⟩) (by assumption) ?_
              rotate_left
              · (try dsimp only at hSw); go_simp; try with_reducible rfl
              (try simp only [Act.put, List.getElem_toArray, List.getElem_cons_succ, List.getElem_cons_zero, List.setIfInBounds_toArray, List.set_cons_zero, List.set_cons_succ])
              refine wpAnyH_take (i := 12) (v := ?_) rfl (by kernel_rfl) (by kernel_rfl) (by kernel_rfl) (fun _ _ _ h => h) (Or.inl ⟨by rfl, fun wX hSw => ?_⟩) (by assumption) ?_
              rotate_left
              · (try dsimp only at hSw); go_simp; try with_reducible rfl
              (try simp only [Act.put, List.getElem_toArray, List.getElem_cons_succ, List.getElem_cons_zero, List.setIfInBounds_toArray, List.set_cons_zero, List.set_cons_succ])
              refine wpAnyH_take (i := 13) (v := undef) rfl (by kernel_rfl) (by kernel_rfl) (by kernel_rfl) (fun _ _ _ h => h) (Or.inr ⟨by rfl, rfl⟩) (by assumption) ?_
              (try simp only [Act.put, List.getElem_toArray, List.getElem_cons_succ, List.getElem_cons_zero, List.setIfInBounds_toArray, List.set_cons_zero, List.set_cons_succ])
              refine wpAnyH_take (i := 14) (v := undef) rfl (by kernel_rfl) (by kernel_rfl) (by kernel_rfl) (fun _ _ _ h => h) (Or.inr ⟨by rfl, rfl⟩) (by assumption) ?_
              (try simp only [Act.put, List.getElem_toArray, List.getElem_cons_succ, List.getElem_cons_zero, List.setIfInBounds_toArray, List.set_cons_zero, List.set_cons_succ])
              refine wpAnyH_take (i := 15) (v := ?_) rfl (by kernel_rfl) (by kernel_rfl) (by kernel_rfl) (fun _ _ _ h => h) (Or.inl ⟨by rfl, fun wX hSw => ?_⟩) (by assumption) ?_
              rotate_left
              · (try dsimp only at hSw); go_simp; try with_reducible rfl
              (try simp only [Act.put, List.getElem_toArray, List.getElem_cons_succ, List.getElem_cons_zero, List.setIfInBounds_toArray, List.set_cons_zero, List.set_cons_succ])
              refine wpAnyH_take (i := 16) (v := ?_) rfl (by kernel_rfl) (by kernel_rfl) (by kernel_rfl) (fun _ _ _ h => h) (Or.inl ⟨by rfl, fun wX hSw => ?_⟩) (by assumption) ?_
              rotate_left
              · (try dsimp only at hSw); go_simp; try with_reducible rfl
              (try simp only [Act.put, List.getElem_toArray, List.getElem_cons_succ, List.getElem_cons_zero, List.setIfInBounds_toArray, List.set_cons_zero, List.set_cons_succ])
              refine wpAnyH_take (i := 17) (v := ?_) rfl (by kernel_rfl) (by kernel_rfl) (by kernel_rfl) (fun _ _ _ h => h) (Or.inl ⟨by rfl, fun wX hSw => ?_⟩) (by assumption) ?_
              rotate_left
              · (try dsimp only at hSw); go_simp; try with_reducible rfl
              (try simp only [Act.put, List.getElem_toArray, List.getElem_cons_succ, List.getElem_cons_zero, List.setIfInBounds_toArray, List.set_cons_zero, List.set_cons_succ])
              refine wpAnyH_take (i := 18) (v := ?_) rfl (by kernel_rfl) (by kernel_rfl) (by kernel_rfl) (fun _ _ _ h => h) (Or.inl ⟨by rfl, fun wX hSw => ?_⟩) (by assumption) ?_
              rotate_left
              · (try dsimp only at hSw); go_simp; try with_reducible rfl
              (try simp only [Act.put, List.getElem_toArray, List.getElem_cons_succ, List.getElem_cons_zero, List.setIfInBounds_toArray, List.set_cons_zero, List.set_cons_succ])
              refine wpAnyH_take (i := 19) (v := ?_) rfl (by kernel_rfl) (by kernel_rfl) (by kernel_rfl) (fun _ _ _ h => h) (Or.inl ⟨by rfl, fun wX hSw => ?_⟩) (by assumption) ?_
              rotate_left
              · (try dsimp only at hSw); go_simp; try with_reducible rfl
              (try simp only [Act.put, List.getElem_toArray, List.getElem_cons_succ, List.getElem_cons_zero, List.setIfInBounds_toArray, List.set_cons_zero, List.set_cons_succ])
              refine wpAnyH_take (i := 20) (v := ?_) rfl (by kernel_rfl) (by kernel_rfl) (by kernel_rfl) (fun _ _ _ h => h) (Or.inl ⟨by rfl, fun wX hSw => ?_⟩) (by assumption) ?_
              rotate_left
              · (try dsimp only at hSw); go_simp; try with_reducible rfl
              (try simp only [Act.put, List.getElem_toArray, List.getElem_cons_succ, List.getElem_cons_zero, List.setIfInBounds_toArray, List.set_cons_zero, List.set_cons_succ])
              refine wpAnyH_take (i := 21) (v := ?_) rfl (by kernel_rfl) (by kernel_rfl) (by kernel_rfl) (fun _ _ _ h => h) (Or.inl ⟨by rfl, fun wX hSw => ?_⟩) (by assumption) ?_
              rotate_left
              · (try dsimp only at hSw); go_simp; try with_reducible rfl
              (try simp only [Act.put, List.getElem_toArray, List.getElem_cons_succ, List.getElem_cons_zero, List.setIfInBounds_toArray, List.set_cons_zero, List.set_cons_succ])
              refine wpAnyH_take (i := 22) (v := ?_) rfl (by kernel_rfl) (by kernel_rfl) (by kernel_rfl) (fun _ _ _ h => h) (Or.inl ⟨by rfl, fun wX hSw => ?_⟩) (by assumption) ?_
              rotate_left
              · (try dsimp only at hSw); go_simp; try with_reducible rfl
              (try simp only [Act.put, List.getElem_toArray, List.getElem_cons_succ, List.getElem_cons_zero, List.setIfInBounds_toArray, List.set_cons_zero, List.set_cons_succ])
              refine wpAnyH_take (i := 23) (v := ?_) rfl (by kernel_rfl) (by kernel_rfl) (by kernel_rfl) (fun _ _ _ h => h) (Or.inl ⟨by rfl, fun wX hSw => ?_⟩) (by assumption) ?_
              rotate_left
              · (try dsimp only at hSw); go_simp; try with_reducible rfl
              (try simp only [Act.put, List.getElem_toArray, List.getElem_cons_succ, List.getElem_cons_zero, List.setIfInBounds_toArray, List.set_cons_zero, List.set_cons_succ])
              refine wpAnyH_ready (rs := [24]) (by kernel_rfl) (by simp) ?_
              refine AllReadyH.cons rfl (fun K hK => ?_) (AllReadyH.nil)
              go_simp
              (first | (go_at_call 14; (with_reducible refine (rmay27_as true q.t q.p q.a q.n q.c q.l _ (by first | exact (HDQ.out.below HV.out (Nat.le_refl _)).mono HV.out.size | exact (HDQ.out.below HV.out.drew (Nat.le_refl _)).mono HV.out.drew.size) HSQ.out EM).mono ?_); rintro e z ⟨rfl, hb⟩; have hB2 : Hk (Below V.heap.size V z) := ⟨by first | exact kw_step HV.out (Nat.le_refl _) hb | exact kw_step HV.out.drew (Nat.le_refl _) hb⟩; clear hb; replace HV := hB2; clear hB2) | (go_at_call 15; (with_reducible refine (eqin_as true q.t q.p a2 q.n c2 L2 q.t q.p q.a q.n q.c q.l _ (by first | exact (HD2.out.below HV.out (Nat.le_refl _)).mono HV.out.size | exact (HD2.out.below HV.out.drew (Nat.le_refl _)).mono HV.out.drew.size) (by first | exact (HDQ.out.below HV.out (Nat.le_refl _)).mono HV.out.size | exact (HDQ.out.below HV.out.drew (Nat.le_refl _)).mono HV.out.drew.size) HS2.out HSQ.out ⟨⟨fun _ => rfl, fun _ => by rw [HAB2.out]⟩⟩).mono ?_); rintro e z ⟨rfl, hb⟩; have hB2 : Hk (Below V.heap.size V z) := ⟨by first | exact kw_step HV.out (Nat.le_refl _) hb | exact kw_step HV.out.drew (Nat.le_refl _) hb⟩; clear hb; replace HV := hB2; clear hB2))
              refine hK.out _ _ ?_ (fun hHeld => ?_)
              · exact kw_S HV.out
              clear hK K
              (try simp only [Act.put, List.getElem_toArray, List.getElem_cons_succ, List.getElem_cons_zero, List.setIfInBounds_toArray, List.set_cons_zero, List.set_cons_succ])
              refine wpAnyH_take (i := 25) (v := ?_) rfl (by kernel_rfl) (by kernel_rfl) (by kernel_rfl) (fun _ _ _ h => h) (Or.inl ⟨by rfl, fun wX hSw => ?_⟩) (by assumption) ?_
              rotate_left
              · (try dsimp only at hSw); go_simp; try with_reducible rfl
              (try simp only [Act.put, List.getElem_toArray, List.getElem_cons_succ, List.getElem_cons_zero, List.setIfInBounds_toArray, List.set_cons_zero, List.set_cons_succ])
              refine wpAnyH_take (i := 26) (v := ?_) rfl (by kernel_rfl) (by kernel_rfl) (by kernel_rfl) (fun _ _ _ h => h) (Or.inl ⟨by rfl, fun wX hSw => ?_⟩) (by assumption) ?_
              rotate_left
              · (try dsimp only at hSw); go_simp; try with_reducible rfl
              (try simp only [Act.put, List.getElem_toArray, List.getElem_cons_succ, List.getElem_cons_zero, List.setIfInBounds_toArray, List.set_cons_zero, List.set_cons_succ])
              refine wpAnyH_done (by kernel_rfl) ?_ _
              have HB9 := Hk.mk (HVB2.out.trans (HV.out.mono (kw_size HVB2.out hNW)))
              go_wp2
              exact ⟨⟨k + 1, by go_num, HLT.out, HB9⟩, by first | exact nx_ms HLT.out | exact nx_ms' HLT.out⟩
        · have hd30 : decide ((k : Int) < 30) = false := by rw [decide_eq_false_iff_not]; omega
          have t1 : (k : Int) < (mn : Int) := by omega
          clear HM hmn
          as_aux_lemma =>
            go_wp2_with (go_at_call 16; (with_reducible refine (wakes27_any _).mono ?_); rintro e z ⟨rfl, hb⟩; (first | (have hB2 := Hk.mk (kw_step HB.out hNW hb); clear hb; replace HB := hB2; clear hB2) | (have hB2 := Hk.mk (kw_step HB.out.drew hNW hb); clear hb; replace HB := hB2; clear hB2)))
            go_ret
            exact ⟨rfl, HTR.out _ HB.out⟩
      · obtain rfl : k = mn := by omega
        clear HM hmn
        as_aux_lemma =>
          go_wp2_with (go_at_call 16; (with_reducible refine (wakes27_any _).mono ?_); rintro e z ⟨rfl, hb⟩; (first | (have hB2 := Hk.mk (kw_step HB.out hNW hb); clear hb; replace HB := hB2; clear hB2) | (have hB2 := Hk.mk (kw_step HB.out.drew hNW hb); clear hb; replace HB := hB2; clear hB2)))
          go_ret
          exact ⟨rfl, HTR.out _ HB.out⟩
  · go_wp2
    go_ret
    exact ⟨rfl, HTR.out _ HB.out⟩
theorem turnsChecks_walk (v : Value) (w : World) (rows : Asks27 w v) :
    Calls Try.prog 3 #[v] w fun e w' => e = .returned (.bool true) ∧ Below w.heap.size w w' := by
  obtain ⟨la, ln, lc, l, ma, mn, mc, m, ta, tn, tc, ts, rfl, hl, hm, ht⟩ := rows
  exact turnsChecks_go la ln lc l ma mn mc m ta tn tc ts w hl hm ht

theorem turnsChecks_own : ownKnob Try.prog.godebug = none := by kernel_rfl
theorem turnsChecks_laidOut : laidOutB Try.prog = true := by kernel_rfl
set_option maxRecDepth 100000 in
theorem turnsChecks_lifted (os : Os) (started : os.Started) (H : Type) (enc : TypeId × Value → H) :
    ReturnsInHanded {} Try.checked os 3 .any (Rows.turnsChecksSpec.pre6 enc Try.prog Try.f3 Rows.turnsChecksRow.domain false) (Rows.turnsChecksSpec.post enc Try.prog Try.f3 false true false false) := by
  refine returnsInHanded_of_change_sized (C := Try.checked) turnsChecks_own started (by kernel_rfl) Try.func3
    (ChangeSpec.witness6 (enc := enc) (C := Try.checked) false ⟨#[], #[.agg #[.slice none 0 0, .slice none 0 0, .slice none 0 0]], []⟩ 8 (by kernel_rfl) (by kernel_rfl) (by kernel_rfl) (by kernel_rfl)) ?_
  intro W base args ds gs before hval0 hW hcnd hsz0 _
  have hval : ∀ (j : Nat) t v, Try.f3.params[j]? = some t → args[j]? = some v → Value.okWide Try.prog W .any base t v := hval0
  have hW' := hW
  obtain ⟨p, q, hA0, hV, rfl, hfz, hnd⟩ := hW
  have hA : DataW.TrodAll enc Try.prog W 0 (fun _ => true) true Try.f3.params.toList args.toList ds p := hA0
  rw [Try.params3] at hA hval
  obtain ⟨v0, vs0, d0, ds0, p0, q0, hargs, rfl, rfl, h0, r0⟩ := trodAll_cons hA
  obtain ⟨rfl, rfl, rfl⟩ := trodAll_nil r0
  obtain rfl : args = #[v0] := by cases args; simp_all
  obtain ⟨rfl, rfl⟩ := trodVars_none hV
  obtain ⟨cs0, rfl, hcs0⟩ := okWide_struct Try.underlying25 (hval 0 25 v0 rfl rfl)
  have k0 := h0
  have lt0 : ∀ x ∈ p0, x.block < W.heap.size := by obtain ⟨m, hm⟩ := k0; exact DataW.trod_lt m _ _ _ hm
  have hz0 : Szd 25 d0 := fun n hn => of_decide_eq_true (List.all_eq_true.1 hsz0 n (DataW.weights_mem_each (j := 0) (t := 25) (d := d0) rfl rfl n hn))
  have rows : Asks27 W (.agg cs0) := by obtain ⟨fuel, hf⟩ := h0; exact asks27_of hcs0 hf hz0
  clear hA0 hval0
  refine (turnsChecks_walk (.agg cs0) W rows).mono fun e W' ⟨he, bel⟩ => ?_
  subst he
  exact ⟨_, rfl, _, _, _, [], _, [], hW', trodAll_mk1 (shut_bool Try.underlying4 _), (trodAll_cons_mk (Below.trod turnsChecks_laidOut (by kernel_rfl) (of_decide_eq_true (by kernel_rfl)) k0 bel lt0) trodAll_mk0), rfl, bel.frame _, fun h => by cases h⟩
theorem turnsChecks_over : Rows.turnsChecksRow.holds Try.pinned (OpenSpec.ofChange Rows.turnsChecksSpec) :=
  OpenClaim.holds_of_wide 3 Try.f3 rfl rfl rfl rfl rfl rfl rfl ⟨rfl, rfl, rfl, rfl, rfl⟩ rfl rfl rfl rfl rfl (by kernel_rfl) Try.func3 (by kernel_rfl)
    (of_decide_eq_true (by kernel_rfl)) (by unfold Func.isWrapper; first | (rw [if_pos (by decide +kernel)]; kernel_rfl) | (rw [if_neg (by decide +kernel)]; exact ⟨rfl, rfl⟩))
    (fun os started H enc _ => turnsChecks_lifted os started H enc)
/-- The given statement of TurnsChecks. -/
theorem turnsChecks_holds : Rows.TurnsChecksSaid := turnsChecks_over
end Go.Proofs.Ytmphmpfeeiipgaa

