import Derived.Deep.QuietTactic
import Derived.BigQuiet
import Derived.Deep.RegionWith
import Derived.Deep.RegionHeld3
import Derived.Deep.DeepCutAuto
import Derived.Deep.DeepFit
import Derived.Outline
import Derived.Test.YtdpblimhfmfbnaaGreatZvy
import Derived.Test.YtdpblimhfmfbnaaGreatZvaa
import Derived.Test.YtdpblimhfmfbnaaGreatZva
import Derived.Maps.AppendAt
import Derived.Test.YtdpblimhfmfbnaaGreatZvz
import Derived.OwnWalk
import Derived.Deep.MidRow
set_option linter.unusedVariables false
set_option linter.unusedSimpArgs false
namespace Go.Proofs.YtdpblimhfmfbnaaGreat
open List renaming getElem_toArray → jjA, getElem_cons_succ → jjB, getElem_cons_zero → jjC, setIfInBounds_toArray → jjD, set_cons_zero → jjE, set_cons_succ → jjF
open Go.ChangeShapes Go.WideShapes Go.ChangeAt Go.RowKit Go.Deep
set_option maxRecDepth 100000 in
set_option maxHeartbeats 3200000 in
theorem rlist_as (r : Bool) (a : Option Addr) (n c : Nat) (l : List Iv) (w : World) (h : InD w w.heap.size a n l) (hs : SmI l) (E : Hk (ordN none (abI l) = r)) :
  Calls Tryz.prog 30 #[.slice a n c] w fun e w' => e = .returned (.bool r) ∧ Below w.heap.size w w' := by
 have HH := Hk.mk h
 have hlen := h.q.len
 have HL := Hk.mk hlen
 have HS := Hk.mk hs
 have hn20 : n ≤ 1048576 := by have := hs.n; omega
 have HB : Hk (Below w.heap.size w w) := ⟨Below.refl _ _⟩
 have ER : Hk (ordN (prevI l 0) (abI (l.drop 0)) = r) := E
 clear h hs E hlen
 go_enter Tryz.func30, Tryz.ntmps30
 go_wp2
 obtain ⟨wo, hwo⟩ : ∃ wo : World, wo = w := ⟨_, rfl⟩
 go_loopw [3] (fun i wr => ∃ (k : Nat), i = .int .i64 k ∧ k ≤ n ∧ Hk (ordN (prevI l k) (abI (l.drop k)) = r) ∧ Hk (Below w.heap.size w wr)) (fun i _ => n - (intOf i).toNat)
 case atStart => exact ⟨0, rfl, Nat.zero_le _, ER, HB⟩
 case round =>
  clear ER HB hwo wo
  obtain ⟨k, rfl, hk, ER, HB⟩ := hrel
  by_cases hlt : k < n
  ·obtain ⟨b, off, rfl, hbl, ⟨p0, p1, p2⟩, hnq⟩ := HH.out.three hlt
   have HALL := Hk.mk (fun j (hj : j < n) => HH.out.three hj)
   have hkl : k < l.length := by rw [HL.out]; exact hlt
   have HM := Hk.mk (HS.out.m _ (getD_memI hkl))
   have hes := ER.out
   rw [abI_drop hkl] at hes
   have HPV : Hk (prevI l (k + 1) = some (l.getD k default).ab) := ⟨rfl⟩
   obtain ⟨q, hqq⟩ : ∃ q, l.getD k default = q := ⟨_, rfl⟩
   rw [hqq] at p0 p1 p2 hnq HM hes HPV
   clear hqq
   have HDQ := Hk.mk hnq
   have t0 : (0 : Int) ≤ (k : Int) := by omega
   have t1 : (k : Int) < (n : Int) := by omega
   have HLT := Hk.mk hlt
   have gk : IntKind.i64.wrap ((k : Int) + 1) = ((k + 1 : Nat) : Int) := by push_cast; exact wr27 (by omega) (by omega)
   clear hnq hkl hk ER
   go_upto_region 4 with fail
   cases hv : okN q.ab
   ·have EQ : Hk (okN ⟨q.t, q.p, abC q.l⟩ = false) := ⟨hv⟩
    have R : Hk (false = r) := ⟨by rw [← hes]; cases hp : prevI l k with | none => simp [ordN, hv] | some x => simp [ordN, hv]⟩
    clear hes hv hlt HALL
    as_aux_lemma =>
     refine wp_region_held_drew (S := (fun X => (∀ b o, b < w.heap.size → X.cell? ⟨b, o, none⟩ = w.cell? ⟨b, o, none⟩) ∧ Below w.heap.size w X)) (by kernel_rfl) ?_ (fun hHeld => ?_)
     ·exact kw_S (kw_drew HB.out)
     have HI : Ix [0, 1, 2, 3] := trivial
     iterate 4 (refine tkA HI (v := ?_) rfl (by kernel_rfl) (fun _ _ _ h => h) (.inl ⟨by rfl, fun wX hSw => ?_⟩) hHeld (fun HJ => ?_); rotate_left; (focus ((try dsimp only at hSw); go_simp; try with_reducible rfl)); clear HI; have HI := HJ; clear HJ; try simp only [Act.put, jjA, jjB, jjC, jjD, jjE, jjF])
     clear HI
     refine wpAnyH_ready (rs := [4]) (by kernel_rfl) (by simp) ?_
     refine AllReadyH.cons rfl (fun K hK => ?_) (AllReadyH.nil)
     go_simp
     ((go_at_call 65; (with_reducible refine (rmay27_as false q.t q.p q.a q.n q.c q.l _ (by first | exact (HDQ.out.below HB.out (Nat.le_refl _)).mono HB.out.size | exact (HDQ.out.below HB.out.drew (Nat.le_refl _)).mono HB.out.drew.size) HM.out EQ).mono ?_); rintro e z ⟨rfl, hb⟩; have hB2 : Hk (Below w.heap.size w z) := ⟨by first | exact kw_step HB.out (Nat.le_refl _) hb | exact kw_step HB.out.drew (Nat.le_refl _) hb⟩; clear hb; replace HB := hB2; clear hB2))
     refine hK.out _ _ ?_ (fun hHeld => ?_)
     ·exact kw_S HB.out
     clear hK K
     (try simp only [Act.put, jjA, jjB, jjC, jjD, jjE, jjF])
     have HI : Ix [5, 6] := trivial
     iterate 2 (refine tkA HI (v := ?_) rfl (by kernel_rfl) (fun _ _ _ h => h) (.inl ⟨by rfl, fun wX hSw => ?_⟩) hHeld (fun HJ => ?_); rotate_left; (focus ((try dsimp only at hSw); go_simp; try with_reducible rfl)); clear HI; have HI := HJ; clear HJ; try simp only [Act.put, jjA, jjB, jjC, jjD, jjE, jjF])
     clear HI
     have HI : Ix [7, 8, 9, 10, 11, 12, 13, 14, 15, 16, 17, 18, 19, 20, 21] := trivial
     iterate 15 (refine tkA HI (v := undef) rfl (by kernel_rfl) (fun _ _ _ h => h) (.inr ⟨by rfl, rfl⟩) hHeld (fun HJ => ?_); clear HI; have HI := HJ; clear HJ; try simp only [Act.put, jjA, jjB, jjC, jjD, jjE, jjF])
     clear HI
     have HI : Ix [22] := trivial
     (refine tkA HI (v := ?_) rfl (by kernel_rfl) (fun _ _ _ h => h) (.inl ⟨by rfl, fun wX hSw => ?_⟩) hHeld (fun HJ => ?_); rotate_left; (focus ((try dsimp only at hSw); go_simp; try with_reducible rfl)); clear HI; have HI := HJ; clear HJ; try simp only [Act.put, jjA, jjB, jjC, jjD, jjE, jjF])
     clear HI
     refine wpAnyH_done (by kernel_rfl) ?_ _
     go_wp2
     go_ret
     exact ⟨rb R.out, HB.out⟩
   ·have EQ : Hk (okN ⟨q.t, q.p, abC q.l⟩ = true) := ⟨hv⟩
    by_cases hk0 : k = 0
    ·have ER2 : Hk (ordN (prevI l (k + 1)) (abI (l.drop (k + 1))) = r) := ⟨by rw [← hes, HPV.out]; subst hk0; show _ = (okN q.ab && ordN (some q.ab) _); rw [hv]; rfl⟩
     have hkd : decide ((0 : Int) < (k : Int)) = false := by rw [decide_eq_false_iff_not]; omega
     have hkn : ¬ 0 < k := by omega
     clear hes hlt hk0 hv HALL
     as_aux_lemma =>
      refine wp_region_held_drew (S := (fun X => (∀ b o, b < w.heap.size → X.cell? ⟨b, o, none⟩ = w.cell? ⟨b, o, none⟩) ∧ Below w.heap.size w X)) (by kernel_rfl) ?_ (fun hHeld => ?_)
      ·exact kw_S (kw_drew HB.out)
      have HI : Ix [0, 1, 2, 3] := trivial
      iterate 4 (refine tkA HI (v := ?_) rfl (by kernel_rfl) (fun _ _ _ h => h) (.inl ⟨by rfl, fun wX hSw => ?_⟩) hHeld (fun HJ => ?_); rotate_left; (focus ((try dsimp only at hSw); go_simp; try with_reducible rfl)); clear HI; have HI := HJ; clear HJ; try simp only [Act.put, jjA, jjB, jjC, jjD, jjE, jjF])
      clear HI
      refine wpAnyH_ready (rs := [4]) (by kernel_rfl) (by simp) ?_
      refine AllReadyH.cons rfl (fun K hK => ?_) (AllReadyH.nil)
      go_simp
      ((go_at_call 65; (with_reducible refine (rmay27_as true q.t q.p q.a q.n q.c q.l _ (by first | exact (HDQ.out.below HB.out (Nat.le_refl _)).mono HB.out.size | exact (HDQ.out.below HB.out.drew (Nat.le_refl _)).mono HB.out.drew.size) HM.out EQ).mono ?_); rintro e z ⟨rfl, hb⟩; have hB2 : Hk (Below w.heap.size w z) := ⟨by first | exact kw_step HB.out (Nat.le_refl _) hb | exact kw_step HB.out.drew (Nat.le_refl _) hb⟩; clear hb; replace HB := hB2; clear hB2))
      refine hK.out _ _ ?_ (fun hHeld => ?_)
      ·exact kw_S HB.out
      clear hK K
      (try simp only [Act.put, jjA, jjB, jjC, jjD, jjE, jjF])
      have HI : Ix [5, 6, 7, 8, 9] := trivial
      iterate 5 (refine tkA HI (v := ?_) rfl (by kernel_rfl) (fun _ _ _ h => h) (.inl ⟨by rfl, fun wX hSw => ?_⟩) hHeld (fun HJ => ?_); rotate_left; (focus ((try dsimp only at hSw); go_simp; try with_reducible rfl)); clear HI; have HI := HJ; clear HJ; try simp only [Act.put, jjA, jjB, jjC, jjD, jjE, jjF])
      clear HI
      have HI : Ix [10, 11, 12, 13, 14, 15, 16, 17, 18, 19, 20] := trivial
      iterate 11 (refine tkA HI (v := undef) rfl (by kernel_rfl) (fun _ _ _ h => h) (.inr ⟨by rfl, rfl⟩) hHeld (fun HJ => ?_); clear HI; have HI := HJ; clear HJ; try simp only [Act.put, jjA, jjB, jjC, jjD, jjE, jjF])
      clear HI
      have HI : Ix [21, 22] := trivial
      iterate 2 (refine tkA HI (v := ?_) rfl (by kernel_rfl) (fun _ _ _ h => h) (.inl ⟨by rfl, fun wX hSw => ?_⟩) hHeld (fun HJ => ?_); rotate_left; (focus ((try dsimp only at hSw); go_simp; try with_reducible rfl)); clear HI; have HI := HJ; clear HJ; try simp only [Act.put, jjA, jjB, jjC, jjD, jjE, jjF])
      clear HI
      refine wpAnyH_done (by kernel_rfl) ?_ _
      go_wp2
      exact ⟨⟨k + 1, by go_num, HLT.out, ER2, HB⟩, by first | exact nx_ms HLT.out | exact nx_ms' HLT.out⟩
    ·obtain ⟨j, hj⟩ : ∃ j, k = j + 1 := ⟨k - 1, by omega⟩
     obtain ⟨b', off', eb, _, ⟨z0, z1, z2⟩, -⟩ := HALL.out j (by omega)
     injection eb with eb
     injection eb with eb1 eb2
     subst eb1 eb2
     have hpv : prevI l k = some (l.getD j default).ab := by rw [hj]; rfl
     rw [hpv] at hes
     obtain ⟨pq, hpq⟩ : ∃ pq, l.getD j default = pq := ⟨_, rfl⟩
     rw [hpq] at z0 z1 z2 hes
     have hkd : decide ((0 : Int) < (k : Int)) = true := by rw [decide_eq_true_iff]; omega
     have hkn : 0 < k := by omega
     have gj : IntKind.i64.wrap ((k : Int) - 1) = (j : Int) := by rw [show (k : Int) - 1 = (j : Int) by omega]; exact wr27 (by omega) (by omega)
     have j0 : (0 : Int) ≤ (j : Int) := by omega
     have j1 : (j : Int) < (n : Int) := by omega
     have hes2 : (ltB pq.ab q.ab && ordN (some q.ab) (abI (l.drop (k + 1)))) = r := by rw [← hes]; show _ = ((okN q.ab && ltB pq.ab q.ab) && _); rw [hv]; rfl
     clear hes hpv hpq hk0 hj hv HALL
     by_cases hl : ltI pq q
     ·have EA : Hk (ltI pq q ↔ true = true) := ⟨⟨fun _ => rfl, fun _ => hl⟩⟩
      have ER2 : Hk (ordN (prevI l (k + 1)) (abI (l.drop (k + 1))) = r) := ⟨by rw [← hes2, HPV.out, (ltB_iff pq q).2 hl]; rfl⟩
      clear hes2 hl hlt
      as_aux_lemma =>
       refine wp_region_held_drew (S := (fun X => (∀ b o, b < w.heap.size → X.cell? ⟨b, o, none⟩ = w.cell? ⟨b, o, none⟩) ∧ Below w.heap.size w X)) (by kernel_rfl) ?_ (fun hHeld => ?_)
       ·exact kw_S (kw_drew HB.out)
       have HI : Ix [0, 1, 2, 3] := trivial
       iterate 4 (refine tkA HI (v := ?_) rfl (by kernel_rfl) (fun _ _ _ h => h) (.inl ⟨by rfl, fun wX hSw => ?_⟩) hHeld (fun HJ => ?_); rotate_left; (focus ((try dsimp only at hSw); go_simp; try with_reducible rfl)); clear HI; have HI := HJ; clear HJ; try simp only [Act.put, jjA, jjB, jjC, jjD, jjE, jjF])
       clear HI
       refine wpAnyH_ready (rs := [4]) (by kernel_rfl) (by simp) ?_
       refine AllReadyH.cons rfl (fun K hK => ?_) (AllReadyH.nil)
       go_simp
       (first | (go_at_call 65; (with_reducible refine (rmay27_as true q.t q.p q.a q.n q.c q.l _ (by first | exact (HDQ.out.below HB.out (Nat.le_refl _)).mono HB.out.size | exact (HDQ.out.below HB.out.drew (Nat.le_refl _)).mono HB.out.drew.size) HM.out EQ).mono ?_); rintro e z ⟨rfl, hb⟩; have hB2 : Hk (Below w.heap.size w z) := ⟨by first | exact kw_step HB.out (Nat.le_refl _) hb | exact kw_step HB.out.drew (Nat.le_refl _) hb⟩; clear hb; replace HB := hB2; clear hB2) | (go_at_call 66; (with_reducible refine (rahead_as true pq q _ EA).mono ?_); rintro e z ⟨rfl, hb⟩; have hB2 : Hk (Below w.heap.size w z) := ⟨by first | exact kw_step HB.out (Nat.le_refl _) hb | exact kw_step HB.out.drew (Nat.le_refl _) hb⟩; clear hb; replace HB := hB2; clear hB2))
       refine hK.out _ _ ?_ (fun hHeld => ?_)
       ·exact kw_S HB.out
       clear hK K
       (try simp only [Act.put, jjA, jjB, jjC, jjD, jjE, jjF])
       have HI : Ix [5, 6, 7, 8, 9, 10, 11, 12, 13, 14, 15, 16, 17, 18] := trivial
       iterate 14 (refine tkA HI (v := ?_) rfl (by kernel_rfl) (fun _ _ _ h => h) (.inl ⟨by rfl, fun wX hSw => ?_⟩) hHeld (fun HJ => ?_); rotate_left; (focus ((try dsimp only at hSw); go_simp; try with_reducible rfl)); clear HI; have HI := HJ; clear HJ; try simp only [Act.put, jjA, jjB, jjC, jjD, jjE, jjF])
       clear HI
       refine wpAnyH_ready (rs := [19]) (by kernel_rfl) (by simp) ?_
       refine AllReadyH.cons rfl (fun K hK => ?_) (AllReadyH.nil)
       go_simp
       (first | (go_at_call 65; (with_reducible refine (rmay27_as true q.t q.p q.a q.n q.c q.l _ (by first | exact (HDQ.out.below HB.out (Nat.le_refl _)).mono HB.out.size | exact (HDQ.out.below HB.out.drew (Nat.le_refl _)).mono HB.out.drew.size) HM.out EQ).mono ?_); rintro e z ⟨rfl, hb⟩; have hB2 : Hk (Below w.heap.size w z) := ⟨by first | exact kw_step HB.out (Nat.le_refl _) hb | exact kw_step HB.out.drew (Nat.le_refl _) hb⟩; clear hb; replace HB := hB2; clear hB2) | (go_at_call 66; (with_reducible refine (rahead_as true pq q _ EA).mono ?_); rintro e z ⟨rfl, hb⟩; have hB2 : Hk (Below w.heap.size w z) := ⟨by first | exact kw_step HB.out (Nat.le_refl _) hb | exact kw_step HB.out.drew (Nat.le_refl _) hb⟩; clear hb; replace HB := hB2; clear hB2))
       refine hK.out _ _ ?_ (fun hHeld => ?_)
       ·exact kw_S HB.out
       clear hK K
       (try simp only [Act.put, jjA, jjB, jjC, jjD, jjE, jjF])
       have HI : Ix [20, 21, 22] := trivial
       iterate 3 (refine tkA HI (v := ?_) rfl (by kernel_rfl) (fun _ _ _ h => h) (.inl ⟨by rfl, fun wX hSw => ?_⟩) hHeld (fun HJ => ?_); rotate_left; (focus ((try dsimp only at hSw); go_simp; try with_reducible rfl)); clear HI; have HI := HJ; clear HJ; try simp only [Act.put, jjA, jjB, jjC, jjD, jjE, jjF])
       clear HI
       refine wpAnyH_done (by kernel_rfl) ?_ _
       go_wp2
       exact ⟨⟨k + 1, by go_num, HLT.out, ER2, HB⟩, by first | exact nx_ms HLT.out | exact nx_ms' HLT.out⟩
     ·have EA : Hk (ltI pq q ↔ false = true) := ⟨⟨fun h => absurd h hl, fun h => by cases h⟩⟩
      have R : Hk (false = r) := ⟨by rw [← hes2, show ltB pq.ab q.ab = false from by cases h : ltB pq.ab q.ab; rfl; exact absurd ((ltB_iff pq q).1 h) hl]; rfl⟩
      clear hes2 hl hlt
      as_aux_lemma =>
       refine wp_region_held_drew (S := (fun X => (∀ b o, b < w.heap.size → X.cell? ⟨b, o, none⟩ = w.cell? ⟨b, o, none⟩) ∧ Below w.heap.size w X)) (by kernel_rfl) ?_ (fun hHeld => ?_)
       ·exact kw_S (kw_drew HB.out)
       have HI : Ix [0, 1, 2, 3] := trivial
       iterate 4 (refine tkA HI (v := ?_) rfl (by kernel_rfl) (fun _ _ _ h => h) (.inl ⟨by rfl, fun wX hSw => ?_⟩) hHeld (fun HJ => ?_); rotate_left; (focus ((try dsimp only at hSw); go_simp; try with_reducible rfl)); clear HI; have HI := HJ; clear HJ; try simp only [Act.put, jjA, jjB, jjC, jjD, jjE, jjF])
       clear HI
       refine wpAnyH_ready (rs := [4]) (by kernel_rfl) (by simp) ?_
       refine AllReadyH.cons rfl (fun K hK => ?_) (AllReadyH.nil)
       go_simp
       (first | (go_at_call 65; (with_reducible refine (rmay27_as true q.t q.p q.a q.n q.c q.l _ (by first | exact (HDQ.out.below HB.out (Nat.le_refl _)).mono HB.out.size | exact (HDQ.out.below HB.out.drew (Nat.le_refl _)).mono HB.out.drew.size) HM.out EQ).mono ?_); rintro e z ⟨rfl, hb⟩; have hB2 : Hk (Below w.heap.size w z) := ⟨by first | exact kw_step HB.out (Nat.le_refl _) hb | exact kw_step HB.out.drew (Nat.le_refl _) hb⟩; clear hb; replace HB := hB2; clear hB2) | (go_at_call 66; (with_reducible refine (rahead_as false pq q _ EA).mono ?_); rintro e z ⟨rfl, hb⟩; have hB2 : Hk (Below w.heap.size w z) := ⟨by first | exact kw_step HB.out (Nat.le_refl _) hb | exact kw_step HB.out.drew (Nat.le_refl _) hb⟩; clear hb; replace HB := hB2; clear hB2))
       refine hK.out _ _ ?_ (fun hHeld => ?_)
       ·exact kw_S HB.out
       clear hK K
       (try simp only [Act.put, jjA, jjB, jjC, jjD, jjE, jjF])
       have HI : Ix [5, 6, 7, 8, 9, 10, 11, 12, 13, 14, 15, 16, 17, 18] := trivial
       iterate 14 (refine tkA HI (v := ?_) rfl (by kernel_rfl) (fun _ _ _ h => h) (.inl ⟨by rfl, fun wX hSw => ?_⟩) hHeld (fun HJ => ?_); rotate_left; (focus ((try dsimp only at hSw); go_simp; try with_reducible rfl)); clear HI; have HI := HJ; clear HJ; try simp only [Act.put, jjA, jjB, jjC, jjD, jjE, jjF])
       clear HI
       refine wpAnyH_ready (rs := [19]) (by kernel_rfl) (by simp) ?_
       refine AllReadyH.cons rfl (fun K hK => ?_) (AllReadyH.nil)
       go_simp
       (first | (go_at_call 65; (with_reducible refine (rmay27_as true q.t q.p q.a q.n q.c q.l _ (by first | exact (HDQ.out.below HB.out (Nat.le_refl _)).mono HB.out.size | exact (HDQ.out.below HB.out.drew (Nat.le_refl _)).mono HB.out.drew.size) HM.out EQ).mono ?_); rintro e z ⟨rfl, hb⟩; have hB2 : Hk (Below w.heap.size w z) := ⟨by first | exact kw_step HB.out (Nat.le_refl _) hb | exact kw_step HB.out.drew (Nat.le_refl _) hb⟩; clear hb; replace HB := hB2; clear hB2) | (go_at_call 66; (with_reducible refine (rahead_as false pq q _ EA).mono ?_); rintro e z ⟨rfl, hb⟩; have hB2 : Hk (Below w.heap.size w z) := ⟨by first | exact kw_step HB.out (Nat.le_refl _) hb | exact kw_step HB.out.drew (Nat.le_refl _) hb⟩; clear hb; replace HB := hB2; clear hB2))
       refine hK.out _ _ ?_ (fun hHeld => ?_)
       ·exact kw_S HB.out
       clear hK K
       (try simp only [Act.put, jjA, jjB, jjC, jjD, jjE, jjF])
       have HI : Ix [20, 21, 22] := trivial
       iterate 3 (refine tkA HI (v := ?_) rfl (by kernel_rfl) (fun _ _ _ h => h) (.inl ⟨by rfl, fun wX hSw => ?_⟩) hHeld (fun HJ => ?_); rotate_left; (focus ((try dsimp only at hSw); go_simp; try with_reducible rfl)); clear HI; have HI := HJ; clear HJ; try simp only [Act.put, jjA, jjB, jjC, jjD, jjE, jjF])
       clear HI
       refine wpAnyH_done (by kernel_rfl) ?_ _
       go_wp2
       go_ret
       exact ⟨rb R.out, HB.out⟩
  ·obtain rfl : k = n := by omega
   have R : Hk (true = r) := ⟨by rw [← ER.out, List.drop_of_length_le (by rw [HL.out]; exact Nat.le_refl _)]; cases prevI l k <;> rfl⟩
   go_wp2
   go_ret
   exact ⟨rb R.out, HB.out⟩
end Go.Proofs.YtdpblimhfmfbnaaGreat
namespace Go.Proofs.YtdpblimhfmfbnaaGreat
open Go.ChangeShapes Go.WideShapes Go.ChangeAt Go.RowKit Go.Deep
structure TkR (w : World) (B : Nat) (v : Value) (n : Nat) (l : List Iv) (v' : Value) (n' : Nat) (l' : List Iv) : Prop where
 a : OwN w B v n l
 b : OwN w B v' n' l'
 ds : ∀ j, v.ownBlock = some j → ¬ v'.ownBlock = some j
theorem TkR.swap {w : World} {B n n' : Nat} {v v' : Value} {l l' : List Iv} (h : TkR w B v n l v' n' l') : TkR w B v' n' l' v n l := ⟨h.b, h.a, fun j h1 h2 => h.ds j h2 h1⟩
theorem TkR.below {w z : World} {B n n' : Nat} {v v' : Value} {l l' : List Iv} (h : TkR w B v n l v' n' l') (hb : Below w.heap.size w z) : TkR z B v n l v' n' l' := ⟨h.a.below hb, h.b.below hb, h.ds⟩
theorem TkR.nil (w : World) (B : Nat) : TkR w B (.slice none 0 0) 0 [] (.slice none 0 0) 0 [] := ⟨OwN.nil _ _, OwN.nil _ _, fun j h => by simp [Value.ownBlock] at h⟩
theorem TkR.step {z z2 : World} {B n n' : Nat} {v v' v2 : Value} {l l' : List Iv} {q : Iv} {o : Obj} (h : TkR z B v n l v' n' l') (hq : OwC z B (.slice q.a q.n q.c) q.n q.l) (ho : z2.ownsRow B 40 3 v2 (n + 1) (flt shI l ++ q.cs)) (hg : (z.alloc o).grownBy z2 v.ownBlock) (hat : v2.ownBlock = v.ownBlock ∨ v2.ownBlock = some (z.heap.size + 1)) : TkR z2 B v2 (n + 1) (l ++ [q]) v' n' l' := by
 have hFr : Fr (fun j => v.ownBlock = some j) z z2 := ((Fr.refl _ z).alloc _).grown hg (fun j _ h => h)
 have hI : ∀ (T : TypeId), T ≠ 40 → ∀ j cur fr, z.heap[j]? = some (.cells cur T fr) → ¬ v.ownBlock = some j := fun T hT j cur fr e hj => by
  obtain ⟨cur', fr', e'⟩ := h.a.o.typ hj
  rw [e] at e'
  injection e' with e'
  injection e' with _ e'
  exact hT e'
 refine ⟨OwN.snoc h.a ho (fun x hx => (h.a.u x hx).keep hFr (hI _ (by decide)) (hI _ (by decide))) (.inl (hq.keep hFr (hI _ (by decide)) (hI _ (by decide)))), ⟨h.b.o.fr hFr fun j hj hj2 => h.ds j hj2 hj, fun x hx => (h.b.u x hx).keep hFr (hI _ (by decide)) (hI _ (by decide))⟩, fun j h1 h2 => ?_⟩
 rcases hat with e | e
 ·exact h.ds j (e ▸ h1) h2
 ·rw [e] at h1
  have h3 := (h.b.o.lt j h2).2
  simp at h1
  omega
theorem fl_yes {l : List Iv} {k : Nat} {t : Int} {x : In} {M : List Iv} {q : Iv} (hs : abI (l.take (k + 1)) = abI (l.take k) ++ [x]) (p : In → Bool) (hM : abI M = (abI (l.take k)).filter p) (hq : q.ab = x) (hp : p x = true) : abI (M ++ [q]) = (abI (l.take (k + 1))).filter p := by
 rw [hs, List.filter_append, abI_app, hM, List.filter_cons_of_pos hp]
 show _ ++ [q.ab] = _
 rw [hq]; rfl
theorem fl_no {l : List Iv} {k : Nat} {x : In} {M : List Iv} (hs : abI (l.take (k + 1)) = abI (l.take k) ++ [x]) (p : In → Bool) (hM : abI M = (abI (l.take k)).filter p) (hp : ¬ p x = true) : abI M = (abI (l.take (k + 1))).filter p := by
 rw [hs, List.filter_append, hM, List.filter_cons_of_neg hp, List.filter_nil, List.append_nil]
end Go.Proofs.YtdpblimhfmfbnaaGreat
namespace Go.Proofs.YtdpblimhfmfbnaaGreat
open Go.ChangeShapes Go.WideShapes Go.ChangeAt Go.RowKit Go.Deep
set_option maxRecDepth 100000 in
set_option maxHeartbeats 3200000 in
theorem take_yes (t : Int) (a : Option Addr) (n c : Nat) (l : List Iv) (w : World) (h : InD w w.heap.size a n l) (hs : SmI l) (E : Hk (ordN none (abI l) = true)) :
  Calls Tryz.prog 61 #[.slice a n c, .int .i64 t] w fun e w' => ∃ s1 n1 e1 s2 n2 e2 M1 M2, e = .returned (.tuple #[.slice s1 n1 e1, .slice s2 n2 e2, .int .i64 0]) ∧ TkR w' w.heap.size (.slice s1 n1 e1) n1 M1 (.slice s2 n2 e2) n2 M2 ∧ abI M1 = (abI l).filter (fun x => x.t == t) ∧ abI M2 = (abI l).filter (fun x => !(x.t == t)) ∧ Below w.heap.size w w' := by
 obtain ⟨i0, hi, hz0, hz1, hz2⟩ := info_parts info_in
 have HH := Hk.mk h
 have hlen := h.q.len
 have HL := Hk.mk hlen
 have hn : n ≤ 1048576 := by have := hs.n; omega
 have HS := Hk.mk hs
 have HB : Hk (Below w.heap.size w w) := ⟨Below.refl _ _⟩
 clear h hlen hs
 go_enter Tryz.func61, Tryz.ntmps61
 go_wp2_with (go_at_call 89; (with_reducible refine (ordered_as true a n c l _ HH.out HS.out E).mono ?_); rintro e z ⟨rfl, hb⟩; replace HB := Hk.mk hb; clear hb)
 obtain ⟨wo, hwo⟩ : ∃ wo : World, wo = z := ⟨_, rfl⟩
 go_loopw [4, 5, 14] (fun x y i wr => ∃ (k n1 n2 e1 e2 : Nat) (M1 M2 : List Iv) (s1 s2 : Option Addr), x = .slice s1 n1 e1 ∧ y = .slice s2 n2 e2 ∧ i = .int .i64 k ∧ k ≤ n ∧ Hk (TkR wr w.heap.size (.slice s1 n1 e1) n1 M1 (.slice s2 n2 e2) n2 M2 ∧ abI M1 = (abI (l.take k)).filter (fun x => x.t == t) ∧ abI M2 = (abI (l.take k)).filter (fun x => !(x.t == t)) ∧ n1 ≤ k ∧ n2 ≤ k) ∧ Hk (Below w.heap.size w wr)) (fun _ _ i _ => n - (intOf i).toNat)
 case atStart => exact ⟨0, 0, 0, 0, 0, [], [], none, none, rfl, rfl, rfl, Nat.zero_le _, ⟨TkR.nil _ _, rfl, rfl, Nat.le_refl _, Nat.le_refl _⟩, HB⟩
 case round =>
  clear HB hwo wo
  obtain ⟨k, n1, n2, e1, e2, M1, M2, s1, s2, rfl, rfl, rfl, hk, HR, HB⟩ := hrel
  by_cases hlt : k < n
  ·obtain ⟨b, off, rfl, hbl, ⟨p0, p1, p2⟩, hnq⟩ := (HH.out.below HB.out (Nat.le_refl _)).three hlt
   have HM := Hk.mk (HS.out.m _ (getD_memI (show k < l.length by rw [HL.out]; exact hlt)))
   have HSN : Hk (abI (l.take (k + 1)) = abI (l.take k) ++ [(l.getD k default).ab]) := ⟨abI_snoc (by rw [HL.out]; exact hlt)⟩
   generalize l.getD k default = q at *
   have HN : Hk (CmD (wr.alloc (.cells #[.int .i64 q.t, .int .i64 q.p, .slice q.a q.n q.c] 40)) (wr.alloc (.cells #[.int .i64 q.t, .int .i64 q.p, .slice q.a q.n q.c] 40)).heap.size q.a q.n q.l) := ⟨((hnq.mono HB.out.size).below ((Below.refl _ _).alloc (Nat.le_refl _) (.cells #[.int .i64 q.t, .int .i64 q.p, .slice q.a q.n q.c] 40)) (Nat.le_refl _)).mono (by simp)⟩
   have hbr : b < wr.heap.size := Nat.lt_of_lt_of_le hbl HB.out.size
   have t0 : (0 : Int) ≤ (k : Int) := by omega
   have t1 : (k : Int) < (n : Int) := by omega
   have HLT := Hk.mk hlt
   have HTX := Hk.mk (HR.out.1.below ((Below.refl _ _).alloc (Nat.le_refl _) (.cells #[.int .i64 q.t, .int .i64 q.p, .slice q.a q.n q.c] 40)))
   have hk1 := HR.out.2.2.2.1
   have hk2 := HR.out.2.2.2.2
   have HBX := Hk.mk (HB.out.alloc HB.out.size (.cells #[.int .i64 q.t, .int .i64 q.p, .slice q.a q.n q.c] 40))
   have gk : IntKind.i64.wrap ((k : Int) + 1) = ((k + 1 : Nat) : Int) := by push_cast; exact wr27 (by omega) (by omega)
   clear hnq
   cases hq : (q.t == t)
   ·as_aux_lemma =>
     go_wp2_with (first
      | (go_at_call 63; (with_reducible refine (cpin_any q.t q.p q.a q.n q.c q.l _ HN.out HM.out).mono ?_); rintro e z ⟨a2, c2, L2, rfl, ho2, hab2, hb⟩; have HOC := Hk.mk ho2; have HAB := Hk.mk hab2; have HTK := Hk.mk (HTX.out.below hb); have HBZ := Hk.mk (kw_step HBX.out (Nat.le_refl _) hb); have HXS := Hk.mk HBX.out.size; clear ho2 hb hab2; have HOA := Hk.mk (HTK.out.b.o.alloc (.cells #[.int .i64 q.t, .int .i64 q.p, .slice a2 q.n c2] 40)))
      | (at_builtin; go_must (refine wpList_append_own_at _ rfl _ _ 22 rfl w.heap.size 40 i0 (.agg #[.int .i64 0, .int .i64 0, .slice none 0 0]) 3 40 Tryz.underlying22 hi hz0 hz1 hz2 rfl (by decide) _ n2 (flt shI M2) rfl HOA.out.row ⟨z.heap.size, 0, none⟩ 1 1 (({ q with a := a2, c := c2, l := L2 } : Iv).cs) rfl rfl (lit_at z _ _) (is_one _) (by unfold maxLen; omega) (by omega) ?c5 ?_)))
     case c5 => have := HBZ.out.size; simp; omega
     intro v2 z2 hown2 hgrow hnil hat
     have HT2 := Hk.mk (HTK.out.swap.step (q := { q with a := a2, c := c2, l := L2 }) (HOC.out.weak HXS.out) hown2 hgrow hat)
     obtain ⟨sa2, sc2, rfl, -⟩ := HT2.out.a.o.form
     have HB3 : Hk (Below w.heap.size w z2) := ⟨(HBZ.out.alloc HBZ.out.size (.cells #[.int .i64 q.t, .int .i64 q.p, .slice a2 q.n c2] 40)).grown hgrow (by have := HBZ.out.size; simp; omega) (fun g hg => (HTK.out.b.o.lt g hg).1)⟩
     have HQA : Hk (({ q with a := a2, c := c2, l := L2 } : Iv).ab = q.ab) := ⟨by show (⟨q.t, q.p, abC L2⟩ : In) = ⟨q.t, q.p, abC q.l⟩; rw [HAB.out]⟩
     clear hown2 hgrow hnil hat HTK HOA HBZ
     have HE : Hk (TkR z2 w.heap.size (.slice s1 n1 e1) n1 M1 (.slice sa2 (n2 + 1) sc2) (n2 + 1) (M2 ++ [{ q with a := a2, c := c2, l := L2 }]) ∧ abI M1 = (abI (l.take (k + 1))).filter (fun x => x.t == t) ∧ abI (M2 ++ [{ q with a := a2, c := c2, l := L2 }]) = (abI (l.take (k + 1))).filter (fun x => !(x.t == t)) ∧ n1 ≤ k + 1 ∧ n2 + 1 ≤ k + 1) := ⟨HT2.out.swap, fl_no HSN.out _ HR.out.2.1 (by show ¬ (q.t == t) = true; rw [hq]; decide), fl_yes (t := t) HSN.out _ HR.out.2.2.1 HQA.out (by show (!(q.t == t)) = true; rw [hq]; rfl), by omega, by omega⟩
     clear HT2 HQA HR HB HTX HBX
     go_wp2
     exact ⟨⟨k + 1, n1, n2 + 1, e1, sc2, M1, _, s1, sa2, rfl, by first | rfl | (push_cast; rfl), by go_num, HLT.out, HE, HB3⟩, by first | exact nx_ms HLT.out | exact nx_ms' HLT.out⟩
   ·as_aux_lemma =>
     go_wp2_with (first
      | (go_at_call 63; (with_reducible refine (cpin_any q.t q.p q.a q.n q.c q.l _ HN.out HM.out).mono ?_); rintro e z ⟨a2, c2, L2, rfl, ho2, hab2, hb⟩; have HOC := Hk.mk ho2; have HAB := Hk.mk hab2; have HTK := Hk.mk (HTX.out.below hb); have HBZ := Hk.mk (kw_step HBX.out (Nat.le_refl _) hb); have HXS := Hk.mk HBX.out.size; clear ho2 hb hab2; have HOA := Hk.mk (HTK.out.a.o.alloc (.cells #[.int .i64 q.t, .int .i64 q.p, .slice a2 q.n c2] 40)))
      | (at_builtin; go_must (refine wpList_append_own_at _ rfl _ _ 22 rfl w.heap.size 40 i0 (.agg #[.int .i64 0, .int .i64 0, .slice none 0 0]) 3 40 Tryz.underlying22 hi hz0 hz1 hz2 rfl (by decide) _ n1 (flt shI M1) rfl HOA.out.row ⟨z.heap.size, 0, none⟩ 1 1 (({ q with a := a2, c := c2, l := L2 } : Iv).cs) rfl rfl (lit_at z _ _) (is_one _) (by unfold maxLen; omega) (by omega) ?c5 ?_)))
     case c5 => have := HBZ.out.size; simp; omega
     intro v2 z2 hown2 hgrow hnil hat
     have HT2 := Hk.mk (HTK.out.step (q := { q with a := a2, c := c2, l := L2 }) (HOC.out.weak HXS.out) hown2 hgrow hat)
     obtain ⟨sa2, sc2, rfl, -⟩ := HT2.out.a.o.form
     have HB3 : Hk (Below w.heap.size w z2) := ⟨(HBZ.out.alloc HBZ.out.size (.cells #[.int .i64 q.t, .int .i64 q.p, .slice a2 q.n c2] 40)).grown hgrow (by have := HBZ.out.size; simp; omega) (fun g hg => (HTK.out.a.o.lt g hg).1)⟩
     have HQA : Hk (({ q with a := a2, c := c2, l := L2 } : Iv).ab = q.ab) := ⟨by show (⟨q.t, q.p, abC L2⟩ : In) = ⟨q.t, q.p, abC q.l⟩; rw [HAB.out]⟩
     clear hown2 hgrow hnil hat HTK HOA HBZ
     have HE : Hk (TkR z2 w.heap.size (.slice sa2 (n1 + 1) sc2) (n1 + 1) (M1 ++ [{ q with a := a2, c := c2, l := L2 }]) (.slice s2 n2 e2) n2 M2 ∧ abI (M1 ++ [{ q with a := a2, c := c2, l := L2 }]) = (abI (l.take (k + 1))).filter (fun x => x.t == t) ∧ abI M2 = (abI (l.take (k + 1))).filter (fun x => !(x.t == t)) ∧ n1 + 1 ≤ k + 1 ∧ n2 ≤ k + 1) := ⟨HT2.out, fl_yes (t := t) HSN.out _ HR.out.2.1 HQA.out (by show (q.t == t) = true; rw [hq]), fl_no HSN.out _ HR.out.2.2.1 (by show ¬ (!(q.t == t)) = true; rw [hq]; decide), by omega, by omega⟩
     clear HT2 HQA HR HB HTX HBX
     go_wp2
     exact ⟨⟨k + 1, n1 + 1, n2, sc2, e2, _, M2, sa2, s2, by first | rfl | (push_cast; rfl), rfl, by go_num, HLT.out, HE, HB3⟩, by first | exact nx_ms HLT.out | exact nx_ms' HLT.out⟩
  ·obtain rfl : k = n := by omega
   have et : l.take k = l := List.take_of_length_le (by rw [HL.out]; exact Nat.le_refl _)
   have HF := HR.out
   rw [et] at HF
   go_wp2
   go_ret3
   exact ⟨s1, n1, e1, s2, n2, e2, M1, M2, rfl, HF.1, HF.2.1, HF.2.2.1, HB.out⟩
end Go.Proofs.YtdpblimhfmfbnaaGreat
namespace Go.Proofs.YtdpblimhfmfbnaaGreat
open Go.ChangeShapes Go.WideShapes Go.ChangeAt Go.RowKit Go.Deep
theorem own_spare {w : World} {B : Nat} {T : TypeId} {z n c g : Nat} {xs : List Value} (h : w.ownsRow B T z (.slice (some ⟨g, 0, none⟩) n c) n xs) (m : Nat) (hm : n + m ≤ c) : ∀ j, j < m * z → (w.cell? ⟨g, 0 + n * z + j, none⟩).isSome = true ∧ w.frozen? ⟨g, 0 + n * z + j, none⟩ = false := by
 rcases h.2 with ⟨e, _⟩ | ⟨g', cap, cur, e, hg, hh, hc, hm2, hs, _⟩
 ·cases e
 ·injection e with e1 e2 e3
  injection e1 with e1
  injection e1 with e1
  subst e1 e3
  intro j hj
  have h1 := Nat.mul_le_mul_right z hm
  rw [Nat.add_mul] at h1
  refine ⟨?_, frozen_of_row _ _ _ _ _ hh⟩
  rw [cell_of_row _ _ _ _ _ _ hh, Array.getElem?_eq_getElem (by omega)]
  rfl
theorem own_holds {w : World} {B : Nat} {T : TypeId} {z n c g : Nat} {xs : List Value} (h : w.ownsRow B T z (.slice (some ⟨g, 0, none⟩) n c) n xs) : ∀ (j : Nat) u, xs[j]? = some u → w.cell? ⟨g, 0 + j, none⟩ = some u := fun j u hj => by
 rw [← Addr.add_lit]
 exact h.cells (g := g) rfl j u hj
theorem Sn.ow {α : Type} {S : Sh α} {T : TypeId} {B n : Nat} {v : Value} {w z : World} {l : List α} (h : Sn B w z) (o : Ow S T w B v n l) (ne : T ≠ 3) : Ow S T z B v n l := ⟨o.len, by
 refine ⟨o.row.1, ?_⟩
 rcases o.row.2 with e | ⟨g, cap, cur, e, hg, hh, r⟩
 ·exact .inl e
 ·exact .inr ⟨g, cap, cur, e, hg, h.ty _ _ _ _ hh ne, r⟩⟩
theorem Sc.ow {α : Type} {S : Sh α} {T : TypeId} {B n : Nat} {v : Value} {w z : World} {l : List α} (h : Sc B w z) (o : Ow S T w B v n l) (ne : T ≠ 3) (ne2 : T ≠ 95) : Ow S T z B v n l := ⟨o.len, by
 refine ⟨o.row.1, ?_⟩
 rcases o.row.2 with e | ⟨g, cap, cur, e, hg, hh, r⟩
 ·exact .inl e
 ·exact .inr ⟨g, cap, cur, e, hg, h.ty _ _ _ _ hh ne ne2, r⟩⟩
theorem below_al (w : World) (o : Obj) : Below w.heap.size w (w.alloc o) := (Below.refl _ _).alloc (Nat.le_refl _) o
theorem below_gr {w z : World} {o : Obj} (h : (w.alloc o).grownBy z none) : Below w.heap.size w z := (below_al w o).grown h (by simp) (fun j hj => by cases hj)
set_option maxRecDepth 100000 in
set_option maxHeartbeats 800000 in
theorem nums_own (B n c : Nat) (a : Option Addr) (w : World) (h : ShN w B a n c) (hB : B ≤ w.heap.size) :
  Calls Tryz.prog 70 #[.slice a n c] w fun e z => e = .returned (.tuple #[]) ∧ Sn B w z := by
 obtain ⟨ii, hii, hiz0, hiz1, hiz2⟩ := info_parts info_i
 have HO := Hk.mk h
 have hn := h.1
 clear h
 go_enter Tryz.func70, Tryz.ntmps70
 go_wp2
 go_loopw [2] (fun i wr => ∃ (k : Nat), i = .int .i64 k ∧ k ≤ n ∧ Hk (ShN wr B a n c) ∧ Hk (Sn B w wr)) (fun i _ => n - (intOf i).toNat)
 case atStart => exact ⟨0, rfl, by omega, HO, ⟨Sn.refl _ _⟩⟩
 case round =>
  clear HO
  obtain ⟨k, rfl, hk, HO, HS⟩ := hrel
  obtain ⟨u, hu⟩ := HO.out.2
  by_cases hlt : k < n
  ·rcases hu with hu | ⟨h0, _⟩
   ·obtain ⟨g, rfl, hg1, hg2, -⟩ := hu.blk.resolve_left (fun h => by omega)
    have hl := hu.1
    have hcx : wr.cell? ⟨g, k, none⟩ = some (.int .i64 (u[k]'(by omega))) := by rw [hu.2.cellAt k (by omega), List.getElem?_map, List.getElem?_eq_getElem (by omega)]; rfl
    have hfz := hu.2.frozenAt k
    have j1 : (0 : Int) ≤ (k : Int) := by omega
    have j2 : (k : Int) < (n : Int) := by omega
    have H1 := Sn.setI hu k (-99)
    have H3 := Hk.mk (H1.shn HO.out)
    have H4 := Hk.mk (HS.out.trans H1)
    have HLT := Hk.mk hlt
    generalize u[k]'(by omega) = y at *
    clear H1 hu hl HO HS
    as_aux_lemma =>
     go_wp2
     exact ⟨⟨k + 1, by go_num, HLT.out, H3, H4⟩, by first | exact nx_ms HLT.out | exact nx_ms' HLT.out⟩
   ·omega
  ·obtain rfl : k = n := by omega
   have HAL := Hk.mk (Sn.of_all (Nat.le_trans hB HS.out.bl.size) (below_al wr (.cells #[.int .i64 5] 3)))
   obtain ⟨hl, hkc, hnone, hcs, hroom⟩ := (hu.below (below_al wr (.cells #[.int .i64 5] 3))).fin
   have HLO : Hk ((u.map (Value.int .i64)).length = k * 1) := ⟨by rw [List.length_map]; omega⟩
   have HCS := Hk.mk hcs
   have HNN := Hk.mk hnone
   clear hcs hnone hl
   by_cases hc : k < c
   ·obtain ⟨g, rfl, ho⟩ := hroom hc
    have HSP := Hk.mk (own_spare ho.2 1 hc)
    have HHO := Hk.mk (own_holds ho.2)
    have H4 : Hk (Sn B w ((wr.alloc (.cells #[.int .i64 5] 3)).setCells g k [.int .i64 5])) := ⟨ (HS.out.trans HAL.out).trans (Sn.setI ho k 5)⟩
    clear hroom ho hu HO HS HAL
    as_aux_lemma =>
     go_wp2_with (at_builtin; go_must (refine wpList_append_arg _ rfl _ _ 23 rfl 3 ii (.int .i64 0) 1 8 Tryz.underlying23 hii hiz0 hiz1 hiz2 rfl (by decide) g 0 k c (u.map (Value.int .i64)) rfl HLO.out HHO.out ⟨wr.heap.size, 0, none⟩ 1 1 [.int .i64 5] rfl rfl (one_new wr _ _) (fun v hv => by simp at hv; subst hv; rfl) (fun _ => HSP.out) (by unfold maxLen; omega) (by omega) (fun _ => ?_) (fun h => absurd h (by omega))))
     go_end0
     exact ⟨rfl, H4.out⟩
   ·have hcn : c < k + 1 := by omega
    clear hroom hu HO
    as_aux_lemma =>
     go_wp2_with (at_builtin; go_must (refine wpList_append_grows _ rfl _ _ 23 rfl 3 ii (.int .i64 0) 1 8 Tryz.underlying23 hii hiz0 hiz1 hiz2 rfl (by decide) a k c (u.map (Value.int .i64)) rfl HNN.out HLO.out HCS.out ⟨wr.heap.size, 0, none⟩ 1 1 [.int .i64 5] rfl rfl (one_new wr _ _) (fun v hv => by simp at hv; subst hv; rfl) hcn (by unfold maxLen; omega) (by omega) ?_); intro v8 z8 hown hgrow; have H8 := Hk.mk (HS.out.trans (Sn.of_all (Nat.le_trans hB HS.out.bl.size) (below_gr hgrow))); clear hown hgrow)
     go_end0
     exact ⟨rfl, H8.out⟩
end Go.Proofs.YtdpblimhfmfbnaaGreat
namespace Go.Proofs.YtdpblimhfmfbnaaGreat
open Go.ChangeShapes Go.WideShapes Go.ChangeAt Go.RowKit Go.Deep
theorem ShC.fin {w : World} {B n c : Nat} {a : Option Addr} (h : ShC w B a n c) : n ≤ c ∧ (a = none → n = 0 ∧ c = 0) ∧ ∃ olds : List Value, olds.length = n * 10 ∧ (∀ b, a = some b → ∀ (j : Nat) v, olds[j]? = some v → w.cell? (b.add j) = some v) ∧ (n < c → ∃ g l, a = some ⟨g, 0, none⟩ ∧ Ow shC 95 w B (.slice (some ⟨g, 0, none⟩) n c) n l ∧ olds = flt shC l) := by
 rcases h.2 with ⟨l, ho, hu⟩ | ⟨rfl, rfl⟩
 ·obtain ⟨h1, h2, h3⟩ := ho.fin
  refine ⟨h1, h2, flt shC l, by rw [flt_len, ho.len]; rfl, h3, fun hlt => ?_⟩
  rcases ho.blk with ⟨_, e1, e2⟩ | ⟨g, rfl, _⟩
  ·omega
  ·exact ⟨g, l, rfl, ho, rfl⟩
 ·exact ⟨Nat.le_refl _, fun _ => ⟨rfl, rfl⟩, [], rfl, fun b _ j v hj => by simp at hj, fun h => absurd h (by omega)⟩
set_option maxRecDepth 100000 in
set_option maxHeartbeats 12800000 in
theorem cmds_own (B n c : Nat) (a : Option Addr) (w : World) (h : ShC w B a n c) (hB : B ≤ w.heap.size) :
  Calls Tryz.prog 40 #[.slice a n c] w fun e z => e = .returned (.tuple #[]) ∧ Sc B w z := by
 obtain ⟨ii, hii, hiz0, hiz1, hiz2⟩ := info_parts info_cm
 have infoz : (Tryz.prog.info? 95).map (·.size) = some (zrC (-9)).cs.toArray.size := by kernel_rfl
 have HO := Hk.mk h
 have hn := h.1
 clear h
 go_enter Tryz.func40, Tryz.ntmps40
 go_wp2
 go_loopw [2] (fun i wr => ∃ (k : Nat), i = .int .i64 k ∧ k ≤ n ∧ Hk (ShC wr B a n c) ∧ Hk (Sc B w wr)) (fun i _ => n - (intOf i).toNat)
 case atStart => exact ⟨0, rfl, by omega, HO, ⟨Sc.refl _ _⟩⟩
 case round =>
  clear HO
  obtain ⟨k, rfl, hk, HO, HS⟩ := hrel
  by_cases hlt : k < n
  ·rcases HO.out.2 with ⟨l, ho, hu⟩ | ⟨h0, _⟩
   ·obtain ⟨g, rfl, hg1, hg2, -⟩ := ho.blk.resolve_left (fun h => by omega)
    have hkl : k < l.length := by have := ho.len; omega
    have HOW := Hk.mk ho
    have HOH := Hk.mk HO.out
    have HNU := Hk.mk (hu _ (List.getElem_mem hkl))
    have hcc : ∀ X : World, Ow shC 95 X B (.slice (some ⟨g, 0, none⟩) n c) n l → X.cell? ⟨g, k * 10, none⟩ = some (.int .i64 l[k].p) ∧ X.cell? ⟨g, k * 10 + 1, none⟩ = some (.int .i64 l[k].s) ∧ X.cell? ⟨g, k * 10 + 2, none⟩ = some (.int .i64 l[k].k) ∧ X.cell? ⟨g, k * 10 + 3, none⟩ = some (.int .i64 l[k].n) ∧ X.cell? ⟨g, k * 10 + 4, none⟩ = some (.slice l[k].a l[k].m l[k].c) ∧ X.cell? ⟨g, k * 10 + 5, none⟩ = some (.int .i64 l[k].t) ∧ X.cell? ⟨g, k * 10 + 6, none⟩ = some (.int .i64 l[k].w) ∧ X.cell? ⟨g, k * 10 + 7, none⟩ = some (.int .i64 l[k].h) ∧ X.cell? ⟨g, k * 10 + 8, none⟩ = some (.int .i64 l[k].x) ∧ X.cell? ⟨g, k * 10 + 9, none⟩ = some (.int .i64 l[k].y) := fun X hX => by
     obtain ⟨b', off', e, _, hc⟩ := hX.qv.rd (by omega)
     injection e with e
     injection e with e1 e2
     subst e1 e2
     have h := hc k hkl
     rw [Nat.zero_add] at h
     exact ⟨h 0 (by decide), h 1 (by decide), h 2 (by decide), h 3 (by decide), h 4 (by decide), h 5 (by decide), h 6 (by decide), h 7 (by decide), h 8 (by decide), h 9 (by decide)⟩
    generalize l[k] = q at *
    have HCC := Hk.mk hcc
    obtain ⟨p0, p1, p2, p3, p4, p5, p6, p7, p8, p9⟩ := hcc wr ho
    have j1 : (0 : Int) ≤ (k : Int) := by omega
    have j2 : (k : Int) < (n : Int) := by omega
    have HLT := Hk.mk hlt
    have HBW := Hk.mk (Nat.le_trans hB HS.out.bl.size)
    clear hcc hu ho hkl HO p0 p1 p2 p3 p5 p6 p7 p8 p9
    focus
     go_wp2_with (go_at_call 70; (with_reducible refine (nums_own B q.m q.c q.a _ HNU.out HBW.out).mono ?_); rintro e z ⟨rfl, hs⟩; have HSN := Hk.mk hs; have hoz := hs.ow HOW.out (by decide); obtain ⟨p0, p1, p2, p3, p4z, p5, p6, p7, p8, p9⟩ := HCC.out z hoz; have hgz := World.block_lt_of_cell? _ _ p0; have f0 := hoz.row.frozenAt (k * 10); have f1 := hoz.row.frozenAt (k * 10 + 1); have f2 := hoz.row.frozenAt (k * 10 + 2); have f3 := hoz.row.frozenAt (k * 10 + 3); have f4 := hoz.row.frozenAt (k * 10 + 4); have f5 := hoz.row.frozenAt (k * 10 + 5); have f6 := hoz.row.frozenAt (k * 10 + 6); have f7 := hoz.row.frozenAt (k * 10 + 7); have f8 := hoz.row.frozenAt (k * 10 + 8); have f9 := hoz.row.frozenAt (k * 10 + 9); have HOZ := Hk.mk hoz; clear hs hoz)
     have H1 : Hk (Sc B wr ((((((((((z.setCell ⟨g, k * 10, none⟩ (.int .i64 0)).setCell ⟨g, k * 10 + 1, none⟩ (.int .i64 0)).setCell ⟨g, k * 10 + 2, none⟩ (.int .i64 (-9))).setCell ⟨g, k * 10 + 3, none⟩ (.int .i64 0)).setCell ⟨g, k * 10 + 4, none⟩ (.slice none 0 0)).setCell ⟨g, k * 10 + 5, none⟩ (.int .i64 0)).setCell ⟨g, k * 10 + 6, none⟩ (.int .i64 0)).setCell ⟨g, k * 10 + 7, none⟩ (.int .i64 0)).setCell ⟨g, k * 10 + 8, none⟩ (.int .i64 0)).setCell ⟨g, k * 10 + 9, none⟩ (.int .i64 0))) := ⟨(Sc.of_sn HSN.out).trans (Sc.setC HOZ.out k (-9))⟩
     have H4 := Hk.mk (HS.out.trans H1.out)
     have H3 := Hk.mk (H1.out.shc HOH.out)
     exact ⟨⟨k + 1, by go_num, HLT.out, H3, H4⟩, by first | exact nx_ms HLT.out | exact nx_ms' HLT.out⟩
   ·omega
  ·obtain rfl : k = n := by omega
   have HAL := Hk.mk (Sc.of_all (Nat.le_trans hB HS.out.bl.size) (below_al wr (.cells (jkC 0 0 0 0 none 0 0 0 0 0 0 0) 95)))
   obtain ⟨hkc, hnone, olds, hlo, hcs, hroom⟩ := (HAL.out.shc HO.out).fin
   have HLO := Hk.mk hlo
   have HCS := Hk.mk hcs
   have HNN := Hk.mk hnone
   clear hcs hnone hlo
   by_cases hc : k < c
   ·obtain ⟨g, l, rfl, ho, rfl⟩ := hroom hc
    have HSP := Hk.mk (own_spare ho.row 1 hc)
    have HHO := Hk.mk (own_holds ho.row)
    have H4 : Hk (Sc B w ((wr.alloc (.cells (jkC 0 0 0 0 none 0 0 0 0 0 0 0) 95)).setCells g (k * 10) (zrC 0).cs)) := ⟨ (HS.out.trans HAL.out).trans (Sc.setC ho k 0)⟩
    clear hroom ho HO HS HAL
    focus
     go_wp2_with (at_builtin; go_must (refine wpList_append_arg _ rfl _ _ 38 rfl 95 ii (.agg (jkC 0 0 0 0 none 0 0 0 0 0 0 0)) 10 96 Tryz.underlying38 hii hiz0 hiz1 hiz2 rfl (by decide) g 0 k c (flt shC l) rfl HLO.out HHO.out ⟨wr.heap.size, 0, none⟩ 1 1 [.int .i64 0, .int .i64 0, .int .i64 0, .int .i64 0, .slice none 0 0, .int .i64 0, .int .i64 0, .int .i64 0, .int .i64 0, .int .i64 0] rfl rfl (lit_at wr _ _) (cs_one (zrC 0)) (fun _ => HSP.out) (by unfold maxLen; omega) (by omega) (fun _ => ?_) (fun h => absurd h (by omega))); generalize hW : World.setCells (wr.alloc (.cells (jkC 0 0 0 0 none 0 0 0 0 0 0 0) 95)) g _ _ = W9; have H9 : Hk (Sc B w W9) := ⟨by rw [← hW, Nat.zero_add]; exact H4.out⟩; clear hW H4)
     go_end0
     exact ⟨rfl, H9.out⟩
   ·have hcn : c < k + 1 := by omega
    clear hroom HO
    focus
     go_wp2_with (at_builtin; go_must (refine wpList_append_grows _ rfl _ _ 38 rfl 95 ii (.agg (jkC 0 0 0 0 none 0 0 0 0 0 0 0)) 10 96 Tryz.underlying38 hii hiz0 hiz1 hiz2 rfl (by decide) a k c olds rfl HNN.out HLO.out HCS.out ⟨wr.heap.size, 0, none⟩ 1 1 [.int .i64 0, .int .i64 0, .int .i64 0, .int .i64 0, .slice none 0 0, .int .i64 0, .int .i64 0, .int .i64 0, .int .i64 0, .int .i64 0] rfl rfl (lit_at wr _ _) (cs_one (zrC 0)) hcn (by unfold maxLen; omega) (by omega) ?_); intro v8 z8 hown hgrow; have H8 := Hk.mk (HS.out.trans (Sc.of_all (Nat.le_trans hB HS.out.bl.size) (below_gr hgrow))); clear hown hgrow)
     go_end0
     exact ⟨rfl, H8.out⟩
end Go.Proofs.YtdpblimhfmfbnaaGreat
namespace Go.Proofs.YtdpblimhfmfbnaaGreat
open Go.ChangeShapes Go.WideShapes Go.ChangeAt Go.RowKit Go.Deep
structure Si (B : Nat) (w z : World) : Prop where
 bl : Below B w z
 i : ∀ a n c, ShI w B a n c → ShI z B a n c
theorem Si.refl (B : Nat) (w : World) : Si B w w := ⟨Below.refl _ _, fun _ _ _ h => h⟩
theorem Si.trans {B : Nat} {w y z : World} (h : Si B w y) (k : Si B y z) : Si B w z := ⟨h.bl.trans k.bl, fun a n c o => k.i a n c (h.i a n c o)⟩
theorem Si.of_sc {B : Nat} {w z : World} (h : Sc B w z) : Si B w z := ⟨h.bl, fun a n c ⟨hn, l, ho, hu⟩ => ⟨hn, l, h.ow ho (by decide) (by decide), fun x hx => h.shc (hu x hx)⟩⟩
theorem Si.of_all {B : Nat} {w z : World} (hB : B ≤ w.heap.size) (h : Below w.heap.size w z) : Si B w z := Si.of_sc (Sc.of_all hB h)
theorem Si.setI {B n c g : Nat} {w : World} {l : List Iv} (h : Ow shI 40 w B (.slice (some ⟨g, 0, none⟩) n c) n l) (k : Nat) (y : Int) : Si B w (w.setCells g (k * 3) (zrI y).cs) := by
 obtain ⟨cur, fr, e⟩ := h.typ (j := g) rfl
 have hg := (h.lt g rfl).1
 have hF : Fr (fun j => j = g) w (w.setCells g (k * 3) (zrI y).cs) := Fr.setCells (M := fun j => j = g) rfl _ _ (Fr.refl (fun j => j = g) w)
 have hI : ∀ (T : TypeId), T ≠ 40 → ∀ j cur fr, w.heap[j]? = some (.cells cur T fr) → ¬ j = g := fun T hT j cur' fr' e' hj => by
  subst hj
  rw [e] at e'
  injection e' with e'
  injection e' with _ e'
  exact hT e'.symm
 refine ⟨hF.below (Nat.le_of_lt (Nat.lt_of_le_of_lt hg (cells_lt e))) (fun j _ hj => by omega), fun a n' c' ⟨hn, l', o, hu⟩ => ⟨hn, ?_⟩⟩
 have hU : ∀ x, x ∈ l' → ShC (w.setCells g (k * 3) (zrI y).cs) B x.a x.n x.c := fun x hx => (hu x hx).fr hF (hI _ (by decide)) (hI _ (by decide))
 rcases o.blk with ⟨rfl, rfl, rfl⟩ | ⟨g', rfl, _⟩
 ·exact ⟨l', o.fr hF fun j hj => by simp [Value.ownBlock] at hj, hU⟩
 ·by_cases hg' : g' = g
  ·subst hg'
   refine ⟨_, o.setx k (zrI y), fun x hx => ?_⟩
   rcases List.mem_or_eq_of_mem_set hx with h | rfl
   ·exact hU x h
   ·exact ⟨Nat.zero_le _, .inr ⟨rfl, rfl⟩⟩
  ·exact ⟨l', o.fr hF fun j hj => by simp [Value.ownBlock] at hj; omega, hU⟩
end Go.Proofs.YtdpblimhfmfbnaaGreat
