import Derived.Deep.QuietTactic
import Derived.BigQuiet
import Derived.Deep.RegionWith
import Derived.Deep.RegionHeld3
import Derived.Deep.DeepCutAuto
import Derived.Deep.DeepFit
import Derived.Outline
import Derived.Test.YtdpblimhfmfbnaaZsw
import Derived.Test.YtdpblimhfmfbnaaZsa
set_option linter.unusedVariables false
set_option linter.unusedSimpArgs false
namespace Go.Proofs.Ytdpblimhfmfbnaa
open List renaming getElem_toArray → jjA, getElem_cons_succ → jjB, getElem_cons_zero → jjC, setIfInBounds_toArray → jjD, set_cons_zero → jjE, set_cons_succ → jjF
open Go.ChangeShapes Go.WideShapes Go.ChangeAt Go.RowKit Go.Deep
def ltB (a b : In) : Bool := decide (a.t < b.t ∨ (a.t = b.t ∧ a.p < b.p))
theorem ltB_iff (x y : Iv) : ltB x.ab y.ab = true ↔ ltI x y := by unfold ltB; rw [decide_eq_true_iff]; exact Iff.rfl
def ordN : Option In → List In → Bool
 | _, [] => true
 | none, x :: l => okN x && ordN (some x) l
 | some a, x :: l => (okN x && ltB a x) && ordN (some x) l
def prevI (l : List Iv) : Nat → Option In
 | 0 => none
 | k + 1 => some (l.getD k default).ab
theorem drop_consI {l : List Iv} {k : Nat} (h : k < l.length) : l.drop k = l.getD k default :: l.drop (k + 1) := by rw [List.drop_eq_getElem_cons h]; simp [List.getD, h]
theorem abI_drop {l : List Iv} {k : Nat} (h : k < l.length) : abI (l.drop k) = (l.getD k default).ab :: abI (l.drop (k + 1)) := by rw [drop_consI h]; rfl
set_option maxRecDepth 100000 in
set_option maxHeartbeats 3200000 in
theorem ordered_as (r : Bool) (a : Option Addr) (n c : Nat) (l : List Iv) (w : World) (h : InD w w.heap.size a n l) (hs : SmI l) (E : Hk (ordN none (abI l) = r)) :
  Calls Try.prog 46 #[.slice a n c] w fun e w' => e = .returned (.bool r) ∧ Below w.heap.size w w' := by
 have HH := Hk.mk h
 have hlen := h.q.len
 have HL := Hk.mk hlen
 have HS := Hk.mk hs
 have hn20 : n ≤ 1048576 := by have := hs.n; omega
 have HB : Hk (Below w.heap.size w w) := ⟨Below.refl _ _⟩
 have ER : Hk (ordN (prevI l 0) (abI (l.drop 0)) = r) := E
 clear h hs E hlen
 go_enter Try.func46, Try.ntmps46
 go_wp2
 obtain ⟨wo, hwo⟩ : ∃ wo : World, wo = w := ⟨_, rfl⟩
 go_loopw [7] (fun i wr => ∃ (k : Nat), i = .int .i64 k ∧ k ≤ n ∧ Hk (ordN (prevI l k) (abI (l.drop k)) = r) ∧ Hk (Below w.heap.size w wr)) (fun i _ => n - (intOf i).toNat)
 case atStart => exact ⟨0, rfl, Nat.zero_le _, ER, HB⟩
 case round =>
  clear ER HB hwo wo
  obtain ⟨k, rfl, hk, ER, HB⟩ := hrel
  by_cases hlt : k < n
  ·have hall := fun j (hj : j < n) => (HH.out.below HB.out (Nat.le_refl _)).three hj
   have HALL := Hk.mk hall
   obtain ⟨b, off, rfl, hbl, ⟨p0, p1, p2⟩, hnq⟩ := hall k hlt
   have hkl : k < l.length := by rw [HL.out]; exact hlt
   have HM := Hk.mk (HS.out.m _ (getD_memI hkl))
   have hes := ER.out
   rw [abI_drop hkl] at hes
   have HPV : Hk (prevI l (k + 1) = some (l.getD k default).ab) := ⟨rfl⟩
   clear hall
   obtain ⟨q, hqq⟩ : ∃ q, l.getD k default = q := ⟨_, rfl⟩
   rw [hqq] at p0 p1 p2 hnq HM hes HPV
   clear hqq
   have HDQ : Hk (CmD (wr.alloc (.cells #[.int .i64 q.t, .int .i64 q.p, .slice q.a q.n q.c] 55)) (wr.alloc (.cells #[.int .i64 q.t, .int .i64 q.p, .slice q.a q.n q.c] 55)).heap.size q.a q.n q.l) := ⟨((hnq.mono HB.out.size).below ((Below.refl _ _).alloc (Nat.le_refl _) (.cells #[.int .i64 q.t, .int .i64 q.p, .slice q.a q.n q.c] 55)) (Nat.le_refl _)).mono (by simp)⟩
   have t0 : (0 : Int) ≤ (k : Int) := by omega
   have t1 : (k : Int) < (n : Int) := by omega
   have HLT := Hk.mk hlt
   have gk : IntKind.i64.wrap ((k : Int) + 1) = ((k + 1 : Nat) : Int) := by push_cast; exact wr27 (by omega) (by omega)
   have hbr : b < wr.heap.size := Nat.lt_of_lt_of_le hbl HB.out.size
   have HV : Hk (Below (wr.heap.size + 1) (wr.alloc (.cells #[.int .i64 q.t, .int .i64 q.p, .slice q.a q.n q.c] 55)) (wr.alloc (.cells #[.int .i64 q.t, .int .i64 q.p, .slice q.a q.n q.c] 55))) := ⟨Below.refl _ _⟩
   have hNV : (wr.heap.size + 1) ≤ (wr.alloc (.cells #[.int .i64 q.t, .int .i64 q.p, .slice q.a q.n q.c] 55)).heap.size := by simp
   have hbr1 : b < wr.heap.size + 1 := by omega
   clear hnq hkl hk ER hbl
   go_upto_region 4 with fail
   cases hv : okN q.ab
   ·have EQ : Hk ((if okN ⟨q.t, q.p, abC q.l⟩ then (0 : Int) else 1) = 1) := ⟨by rw [show (⟨q.t, q.p, abC q.l⟩ : In) = q.ab from rfl, hv]; rfl⟩
    have R : Hk (false = r) := ⟨by rw [← hes]; cases hp : prevI l k with | none => simp [ordN, hv] | some x => simp [ordN, hv]⟩
    clear hes hv hlt
    as_aux_lemma =>
     refine wp_region_held_drew (S := (fun X => (∀ b o, b < (wr.heap.size + 1) → X.cell? ⟨b, o, none⟩ = ((wr.alloc (.cells #[.int .i64 q.t, .int .i64 q.p, .slice q.a q.n q.c] 55))).cell? ⟨b, o, none⟩) ∧ Below (wr.heap.size + 1) (wr.alloc (.cells #[.int .i64 q.t, .int .i64 q.p, .slice q.a q.n q.c] 55)) X)) (by kernel_rfl) ?_ (fun hHeld => ?_)
     ·exact kw_S (kw_drew HV.out)
     have HI : Ix [0] := trivial
     (refine tkA HI (v := ?_) rfl (by kernel_rfl) (fun _ _ _ h => h) (.inl ⟨by rfl, fun wX hSw => ?_⟩) hHeld (fun HJ => ?_); rotate_left; (focus ((try dsimp only at hSw); go_simp; try with_reducible rfl)); clear HI; have HI := HJ; clear HJ; try simp only [Act.put, jjA, jjB, jjC, jjD, jjE, jjF])
     clear HI
     refine wpAnyH_ready (rs := [1]) (by kernel_rfl) (by simp) ?_
     refine AllReadyH.cons rfl (fun K hK => ?_) (AllReadyH.nil)
     go_simp
     ((go_at_call 47; (with_reducible refine (tcheck_as 1 q.t q.p q.a q.n q.c q.l _ (by first | exact (HDQ.out.below HV.out (by simp)).mono HV.out.size | exact (HDQ.out.below HV.out.drew (by simp)).mono HV.out.drew.size) HM.out EQ).mono ?_); rintro e z ⟨rfl, hb⟩; have hB2 : Hk (Below (wr.heap.size + 1) (wr.alloc (.cells #[.int .i64 q.t, .int .i64 q.p, .slice q.a q.n q.c] 55)) z) := ⟨by first | exact kw_step HV.out hNV hb | exact kw_step HV.out.drew hNV hb⟩; clear hb; replace HV := hB2; clear hB2))
     refine hK.out _ _ ?_ (fun hHeld => ?_)
     ·exact kw_S HV.out
     clear hK K
     (try simp only [Act.put, jjA, jjB, jjC, jjD, jjE, jjF])
     have HI : Ix [2, 3] := trivial
     iterate 2 (refine tkA HI (v := ?_) rfl (by kernel_rfl) (fun _ _ _ h => h) (.inl ⟨by rfl, fun wX hSw => ?_⟩) hHeld (fun HJ => ?_); rotate_left; (focus ((try dsimp only at hSw); go_simp; try with_reducible rfl)); clear HI; have HI := HJ; clear HJ; try simp only [Act.put, jjA, jjB, jjC, jjD, jjE, jjF])
     clear HI
     have HI : Ix [4, 5, 6, 7, 8, 9, 10, 11, 12, 13, 14, 15] := trivial
     iterate 12 (refine tkA HI (v := undef) rfl (by kernel_rfl) (fun _ _ _ h => h) (.inr ⟨by rfl, rfl⟩) hHeld (fun HJ => ?_); clear HI; have HI := HJ; clear HJ; try simp only [Act.put, jjA, jjB, jjC, jjD, jjE, jjF])
     clear HI
     have HI : Ix [16] := trivial
     (refine tkA HI (v := ?_) rfl (by kernel_rfl) (fun _ _ _ h => h) (.inl ⟨by rfl, fun wX hSw => ?_⟩) hHeld (fun HJ => ?_); rotate_left; (focus ((try dsimp only at hSw); go_simp; try with_reducible rfl)); clear HI; have HI := HJ; clear HJ; try simp only [Act.put, jjA, jjB, jjC, jjD, jjE, jjF])
     clear HI
     refine wpAnyH_done (by kernel_rfl) ?_ _
     go_wp2
     go_ret
     have HB2 : Hk (Below w.heap.size w _) := ⟨(HB.out.alloc HB.out.size (.cells #[.int .i64 q.t, .int .i64 q.p, .slice q.a q.n q.c] 55)).trans (HV.out.mono (by have := HB.out.size; omega))⟩
     exact ⟨rb R.out, HB2.out⟩
   ·have EQ : Hk ((if okN ⟨q.t, q.p, abC q.l⟩ then (0 : Int) else 1) = 0) := ⟨by rw [show (⟨q.t, q.p, abC q.l⟩ : In) = q.ab from rfl, hv]; rfl⟩
    by_cases hk0 : k = 0
    ·have ER2 : Hk (ordN (prevI l (k + 1)) (abI (l.drop (k + 1))) = r) := ⟨by rw [← hes, HPV.out]; subst hk0; show _ = (okN q.ab && ordN (some q.ab) _); rw [hv]; rfl⟩
     have hkd : decide ((0 : Int) < (k : Int)) = false := by rw [decide_eq_false_iff_not]; omega
     have hkn : ¬ 0 < k := by omega
     clear hes hlt hk0 hv
     as_aux_lemma =>
      refine wp_region_held_drew (S := (fun X => (∀ b o, b < (wr.heap.size + 1) → X.cell? ⟨b, o, none⟩ = ((wr.alloc (.cells #[.int .i64 q.t, .int .i64 q.p, .slice q.a q.n q.c] 55))).cell? ⟨b, o, none⟩) ∧ Below (wr.heap.size + 1) (wr.alloc (.cells #[.int .i64 q.t, .int .i64 q.p, .slice q.a q.n q.c] 55)) X)) (by kernel_rfl) ?_ (fun hHeld => ?_)
      ·exact kw_S (kw_drew HV.out)
      have HI : Ix [0] := trivial
      (refine tkA HI (v := ?_) rfl (by kernel_rfl) (fun _ _ _ h => h) (.inl ⟨by rfl, fun wX hSw => ?_⟩) hHeld (fun HJ => ?_); rotate_left; (focus ((try dsimp only at hSw); go_simp; try with_reducible rfl)); clear HI; have HI := HJ; clear HJ; try simp only [Act.put, jjA, jjB, jjC, jjD, jjE, jjF])
      clear HI
      refine wpAnyH_ready (rs := [1]) (by kernel_rfl) (by simp) ?_
      refine AllReadyH.cons rfl (fun K hK => ?_) (AllReadyH.nil)
      go_simp
      ((go_at_call 47; (with_reducible refine (tcheck_as 0 q.t q.p q.a q.n q.c q.l _ (by first | exact (HDQ.out.below HV.out (by simp)).mono HV.out.size | exact (HDQ.out.below HV.out.drew (by simp)).mono HV.out.drew.size) HM.out EQ).mono ?_); rintro e z ⟨rfl, hb⟩; have hB2 : Hk (Below (wr.heap.size + 1) (wr.alloc (.cells #[.int .i64 q.t, .int .i64 q.p, .slice q.a q.n q.c] 55)) z) := ⟨by first | exact kw_step HV.out hNV hb | exact kw_step HV.out.drew hNV hb⟩; clear hb; replace HV := hB2; clear hB2))
      refine hK.out _ _ ?_ (fun hHeld => ?_)
      ·exact kw_S HV.out
      clear hK K
      (try simp only [Act.put, jjA, jjB, jjC, jjD, jjE, jjF])
      have HI : Ix [2, 3, 4, 5, 6] := trivial
      iterate 5 (refine tkA HI (v := ?_) rfl (by kernel_rfl) (fun _ _ _ h => h) (.inl ⟨by rfl, fun wX hSw => ?_⟩) hHeld (fun HJ => ?_); rotate_left; (focus ((try dsimp only at hSw); go_simp; try with_reducible rfl)); clear HI; have HI := HJ; clear HJ; try simp only [Act.put, jjA, jjB, jjC, jjD, jjE, jjF])
      clear HI
      have HI : Ix [7, 8, 9, 10, 11, 12, 13, 14] := trivial
      iterate 8 (refine tkA HI (v := undef) rfl (by kernel_rfl) (fun _ _ _ h => h) (.inr ⟨by rfl, rfl⟩) hHeld (fun HJ => ?_); clear HI; have HI := HJ; clear HJ; try simp only [Act.put, jjA, jjB, jjC, jjD, jjE, jjF])
      clear HI
      have HI : Ix [15, 16] := trivial
      iterate 2 (refine tkA HI (v := ?_) rfl (by kernel_rfl) (fun _ _ _ h => h) (.inl ⟨by rfl, fun wX hSw => ?_⟩) hHeld (fun HJ => ?_); rotate_left; (focus ((try dsimp only at hSw); go_simp; try with_reducible rfl)); clear HI; have HI := HJ; clear HJ; try simp only [Act.put, jjA, jjB, jjC, jjD, jjE, jjF])
      clear HI
      refine wpAnyH_done (by kernel_rfl) ?_ _
      go_wp2
      have HB2 : Hk (Below w.heap.size w _) := ⟨(HB.out.alloc HB.out.size (.cells #[.int .i64 q.t, .int .i64 q.p, .slice q.a q.n q.c] 55)).trans (HV.out.mono (by have := HB.out.size; omega))⟩
      exact ⟨⟨k + 1, by go_num, HLT.out, ER2, HB2⟩, by first | exact nx_ms HLT.out | exact nx_ms' HLT.out⟩
    ·obtain ⟨j, hj⟩ : ∃ j, k = j + 1 := ⟨k - 1, by omega⟩
     obtain ⟨b', off', eb, _, ⟨z0, z1, z2⟩, -⟩ := HALL.out j (by omega)
     injection eb with eb
     injection eb with eb1 eb2
     subst eb1 eb2
     have hpv : prevI l k = some (l.getD j default).ab := by rw [hj]; rfl
     rw [hpv] at hes
     obtain ⟨pq, hpq⟩ : ∃ pq, l.getD j default = pq := ⟨_, rfl⟩
     rw [hpq] at z0 z1 z2 hes
     have hkd : decide ((0 : Int) < (k : Int)) = true := by rw [decide_eq_true_iff]; omega
     have hkn : 0 < k := by omega
     have gj : IntKind.i64.wrap ((k : Int) - 1) = (j : Int) := by rw [show (k : Int) - 1 = (j : Int) by omega]; exact wr27 (by omega) (by omega)
     have j0 : (0 : Int) ≤ (j : Int) := by omega
     have j1 : (j : Int) < (n : Int) := by omega
     have hes2 : (ltB pq.ab q.ab && ordN (some q.ab) (abI (l.drop (k + 1)))) = r := by rw [← hes]; show _ = ((okN q.ab && ltB pq.ab q.ab) && _); rw [hv]; rfl
     clear hes hpv hpq hk0 hj hv
     by_cases hl : ltI pq q
     ·have hlb : decide (0 ≤ cfI pq q) = false := by rw [decide_eq_false_iff_not]; have := (cfI_neg pq q).2 hl; omega
      have ER2 : Hk (ordN (prevI l (k + 1)) (abI (l.drop (k + 1))) = r) := ⟨by rw [← hes2, HPV.out, (ltB_iff pq q).2 hl]; rfl⟩
      clear hes2 hl hlt
      as_aux_lemma =>
       refine wp_region_held_drew (S := (fun X => (∀ b o, b < (wr.heap.size + 1) → X.cell? ⟨b, o, none⟩ = ((wr.alloc (.cells #[.int .i64 q.t, .int .i64 q.p, .slice q.a q.n q.c] 55))).cell? ⟨b, o, none⟩) ∧ Below (wr.heap.size + 1) (wr.alloc (.cells #[.int .i64 q.t, .int .i64 q.p, .slice q.a q.n q.c] 55)) X)) (by kernel_rfl) ?_ (fun hHeld => ?_)
       ·exact kw_S (kw_drew HV.out)
       have HI : Ix [0] := trivial
       (refine tkA HI (v := ?_) rfl (by kernel_rfl) (fun _ _ _ h => h) (.inl ⟨by rfl, fun wX hSw => ?_⟩) hHeld (fun HJ => ?_); rotate_left; (focus ((try dsimp only at hSw); go_simp; try with_reducible rfl)); clear HI; have HI := HJ; clear HJ; try simp only [Act.put, jjA, jjB, jjC, jjD, jjE, jjF])
       clear HI
       refine wpAnyH_ready (rs := [1]) (by kernel_rfl) (by simp) ?_
       refine AllReadyH.cons rfl (fun K hK => ?_) (AllReadyH.nil)
       go_simp
       (first | (go_at_call 47; (with_reducible refine (tcheck_as 0 q.t q.p q.a q.n q.c q.l _ (by first | exact (HDQ.out.below HV.out (by simp)).mono HV.out.size | exact (HDQ.out.below HV.out.drew (by simp)).mono HV.out.drew.size) HM.out EQ).mono ?_); rintro e z ⟨rfl, hb⟩; have hB2 : Hk (Below (wr.heap.size + 1) (wr.alloc (.cells #[.int .i64 q.t, .int .i64 q.p, .slice q.a q.n q.c] 55)) z) := ⟨by first | exact kw_step HV.out hNV hb | exact kw_step HV.out.drew hNV hb⟩; clear hb; replace HV := hB2; clear hB2) | (go_at_call 49; (with_reducible refine (compI_b pq q _).mono ?_); rintro e z ⟨rfl, hb⟩; have hB2 : Hk (Below (wr.heap.size + 1) (wr.alloc (.cells #[.int .i64 q.t, .int .i64 q.p, .slice q.a q.n q.c] 55)) z) := ⟨by first | exact kw_step HV.out hNV hb | exact kw_step HV.out.drew hNV hb⟩; clear hb; replace HV := hB2; clear hB2))
       refine hK.out _ _ ?_ (fun hHeld => ?_)
       ·exact kw_S HV.out
       clear hK K
       (try simp only [Act.put, jjA, jjB, jjC, jjD, jjE, jjF])
       have HI : Ix [2, 3, 4, 5, 6, 7, 8, 9, 10, 11, 12] := trivial
       iterate 11 (refine tkA HI (v := ?_) rfl (by kernel_rfl) (fun _ _ _ h => h) (.inl ⟨by rfl, fun wX hSw => ?_⟩) hHeld (fun HJ => ?_); rotate_left; (focus ((try dsimp only at hSw); go_simp; try with_reducible rfl)); clear HI; have HI := HJ; clear HJ; try simp only [Act.put, jjA, jjB, jjC, jjD, jjE, jjF])
       clear HI
       refine wpAnyH_ready (rs := [13]) (by kernel_rfl) (by simp) ?_
       refine AllReadyH.cons rfl (fun K hK => ?_) (AllReadyH.nil)
       go_simp
       (first | (go_at_call 47; (with_reducible refine (tcheck_as 0 q.t q.p q.a q.n q.c q.l _ (by first | exact (HDQ.out.below HV.out (by simp)).mono HV.out.size | exact (HDQ.out.below HV.out.drew (by simp)).mono HV.out.drew.size) HM.out EQ).mono ?_); rintro e z ⟨rfl, hb⟩; have hB2 : Hk (Below (wr.heap.size + 1) (wr.alloc (.cells #[.int .i64 q.t, .int .i64 q.p, .slice q.a q.n q.c] 55)) z) := ⟨by first | exact kw_step HV.out hNV hb | exact kw_step HV.out.drew hNV hb⟩; clear hb; replace HV := hB2; clear hB2) | (go_at_call 49; (with_reducible refine (compI_b pq q _).mono ?_); rintro e z ⟨rfl, hb⟩; have hB2 : Hk (Below (wr.heap.size + 1) (wr.alloc (.cells #[.int .i64 q.t, .int .i64 q.p, .slice q.a q.n q.c] 55)) z) := ⟨by first | exact kw_step HV.out hNV hb | exact kw_step HV.out.drew hNV hb⟩; clear hb; replace HV := hB2; clear hB2))
       refine hK.out _ _ ?_ (fun hHeld => ?_)
       ·exact kw_S HV.out
       clear hK K
       (try simp only [Act.put, jjA, jjB, jjC, jjD, jjE, jjF])
       have HI : Ix [14, 15, 16] := trivial
       iterate 3 (refine tkA HI (v := ?_) rfl (by kernel_rfl) (fun _ _ _ h => h) (.inl ⟨by rfl, fun wX hSw => ?_⟩) hHeld (fun HJ => ?_); rotate_left; (focus ((try dsimp only at hSw); go_simp; try with_reducible rfl)); clear HI; have HI := HJ; clear HJ; try simp only [Act.put, jjA, jjB, jjC, jjD, jjE, jjF])
       clear HI
       refine wpAnyH_done (by kernel_rfl) ?_ _
       go_wp2
       have HB2 : Hk (Below w.heap.size w _) := ⟨(HB.out.alloc HB.out.size (.cells #[.int .i64 q.t, .int .i64 q.p, .slice q.a q.n q.c] 55)).trans (HV.out.mono (by have := HB.out.size; omega))⟩
       exact ⟨⟨k + 1, by go_num, HLT.out, ER2, HB2⟩, by first | exact nx_ms HLT.out | exact nx_ms' HLT.out⟩
     ·have hlb : decide (0 ≤ cfI pq q) = true := by rw [decide_eq_true_iff]; have := mt (cfI_neg pq q).1 hl; omega
      have R : Hk (false = r) := ⟨by rw [← hes2, show ltB pq.ab q.ab = false from by cases h : ltB pq.ab q.ab; rfl; exact absurd ((ltB_iff pq q).1 h) hl]; rfl⟩
      clear hes2 hl hlt
      as_aux_lemma =>
       refine wp_region_held_drew (S := (fun X => (∀ b o, b < (wr.heap.size + 1) → X.cell? ⟨b, o, none⟩ = ((wr.alloc (.cells #[.int .i64 q.t, .int .i64 q.p, .slice q.a q.n q.c] 55))).cell? ⟨b, o, none⟩) ∧ Below (wr.heap.size + 1) (wr.alloc (.cells #[.int .i64 q.t, .int .i64 q.p, .slice q.a q.n q.c] 55)) X)) (by kernel_rfl) ?_ (fun hHeld => ?_)
       ·exact kw_S (kw_drew HV.out)
       have HI : Ix [0] := trivial
       (refine tkA HI (v := ?_) rfl (by kernel_rfl) (fun _ _ _ h => h) (.inl ⟨by rfl, fun wX hSw => ?_⟩) hHeld (fun HJ => ?_); rotate_left; (focus ((try dsimp only at hSw); go_simp; try with_reducible rfl)); clear HI; have HI := HJ; clear HJ; try simp only [Act.put, jjA, jjB, jjC, jjD, jjE, jjF])
       clear HI
       refine wpAnyH_ready (rs := [1]) (by kernel_rfl) (by simp) ?_
       refine AllReadyH.cons rfl (fun K hK => ?_) (AllReadyH.nil)
       go_simp
       (first | (go_at_call 47; (with_reducible refine (tcheck_as 0 q.t q.p q.a q.n q.c q.l _ (by first | exact (HDQ.out.below HV.out (by simp)).mono HV.out.size | exact (HDQ.out.below HV.out.drew (by simp)).mono HV.out.drew.size) HM.out EQ).mono ?_); rintro e z ⟨rfl, hb⟩; have hB2 : Hk (Below (wr.heap.size + 1) (wr.alloc (.cells #[.int .i64 q.t, .int .i64 q.p, .slice q.a q.n q.c] 55)) z) := ⟨by first | exact kw_step HV.out hNV hb | exact kw_step HV.out.drew hNV hb⟩; clear hb; replace HV := hB2; clear hB2) | (go_at_call 49; (with_reducible refine (compI_b pq q _).mono ?_); rintro e z ⟨rfl, hb⟩; have hB2 : Hk (Below (wr.heap.size + 1) (wr.alloc (.cells #[.int .i64 q.t, .int .i64 q.p, .slice q.a q.n q.c] 55)) z) := ⟨by first | exact kw_step HV.out hNV hb | exact kw_step HV.out.drew hNV hb⟩; clear hb; replace HV := hB2; clear hB2))
       refine hK.out _ _ ?_ (fun hHeld => ?_)
       ·exact kw_S HV.out
       clear hK K
       (try simp only [Act.put, jjA, jjB, jjC, jjD, jjE, jjF])
       have HI : Ix [2, 3, 4, 5, 6, 7, 8, 9, 10, 11, 12] := trivial
       iterate 11 (refine tkA HI (v := ?_) rfl (by kernel_rfl) (fun _ _ _ h => h) (.inl ⟨by rfl, fun wX hSw => ?_⟩) hHeld (fun HJ => ?_); rotate_left; (focus ((try dsimp only at hSw); go_simp; try with_reducible rfl)); clear HI; have HI := HJ; clear HJ; try simp only [Act.put, jjA, jjB, jjC, jjD, jjE, jjF])
       clear HI
       refine wpAnyH_ready (rs := [13]) (by kernel_rfl) (by simp) ?_
       refine AllReadyH.cons rfl (fun K hK => ?_) (AllReadyH.nil)
       go_simp
       (first | (go_at_call 47; (with_reducible refine (tcheck_as 0 q.t q.p q.a q.n q.c q.l _ (by first | exact (HDQ.out.below HV.out (by simp)).mono HV.out.size | exact (HDQ.out.below HV.out.drew (by simp)).mono HV.out.drew.size) HM.out EQ).mono ?_); rintro e z ⟨rfl, hb⟩; have hB2 : Hk (Below (wr.heap.size + 1) (wr.alloc (.cells #[.int .i64 q.t, .int .i64 q.p, .slice q.a q.n q.c] 55)) z) := ⟨by first | exact kw_step HV.out hNV hb | exact kw_step HV.out.drew hNV hb⟩; clear hb; replace HV := hB2; clear hB2) | (go_at_call 49; (with_reducible refine (compI_b pq q _).mono ?_); rintro e z ⟨rfl, hb⟩; have hB2 : Hk (Below (wr.heap.size + 1) (wr.alloc (.cells #[.int .i64 q.t, .int .i64 q.p, .slice q.a q.n q.c] 55)) z) := ⟨by first | exact kw_step HV.out hNV hb | exact kw_step HV.out.drew hNV hb⟩; clear hb; replace HV := hB2; clear hB2))
       refine hK.out _ _ ?_ (fun hHeld => ?_)
       ·exact kw_S HV.out
       clear hK K
       (try simp only [Act.put, jjA, jjB, jjC, jjD, jjE, jjF])
       have HI : Ix [14, 15, 16] := trivial
       iterate 3 (refine tkA HI (v := ?_) rfl (by kernel_rfl) (fun _ _ _ h => h) (.inl ⟨by rfl, fun wX hSw => ?_⟩) hHeld (fun HJ => ?_); rotate_left; (focus ((try dsimp only at hSw); go_simp; try with_reducible rfl)); clear HI; have HI := HJ; clear HJ; try simp only [Act.put, jjA, jjB, jjC, jjD, jjE, jjF])
       clear HI
       refine wpAnyH_done (by kernel_rfl) ?_ _
       go_wp2
       go_ret
       have HB2 : Hk (Below w.heap.size w _) := ⟨(HB.out.alloc HB.out.size (.cells #[.int .i64 q.t, .int .i64 q.p, .slice q.a q.n q.c] 55)).trans (HV.out.mono (by have := HB.out.size; omega))⟩
       exact ⟨rb R.out, HB2.out⟩
  ·obtain rfl : k = n := by omega
   have R : Hk (true = r) := ⟨by rw [← ER.out, List.drop_of_length_le (by rw [HL.out]; exact Nat.le_refl _)]; cases prevI l k <;> rfl⟩
   go_wp2
   go_ret
   exact ⟨rb R.out, HB.out⟩
end Go.Proofs.Ytdpblimhfmfbnaa
