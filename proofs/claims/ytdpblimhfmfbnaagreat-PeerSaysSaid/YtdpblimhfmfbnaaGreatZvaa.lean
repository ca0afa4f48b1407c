import Derived.Deep.QuietTactic
import Derived.BigQuiet
import Derived.Deep.RegionWith
import Derived.Deep.RegionHeld3
import Derived.Deep.DeepCutAuto
import Derived.Deep.DeepFit
import Derived.Outline
import Derived.Test.YtdpblimhfmfbnaaGreatZvp
import Derived.Test.YtdpblimhfmfbnaaGreatZva
set_option linter.unusedVariables false
set_option linter.unusedSimpArgs false
namespace Go.Proofs.YtdpblimhfmfbnaaGreat
open List renaming getElem_toArray → jjA, getElem_cons_succ → jjB, getElem_cons_zero → jjC, setIfInBounds_toArray → jjD, set_cons_zero → jjE, set_cons_succ → jjF
open Go.ChangeShapes Go.WideShapes Go.ChangeAt Go.RowKit Go.Deep
def lastC (l : List Cv) : Nat → Int
 | 0 => -1
 | k + 1 => (l.getD k default).s
theorem okC_s0 {p s k : Int} {f : CF} (h : okC p s k f = true) : 0 ≤ s := by
 unfold okC baseB at h
 simp only [Bool.and_eq_true, decide_eq_true_eq] at h
 exact h.1.2.2.2.1
set_option maxRecDepth 100000 in
set_option maxHeartbeats 3200000 in
theorem rmay27_as (r : Bool) (t p : Int) (a : Option Addr) (n c : Nat) (l : List Cv) (w : World) (h : CmD w w.heap.size a n l) (hs : SmC l) (E : Hk (okN ⟨t, p, abC l⟩ = r)) :
  Calls Tryz.prog 65 #[.agg #[.int .i64 t, .int .i64 p, .slice a n c]] w fun e w' => e = .returned (.bool r) ∧ Below w.heap.size w w' := by
 have HWB : Hk (Below w.heap.size w (w.alloc (.cells #[.int .i64 t, .int .i64 p, .slice a n c] 40))) := ⟨(Below.refl _ _).alloc (Nat.le_refl _) _⟩
 have hNW : (w.heap.size + 1) ≤ (w.alloc (.cells #[.int .i64 t, .int .i64 p, .slice a n c] 40)).heap.size := by simp
 have HB : Hk (Below (w.heap.size + 1) (w.alloc (.cells #[.int .i64 t, .int .i64 p, .slice a n c] 40)) (w.alloc (.cells #[.int .i64 t, .int .i64 p, .slice a n c] 40))) := ⟨Below.refl _ _⟩
 have HTR : Hk (∀ X, Below (w.heap.size + 1) (w.alloc (.cells #[.int .i64 t, .int .i64 p, .slice a n c] 40)) X → Below w.heap.size w X) := ⟨fun X hX => HWB.out.trans (hX.mono (by omega))⟩
 have HH := Hk.mk h
 have hlen := h.q.len
 have HL := Hk.mk hlen
 have HS := Hk.mk hs
 have hn20 : n ≤ 1048576 := by have := hs.n; omega
 have PB : Hk ((w.alloc (.cells #[.int .i64 t, .int .i64 p, .slice a n c] 40)).cell? ⟨w.heap.size, 1, none⟩ = some (.int .i64 p)) := ⟨(Bk.new w #[.int .i64 t, .int .i64 p, .slice a n c] 40).c 1⟩
 have PC : Hk ((w.alloc (.cells #[.int .i64 t, .int .i64 p, .slice a n c] 40)).cell? ⟨w.heap.size, 2, none⟩ = some (.slice a n c)) := ⟨(Bk.new w #[.int .i64 t, .int .i64 p, .slice a n c] 40).c 2⟩
 obtain ⟨nr, hnr⟩ : ∃ nr, decide (0 ≤ t ∧ t ≤ 1099511627776) = nr := ⟨_, rfl⟩
 have EN := Hk.mk hnr
 clear h hs hnr
 by_cases hbd : BdN t p n
 case neg =>
  have R : Hk (false = r) := ⟨by rw [← E.out, okN_no (by rw [hlen]; exact hbd)]⟩
  clear E
  cases nr
  ·clear hbd
   go_enter Tryz.func65, Tryz.ntmps65
   go_wp2_with (go_at_call 29; (with_reducible refine (rnum22_as _ t 1099511627776 _ EN).mono ?_); rintro e z1 ⟨rfl, rfl⟩)
   go_ret
   exact ⟨rb R.out, HWB.out⟩
  ·cases b2 : decide (p < 1)
   ·cases b3 : decide (8 < p)
    ·have b4 : decide (64 < (n : Int)) = true := by
      rw [decide_eq_true_iff]
      have h0 := of_decide_eq_true EN.out
      have h2 := of_decide_eq_false b2
      have h3 := of_decide_eq_false b3
      apply Classical.byContradiction
      intro h4
      exact hbd ⟨by omega, by omega, by omega, by omega, by omega⟩
     have b4n : decide (64 < n) = true := by rw [decide_eq_true_iff] at b4 ⊢; omega
     clear hbd
     go_enter Tryz.func65, Tryz.ntmps65
     go_wp2_with (go_at_call 29; (with_reducible refine (rnum22_as _ t 1099511627776 _ EN).mono ?_); rintro e z1 ⟨rfl, rfl⟩)
     go_ret
     exact ⟨rb R.out, HWB.out⟩
    ·clear hbd
     go_enter Tryz.func65, Tryz.ntmps65
     go_wp2_with (go_at_call 29; (with_reducible refine (rnum22_as _ t 1099511627776 _ EN).mono ?_); rintro e z1 ⟨rfl, rfl⟩)
     go_ret
     exact ⟨rb R.out, HWB.out⟩
   ·clear hbd
    go_enter Tryz.func65, Tryz.ntmps65
    go_wp2_with (go_at_call 29; (with_reducible refine (rnum22_as _ t 1099511627776 _ EN).mono ?_); rintro e z1 ⟨rfl, rfl⟩)
    go_ret
    exact ⟨rb R.out, HWB.out⟩
 case pos =>
  obtain rfl : nr = true := by rw [← EN.out]; exact decide_eq_true ⟨hbd.t1, hbd.t2⟩
  have b2 : decide (p < 1) = false := by have := hbd.p1; rw [decide_eq_false_iff_not]; omega
  have b3 : decide (8 < p) = false := by have := hbd.p2; rw [decide_eq_false_iff_not]; omega
  have b4 : decide (64 < (n : Int)) = false := by have := hbd.n; rw [decide_eq_false_iff_not]; omega
  have b4n : decide (64 < n) = false := by have := hbd.n; rw [decide_eq_false_iff_not]; omega
  have ER : Hk (okL p (lastC l 0) (abC (l.drop 0)) = r) := ⟨by rw [← E.out, okN_bd (by rw [hlen]; exact hbd)]; rfl⟩
  clear E hbd
  go_enter Tryz.func65, Tryz.ntmps65
  go_wp2_with (go_at_call 29; (with_reducible refine (rnum22_as true t 1099511627776 _ EN).mono ?_); rintro e z1 ⟨rfl, rfl⟩)
  clear b2 b3 b4 b4n EN
  obtain ⟨wo, hwo⟩ : ∃ wo : World, wo = (w.alloc (.cells #[.int .i64 t, .int .i64 p, .slice a n c] 40)) := ⟨_, rfl⟩
  go_loopw [3] (fun i wr => ∃ (k : Nat), i = .int .i64 k ∧ k ≤ n ∧ Hk (okL p (lastC l k) (abC (l.drop k)) = r) ∧ Hk (Below (w.heap.size + 1) (w.alloc (.cells #[.int .i64 t, .int .i64 p, .slice a n c] 40)) wr)) (fun i _ => n - (intOf i).toNat)
  case atStart => exact ⟨0, rfl, Nat.zero_le _, ER, HB⟩
  case round =>
   clear ER HB hwo wo
   obtain ⟨k, rfl, hk, ER, HB⟩ := hrel
   have y2 := (HB.out.cell (p := ⟨w.heap.size, 2, none⟩) (Nat.lt_succ_self _)).trans PC.out
   by_cases hlt : k < n
   ·have hall := fun j (hj : j < n) => (HH.out.below (HTR.out _ HB.out) (Nat.le_refl _)).ten hj
    have HALL := Hk.mk hall
    obtain ⟨b, off, rfl, hbl, ⟨p0, p1, p2, p3, p4, p5, p6, p7, p8, p9⟩, hnq⟩ := hall k hlt
    have hkl : k < l.length := by rw [HL.out]; exact hlt
    have hm := HS.out.m _ (getD_memC hkl)
    have hok := okL_drop (p := p) (last := lastC l k) hkl
    have HLS : Hk ((l.getD k default).s = lastC l (k + 1)) := ⟨rfl⟩
    clear hall
    generalize l.getD k default = q at *
    have HNQ : Hk (Nq (wr.alloc (.cells (jkC q.p q.s q.k q.n q.a q.m q.c q.t q.w q.h q.x q.y) 95)) (wr.alloc (.cells (jkC q.p q.s q.k q.n q.a q.m q.c q.t q.w q.h q.x q.y) 95)).heap.size q.a q.m q.u) := ⟨(hnq.mono (HTR.out _ HB.out).size).below ((Below.refl _ _).alloc (Nat.le_refl _) (.cells (jkC q.p q.s q.k q.n q.a q.m q.c q.t q.w q.h q.x q.y) 95)) (Nat.le_refl _) |>.mono (by simp)⟩
    have HM : Hk (q.m ≤ 1099511627776) := ⟨by omega⟩
    have t0 : (0 : Int) ≤ (k : Int) := by omega
    have t1 : (k : Int) < (n : Int) := by omega
    have HLT := Hk.mk hlt
    have gk : IntKind.i64.wrap ((k : Int) + 1) = ((k + 1 : Nat) : Int) := by push_cast; exact wr27 (by omega) (by omega)
    have hes := ER.out
    rw [hok] at hes
    have hbx : w.heap.size < wr.heap.size := Nat.lt_of_lt_of_le (Nat.lt_succ_self _) (kw_size HB.out hNW)
    have hbr : b < wr.heap.size := Nat.lt_of_lt_of_le hbl (HTR.out _ HB.out).size
    have HV : Hk (Below (wr.heap.size + 1) (wr.alloc (.cells (jkC q.p q.s q.k q.n q.a q.m q.c q.t q.w q.h q.x q.y) 95)) (wr.alloc (.cells (jkC q.p q.s q.k q.n q.a q.m q.c q.t q.w q.h q.x q.y) 95))) := ⟨Below.refl _ _⟩
    have hNV : (wr.heap.size + 1) ≤ (wr.alloc (.cells (jkC q.p q.s q.k q.n q.a q.m q.c q.t q.w q.h q.x q.y) 95)).heap.size := by simp
    have y1 := (HB.out.cell (p := ⟨w.heap.size, 1, none⟩) (Nat.lt_succ_self _)).trans PB.out
    have hbx1 : w.heap.size < wr.heap.size + 1 := by omega
    have hbr1 : b < wr.heap.size + 1 := by omega
    clear hnq hm hkl hok hk ER hlen hbl
    go_upto_region 7 with fail
    clear p0 p2 p3 p4 p5 p6 p7 p8 p9
    cases hv : okC q.p q.s q.k q.f
    ·have EQ : Hk (okC q.p q.s q.k ⟨q.n, q.u, q.t, q.w, q.h, q.x, q.y⟩ = false) := ⟨hv⟩
     have R : Hk (false = r) := ⟨by rw [← hes, hv]; rfl⟩
     clear hes hv hlt HALL
     as_aux_lemma =>
      refine wp_region_held_drew (S := (fun X => (∀ b o, b < (wr.heap.size + 1) → X.cell? ⟨b, o, none⟩ = ((wr.alloc (.cells (jkC q.p q.s q.k q.n q.a q.m q.c q.t q.w q.h q.x q.y) 95))).cell? ⟨b, o, none⟩) ∧ Below (wr.heap.size + 1) (wr.alloc (.cells (jkC q.p q.s q.k q.n q.a q.m q.c q.t q.w q.h q.x q.y) 95)) X)) (by kernel_rfl) ?_ (fun hHeld => ?_)
      ·exact kw_S (kw_drew HV.out)
      have HI : Ix [0] := trivial
      (refine tkA HI (v := ?_) rfl (by kernel_rfl) (fun _ _ _ h => h) (.inl ⟨by rfl, fun wX hSw => ?_⟩) hHeld (fun HJ => ?_); rotate_left; (focus ((try dsimp only at hSw); go_simp; try with_reducible rfl)); clear HI; have HI := HJ; clear HJ; try simp only [Act.put, jjA, jjB, jjC, jjD, jjE, jjF])
      clear HI
      refine wpAnyH_ready (rs := [1]) (by kernel_rfl) (by simp) ?_
      refine AllReadyH.cons rfl (fun K hK => ?_) (AllReadyH.nil)
      go_simp
      ((go_at_call 95; (with_reducible refine (rcmd_as false q.p q.s q.k q.n q.a q.m q.c q.u q.t q.w q.h q.x q.y _ (by first | exact (HNQ.out.below HV.out (by simp)).mono HV.out.size | exact (HNQ.out.below HV.out.drew (by simp)).mono HV.out.drew.size) HM.out EQ).mono ?_); rintro e z ⟨rfl, hb⟩; have hB2 : Hk (Below (wr.heap.size + 1) (wr.alloc (.cells (jkC q.p q.s q.k q.n q.a q.m q.c q.t q.w q.h q.x q.y) 95)) z) := ⟨by first | exact kw_step HV.out hNV hb | exact kw_step HV.out.drew hNV hb⟩; clear hb; replace HV := hB2; clear hB2))
      refine hK.out _ _ ?_ (fun hHeld => ?_)
      ·exact kw_S HV.out
      clear hK K
      (try simp only [Act.put, jjA, jjB, jjC, jjD, jjE, jjF])
      have HI : Ix [2, 3] := trivial
      iterate 2 (refine tkA HI (v := ?_) rfl (by kernel_rfl) (fun _ _ _ h => h) (.inl ⟨by rfl, fun wX hSw => ?_⟩) hHeld (fun HJ => ?_); rotate_left; (focus ((try dsimp only at hSw); go_simp; try with_reducible rfl)); clear HI; have HI := HJ; clear HJ; try simp only [Act.put, jjA, jjB, jjC, jjD, jjE, jjF])
      clear HI
      have HI : Ix [4, 5, 6, 7, 8] := trivial
      iterate 5 (refine tkA HI (v := undef) rfl (by kernel_rfl) (fun _ _ _ h => h) (.inr ⟨by rfl, rfl⟩) hHeld (fun HJ => ?_); clear HI; have HI := HJ; clear HJ; try simp only [Act.put, jjA, jjB, jjC, jjD, jjE, jjF])
      clear HI
      have HI : Ix [9, 10] := trivial
      iterate 2 (refine tkA HI (v := ?_) rfl (by kernel_rfl) (fun _ _ _ h => h) (.inl ⟨by rfl, fun wX hSw => ?_⟩) hHeld (fun HJ => ?_); rotate_left; (focus ((try dsimp only at hSw); go_simp; try with_reducible rfl)); clear HI; have HI := HJ; clear HJ; try simp only [Act.put, jjA, jjB, jjC, jjD, jjE, jjF])
      clear HI
      have HI : Ix [11, 12, 13, 14, 15, 16, 17, 18, 19, 20, 21, 22, 23, 24] := trivial
      iterate 14 (refine tkA HI (v := undef) rfl (by kernel_rfl) (fun _ _ _ h => h) (.inr ⟨by rfl, rfl⟩) hHeld (fun HJ => ?_); clear HI; have HI := HJ; clear HJ; try simp only [Act.put, jjA, jjB, jjC, jjD, jjE, jjF])
      clear HI
      have HI : Ix [25] := trivial
      (refine tkA HI (v := ?_) rfl (by kernel_rfl) (fun _ _ _ h => h) (.inl ⟨by rfl, fun wX hSw => ?_⟩) hHeld (fun HJ => ?_); rotate_left; (focus ((try dsimp only at hSw); go_simp; try with_reducible rfl)); clear HI; have HI := HJ; clear HJ; try simp only [Act.put, jjA, jjB, jjC, jjD, jjE, jjF])
      clear HI
      refine wpAnyH_done (by kernel_rfl) ?_ _
      go_wp2
      go_ret
      have HB2 : Hk (Below (w.heap.size + 1) (w.alloc (.cells #[.int .i64 t, .int .i64 p, .slice (some ⟨b, off, none⟩) n c] 40)) _) := ⟨(HB.out.alloc (kw_size HB.out hNW) (.cells (jkC q.p q.s q.k q.n q.a q.m q.c q.t q.w q.h q.x q.y) 95)).trans (HV.out.mono (by have := kw_size HB.out hNW; simp at this ⊢; omega))⟩
      exact ⟨rb R.out, HTR.out _ HB2.out⟩
    ·have EQ : Hk (okC q.p q.s q.k ⟨q.n, q.u, q.t, q.w, q.h, q.x, q.y⟩ = true) := ⟨hv⟩
     have hs0 := okC_s0 hv
     rw [hv] at hes
     clear hv
     by_cases hp : q.p = p
     ·have hpb : (q.p != p) = false := by simp [hp]
      rw [decide_eq_true hp] at hes
      clear hp
      by_cases hk0 : k = 0
      ·have ER2 : Hk (okL p (lastC l (k + 1)) (abC (l.drop (k + 1))) = r) := ⟨by rw [← hes, ← HLS.out, hk0, show decide (lastC l 0 < q.s) = true from decide_eq_true (by show (-1 : Int) < q.s; omega)]; rfl⟩
       have hkd : decide ((0 : Int) < (k : Int)) = false := by rw [decide_eq_false_iff_not]; omega
       have hkn : ¬ 0 < k := by omega
       clear hes hlt hs0 hk0 HALL
       as_aux_lemma =>
        refine wp_region_held_drew (S := (fun X => (∀ b o, b < (wr.heap.size + 1) → X.cell? ⟨b, o, none⟩ = ((wr.alloc (.cells (jkC q.p q.s q.k q.n q.a q.m q.c q.t q.w q.h q.x q.y) 95))).cell? ⟨b, o, none⟩) ∧ Below (wr.heap.size + 1) (wr.alloc (.cells (jkC q.p q.s q.k q.n q.a q.m q.c q.t q.w q.h q.x q.y) 95)) X)) (by kernel_rfl) ?_ (fun hHeld => ?_)
        ·exact kw_S (kw_drew HV.out)
        have HI : Ix [0] := trivial
        (refine tkA HI (v := ?_) rfl (by kernel_rfl) (fun _ _ _ h => h) (.inl ⟨by rfl, fun wX hSw => ?_⟩) hHeld (fun HJ => ?_); rotate_left; (focus ((try dsimp only at hSw); go_simp; try with_reducible rfl)); clear HI; have HI := HJ; clear HJ; try simp only [Act.put, jjA, jjB, jjC, jjD, jjE, jjF])
        clear HI
        refine wpAnyH_ready (rs := [1]) (by kernel_rfl) (by simp) ?_
        refine AllReadyH.cons rfl (fun K hK => ?_) (AllReadyH.nil)
        go_simp
        ((go_at_call 95; (with_reducible refine (rcmd_as true q.p q.s q.k q.n q.a q.m q.c q.u q.t q.w q.h q.x q.y _ (by first | exact (HNQ.out.below HV.out (by simp)).mono HV.out.size | exact (HNQ.out.below HV.out.drew (by simp)).mono HV.out.drew.size) HM.out EQ).mono ?_); rintro e z ⟨rfl, hb⟩; have hB2 : Hk (Below (wr.heap.size + 1) (wr.alloc (.cells (jkC q.p q.s q.k q.n q.a q.m q.c q.t q.w q.h q.x q.y) 95)) z) := ⟨by first | exact kw_step HV.out hNV hb | exact kw_step HV.out.drew hNV hb⟩; clear hb; replace HV := hB2; clear hB2))
        refine hK.out _ _ ?_ (fun hHeld => ?_)
        ·exact kw_S HV.out
        clear hK K
        (try simp only [Act.put, jjA, jjB, jjC, jjD, jjE, jjF])
        have HI : Ix [2, 3, 4, 5, 6, 7, 8, 9, 10, 11, 12, 13] := trivial
        iterate 12 (refine tkA HI (v := ?_) rfl (by kernel_rfl) (fun _ _ _ h => h) (.inl ⟨by rfl, fun wX hSw => ?_⟩) hHeld (fun HJ => ?_); rotate_left; (focus ((try dsimp only at hSw); go_simp; try with_reducible rfl)); clear HI; have HI := HJ; clear HJ; try simp only [Act.put, jjA, jjB, jjC, jjD, jjE, jjF])
        clear HI
        have HI : Ix [14, 15, 16, 17, 18, 19, 20, 21, 22, 23] := trivial
        iterate 10 (refine tkA HI (v := undef) rfl (by kernel_rfl) (fun _ _ _ h => h) (.inr ⟨by rfl, rfl⟩) hHeld (fun HJ => ?_); clear HI; have HI := HJ; clear HJ; try simp only [Act.put, jjA, jjB, jjC, jjD, jjE, jjF])
        clear HI
        have HI : Ix [24, 25] := trivial
        iterate 2 (refine tkA HI (v := ?_) rfl (by kernel_rfl) (fun _ _ _ h => h) (.inl ⟨by rfl, fun wX hSw => ?_⟩) hHeld (fun HJ => ?_); rotate_left; (focus ((try dsimp only at hSw); go_simp; try with_reducible rfl)); clear HI; have HI := HJ; clear HJ; try simp only [Act.put, jjA, jjB, jjC, jjD, jjE, jjF])
        clear HI
        refine wpAnyH_done (by kernel_rfl) ?_ _
        go_wp2
        have HB2 : Hk (Below (w.heap.size + 1) (w.alloc (.cells #[.int .i64 t, .int .i64 p, .slice (some ⟨b, off, none⟩) n c] 40)) _) := ⟨(HB.out.alloc (kw_size HB.out hNW) (.cells (jkC q.p q.s q.k q.n q.a q.m q.c q.t q.w q.h q.x q.y) 95)).trans (HV.out.mono (by have := kw_size HB.out hNW; simp at this ⊢; omega))⟩
        exact ⟨⟨k + 1, by go_num, HLT.out, ER2, HB2⟩, by first | exact nx_ms HLT.out | exact nx_ms' HLT.out⟩
      ·obtain ⟨j, hj⟩ : ∃ j, k = j + 1 := ⟨k - 1, by omega⟩
       obtain ⟨b', off', eb, _, ⟨-, z1, -⟩, -⟩ := HALL.out j (by omega)
       injection eb with eb
       injection eb with eb1 eb2
       subst eb1 eb2
       have hls : (l.getD j default).s = lastC l k := by rw [hj]; rfl
       rw [hls] at z1
       obtain ⟨la, hla⟩ : ∃ la, lastC l k = la := ⟨_, rfl⟩
       rw [hla] at z1 hes
       have hkd : decide ((0 : Int) < (k : Int)) = true := by rw [decide_eq_true_iff]; omega
       have hkn : 0 < k := by omega
       have gj : IntKind.i64.wrap ((k : Int) - 1) = (j : Int) := by rw [show (k : Int) - 1 = (j : Int) by omega]; exact wr27 (by omega) (by omega)
       have j0 : (0 : Int) ≤ (j : Int) := by omega
       have j1 : (j : Int) < (n : Int) := by omega
       clear hls hla hk0 hj
       by_cases hl : la < q.s
       ·have hlb : decide (q.s ≤ la) = false := by rw [decide_eq_false_iff_not]; omega
        have ER2 : Hk (okL p (lastC l (k + 1)) (abC (l.drop (k + 1))) = r) := ⟨by rw [← hes, ← HLS.out, decide_eq_true hl]; rfl⟩
        clear hes hl hlt hs0 HALL
        as_aux_lemma =>
         refine wp_region_held_drew (S := (fun X => (∀ b o, b < (wr.heap.size + 1) → X.cell? ⟨b, o, none⟩ = ((wr.alloc (.cells (jkC q.p q.s q.k q.n q.a q.m q.c q.t q.w q.h q.x q.y) 95))).cell? ⟨b, o, none⟩) ∧ Below (wr.heap.size + 1) (wr.alloc (.cells (jkC q.p q.s q.k q.n q.a q.m q.c q.t q.w q.h q.x q.y) 95)) X)) (by kernel_rfl) ?_ (fun hHeld => ?_)
         ·exact kw_S (kw_drew HV.out)
         have HI : Ix [0] := trivial
         (refine tkA HI (v := ?_) rfl (by kernel_rfl) (fun _ _ _ h => h) (.inl ⟨by rfl, fun wX hSw => ?_⟩) hHeld (fun HJ => ?_); rotate_left; (focus ((try dsimp only at hSw); go_simp; try with_reducible rfl)); clear HI; have HI := HJ; clear HJ; try simp only [Act.put, jjA, jjB, jjC, jjD, jjE, jjF])
         clear HI
         refine wpAnyH_ready (rs := [1]) (by kernel_rfl) (by simp) ?_
         refine AllReadyH.cons rfl (fun K hK => ?_) (AllReadyH.nil)
         go_simp
         ((go_at_call 95; (with_reducible refine (rcmd_as true q.p q.s q.k q.n q.a q.m q.c q.u q.t q.w q.h q.x q.y _ (by first | exact (HNQ.out.below HV.out (by simp)).mono HV.out.size | exact (HNQ.out.below HV.out.drew (by simp)).mono HV.out.drew.size) HM.out EQ).mono ?_); rintro e z ⟨rfl, hb⟩; have hB2 : Hk (Below (wr.heap.size + 1) (wr.alloc (.cells (jkC q.p q.s q.k q.n q.a q.m q.c q.t q.w q.h q.x q.y) 95)) z) := ⟨by first | exact kw_step HV.out hNV hb | exact kw_step HV.out.drew hNV hb⟩; clear hb; replace HV := hB2; clear hB2))
         refine hK.out _ _ ?_ (fun hHeld => ?_)
         ·exact kw_S HV.out
         clear hK K
         (try simp only [Act.put, jjA, jjB, jjC, jjD, jjE, jjF])
         have HI : Ix [2, 3, 4, 5, 6, 7, 8, 9, 10, 11, 12, 13, 14, 15, 16, 17, 18, 19, 20, 21, 22, 23, 24, 25] := trivial
         iterate 24 (refine tkA HI (v := ?_) rfl (by kernel_rfl) (fun _ _ _ h => h) (.inl ⟨by rfl, fun wX hSw => ?_⟩) hHeld (fun HJ => ?_); rotate_left; (focus ((try dsimp only at hSw); go_simp; try with_reducible rfl)); clear HI; have HI := HJ; clear HJ; try simp only [Act.put, jjA, jjB, jjC, jjD, jjE, jjF])
         clear HI
         refine wpAnyH_done (by kernel_rfl) ?_ _
         go_wp2
         have HB2 : Hk (Below (w.heap.size + 1) (w.alloc (.cells #[.int .i64 t, .int .i64 p, .slice (some ⟨b, off, none⟩) n c] 40)) _) := ⟨(HB.out.alloc (kw_size HB.out hNW) (.cells (jkC q.p q.s q.k q.n q.a q.m q.c q.t q.w q.h q.x q.y) 95)).trans (HV.out.mono (by have := kw_size HB.out hNW; simp at this ⊢; omega))⟩
         exact ⟨⟨k + 1, by go_num, HLT.out, ER2, HB2⟩, by first | exact nx_ms HLT.out | exact nx_ms' HLT.out⟩
       ·have hlb : decide (q.s ≤ la) = true := by rw [decide_eq_true_iff]; omega
        have R : Hk (false = r) := ⟨by rw [← hes, decide_eq_false hl]; rfl⟩
        clear hes hl hlt hs0 HALL
        as_aux_lemma =>
         refine wp_region_held_drew (S := (fun X => (∀ b o, b < (wr.heap.size + 1) → X.cell? ⟨b, o, none⟩ = ((wr.alloc (.cells (jkC q.p q.s q.k q.n q.a q.m q.c q.t q.w q.h q.x q.y) 95))).cell? ⟨b, o, none⟩) ∧ Below (wr.heap.size + 1) (wr.alloc (.cells (jkC q.p q.s q.k q.n q.a q.m q.c q.t q.w q.h q.x q.y) 95)) X)) (by kernel_rfl) ?_ (fun hHeld => ?_)
         ·exact kw_S (kw_drew HV.out)
         have HI : Ix [0] := trivial
         (refine tkA HI (v := ?_) rfl (by kernel_rfl) (fun _ _ _ h => h) (.inl ⟨by rfl, fun wX hSw => ?_⟩) hHeld (fun HJ => ?_); rotate_left; (focus ((try dsimp only at hSw); go_simp; try with_reducible rfl)); clear HI; have HI := HJ; clear HJ; try simp only [Act.put, jjA, jjB, jjC, jjD, jjE, jjF])
         clear HI
         refine wpAnyH_ready (rs := [1]) (by kernel_rfl) (by simp) ?_
         refine AllReadyH.cons rfl (fun K hK => ?_) (AllReadyH.nil)
         go_simp
         ((go_at_call 95; (with_reducible refine (rcmd_as true q.p q.s q.k q.n q.a q.m q.c q.u q.t q.w q.h q.x q.y _ (by first | exact (HNQ.out.below HV.out (by simp)).mono HV.out.size | exact (HNQ.out.below HV.out.drew (by simp)).mono HV.out.drew.size) HM.out EQ).mono ?_); rintro e z ⟨rfl, hb⟩; have hB2 : Hk (Below (wr.heap.size + 1) (wr.alloc (.cells (jkC q.p q.s q.k q.n q.a q.m q.c q.t q.w q.h q.x q.y) 95)) z) := ⟨by first | exact kw_step HV.out hNV hb | exact kw_step HV.out.drew hNV hb⟩; clear hb; replace HV := hB2; clear hB2))
         refine hK.out _ _ ?_ (fun hHeld => ?_)
         ·exact kw_S HV.out
         clear hK K
         (try simp only [Act.put, jjA, jjB, jjC, jjD, jjE, jjF])
         have HI : Ix [2, 3, 4, 5, 6, 7, 8, 9, 10, 11, 12, 13, 14, 15, 16, 17, 18, 19, 20, 21, 22, 23, 24, 25] := trivial
         iterate 24 (refine tkA HI (v := ?_) rfl (by kernel_rfl) (fun _ _ _ h => h) (.inl ⟨by rfl, fun wX hSw => ?_⟩) hHeld (fun HJ => ?_); rotate_left; (focus ((try dsimp only at hSw); go_simp; try with_reducible rfl)); clear HI; have HI := HJ; clear HJ; try simp only [Act.put, jjA, jjB, jjC, jjD, jjE, jjF])
         clear HI
         refine wpAnyH_done (by kernel_rfl) ?_ _
         go_wp2
         go_ret
         have HB2 : Hk (Below (w.heap.size + 1) (w.alloc (.cells #[.int .i64 t, .int .i64 p, .slice (some ⟨b, off, none⟩) n c] 40)) _) := ⟨(HB.out.alloc (kw_size HB.out hNW) (.cells (jkC q.p q.s q.k q.n q.a q.m q.c q.t q.w q.h q.x q.y) 95)).trans (HV.out.mono (by have := kw_size HB.out hNW; simp at this ⊢; omega))⟩
         exact ⟨rb R.out, HTR.out _ HB2.out⟩
     ·have hpb : (q.p != p) = true := by simp [hp]
      have R : Hk (false = r) := ⟨by rw [← hes, decide_eq_false hp]; rfl⟩
      clear hes hp hlt hs0 HALL
      as_aux_lemma =>
       refine wp_region_held_drew (S := (fun X => (∀ b o, b < (wr.heap.size + 1) → X.cell? ⟨b, o, none⟩ = ((wr.alloc (.cells (jkC q.p q.s q.k q.n q.a q.m q.c q.t q.w q.h q.x q.y) 95))).cell? ⟨b, o, none⟩) ∧ Below (wr.heap.size + 1) (wr.alloc (.cells (jkC q.p q.s q.k q.n q.a q.m q.c q.t q.w q.h q.x q.y) 95)) X)) (by kernel_rfl) ?_ (fun hHeld => ?_)
       ·exact kw_S (kw_drew HV.out)
       have HI : Ix [0] := trivial
       (refine tkA HI (v := ?_) rfl (by kernel_rfl) (fun _ _ _ h => h) (.inl ⟨by rfl, fun wX hSw => ?_⟩) hHeld (fun HJ => ?_); rotate_left; (focus ((try dsimp only at hSw); go_simp; try with_reducible rfl)); clear HI; have HI := HJ; clear HJ; try simp only [Act.put, jjA, jjB, jjC, jjD, jjE, jjF])
       clear HI
       refine wpAnyH_ready (rs := [1]) (by kernel_rfl) (by simp) ?_
       refine AllReadyH.cons rfl (fun K hK => ?_) (AllReadyH.nil)
       go_simp
       ((go_at_call 95; (with_reducible refine (rcmd_as true q.p q.s q.k q.n q.a q.m q.c q.u q.t q.w q.h q.x q.y _ (by first | exact (HNQ.out.below HV.out (by simp)).mono HV.out.size | exact (HNQ.out.below HV.out.drew (by simp)).mono HV.out.drew.size) HM.out EQ).mono ?_); rintro e z ⟨rfl, hb⟩; have hB2 : Hk (Below (wr.heap.size + 1) (wr.alloc (.cells (jkC q.p q.s q.k q.n q.a q.m q.c q.t q.w q.h q.x q.y) 95)) z) := ⟨by first | exact kw_step HV.out hNV hb | exact kw_step HV.out.drew hNV hb⟩; clear hb; replace HV := hB2; clear hB2))
       refine hK.out _ _ ?_ (fun hHeld => ?_)
       ·exact kw_S HV.out
       clear hK K
       (try simp only [Act.put, jjA, jjB, jjC, jjD, jjE, jjF])
       have HI : Ix [2, 3, 4, 5, 6, 7, 8, 9, 10] := trivial
       iterate 9 (refine tkA HI (v := ?_) rfl (by kernel_rfl) (fun _ _ _ h => h) (.inl ⟨by rfl, fun wX hSw => ?_⟩) hHeld (fun HJ => ?_); rotate_left; (focus ((try dsimp only at hSw); go_simp; try with_reducible rfl)); clear HI; have HI := HJ; clear HJ; try simp only [Act.put, jjA, jjB, jjC, jjD, jjE, jjF])
       clear HI
       have HI : Ix [11, 12, 13, 14, 15, 16, 17, 18, 19, 20, 21, 22, 23, 24] := trivial
       iterate 14 (refine tkA HI (v := undef) rfl (by kernel_rfl) (fun _ _ _ h => h) (.inr ⟨by rfl, rfl⟩) hHeld (fun HJ => ?_); clear HI; have HI := HJ; clear HJ; try simp only [Act.put, jjA, jjB, jjC, jjD, jjE, jjF])
       clear HI
       have HI : Ix [25] := trivial
       (refine tkA HI (v := ?_) rfl (by kernel_rfl) (fun _ _ _ h => h) (.inl ⟨by rfl, fun wX hSw => ?_⟩) hHeld (fun HJ => ?_); rotate_left; (focus ((try dsimp only at hSw); go_simp; try with_reducible rfl)); clear HI; have HI := HJ; clear HJ; try simp only [Act.put, jjA, jjB, jjC, jjD, jjE, jjF])
       clear HI
       refine wpAnyH_done (by kernel_rfl) ?_ _
       go_wp2
       go_ret
       have HB2 : Hk (Below (w.heap.size + 1) (w.alloc (.cells #[.int .i64 t, .int .i64 p, .slice (some ⟨b, off, none⟩) n c] 40)) _) := ⟨(HB.out.alloc (kw_size HB.out hNW) (.cells (jkC q.p q.s q.k q.n q.a q.m q.c q.t q.w q.h q.x q.y) 95)).trans (HV.out.mono (by have := kw_size HB.out hNW; simp at this ⊢; omega))⟩
       exact ⟨rb R.out, HTR.out _ HB2.out⟩
   ·obtain rfl : k = n := by omega
    have R : Hk (true = r) := ⟨by rw [← ER.out, List.drop_of_length_le (by rw [HL.out]; exact Nat.le_refl _)]; rfl⟩
    go_wp2
    go_ret
    exact ⟨rb R.out, HTR.out _ HB.out⟩
end Go.Proofs.YtdpblimhfmfbnaaGreat
