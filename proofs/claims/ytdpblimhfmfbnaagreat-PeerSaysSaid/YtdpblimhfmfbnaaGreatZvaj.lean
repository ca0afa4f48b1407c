import Derived.Deep.QuietTactic
import Derived.BigQuiet
import Derived.Deep.RegionWith
import Derived.Deep.RegionHeld3
import Derived.Deep.DeepCutAuto
import Derived.Deep.DeepFit
import Derived.Outline
import Derived.Test.YtdpblimhfmfbnaaGreatZvai
import Derived.Test.YtdpblimhfmfbnaaGreatZva
set_option linter.unusedVariables false
set_option linter.unusedSimpArgs false
namespace Go.Proofs.YtdpblimhfmfbnaaGreat
open List renaming getElem_toArray → jjA, getElem_cons_succ → jjB, getElem_cons_zero → jjC, setIfInBounds_toArray → jjD, set_cons_zero → jjE, set_cons_succ → jjF
open Go.ChangeShapes Go.WideShapes Go.ChangeAt Go.RowKit Go.Deep
theorem okN_pl {q : Iv} (h : okN q.ab = true) : 1 ≤ q.p ∧ q.p ≤ 8 ∧ 0 ≤ q.t ∧ q.t ≤ 1099511627776 := by
 unfold okN at h
 simp only [Bool.and_eq_true, decide_eq_true_eq] at h
 exact ⟨h.1.2.2.1, h.1.2.2.2.1, h.1.1, h.1.2.1⟩
set_option maxRecDepth 100000 in
set_option maxHeartbeats 3200000 in
theorem waiting_as (r : Bool) (p : Pv) (w : World) (h : PvD w w.heap.size p) (hs : PvS p) (hc : CntP p.ab) (hkn : KnP p.ab) (E : Hk (WtP p.ab ↔ r = true)) :
  Calls Tryz.prog 35 #[.agg #[.int .i64 p.i, .int .i64 p.n, .int .i64 p.d, .int .i64 p.t, .int .i64 p.s, .slice p.ma p.mn p.mc, .slice p.la p.ln p.lc, .slice p.ha p.hn p.hc, .slice p.aa p.an p.ac, .slice p.xa p.xn p.xc, .bool p.b]] w fun e w' => e = .returned (.bool r) ∧ Below w.heap.size w w' := by
 have hhn : (p.hn : Int) = p.n := by rw [← h.h.len]; exact hkn.h1
 have E2 := Hk.mk ((wt_iff p h.l.q.len).symm.trans E.out)
 have hln : p.ln ≤ 1048576 := by have := hs.l.n; rw [h.l.q.len] at this; exact this
 have HLL := Hk.mk h.l.q.len
 have HSL := Hk.mk hs.l
 have HHN := Hk.mk hhn
 have HN8 : Hk (p.n ≤ 8) := ⟨hc.n2⟩
 have HWB : Hk (Below w.heap.size w (w.alloc (.cells (jjP p) 26))) := ⟨(Below.refl _ _).alloc (Nat.le_refl _) _⟩
 have hNW : (w.heap.size + 1) ≤ (w.alloc (.cells (jjP p) 26)).heap.size := by simp
 have HB : Hk (Below (w.heap.size + 1) (w.alloc (.cells (jjP p) 26)) (w.alloc (.cells (jjP p) 26))) := ⟨Below.refl _ _⟩
 have HTR : Hk (∀ X, Below (w.heap.size + 1) (w.alloc (.cells (jjP p) 26)) X → Below w.heap.size w X) := ⟨fun X hX => HWB.out.trans (hX.mono (by omega))⟩
 have HPB : Hk (Bk (w.alloc (.cells (jjP p) 26)) w.heap.size (jjP p)) := ⟨Bk.new w (jjP p) 26⟩
 have HH : Hk (∀ X, Below (w.alloc (.cells (jjP p) 26)).heap.size (w.alloc (.cells (jjP p) 26)) X → PvD X X.heap.size p) := ⟨fun X hX => h.later (HWB.out.trans (hX.mono HWB.out.size))⟩
 clear h hs hc hkn E hhn
 go_enter Tryz.func35, Tryz.ntmps35
 go_upto_region 1 with fail
 generalize (w.alloc (.cells (jjP p) 26)) = V at *
 have HV : Hk (Below V.heap.size V V) := ⟨Below.refl _ _⟩
 have c1 : V.cell? ⟨w.heap.size, 1, none⟩ = some (.int .i64 p.n) := HPB.out.c 1
 have c3 : V.cell? ⟨w.heap.size, 3, none⟩ = some (.int .i64 p.t) := HPB.out.c 3
 have c6 : V.cell? ⟨w.heap.size, 6, none⟩ = some (.slice p.la p.ln p.lc) := HPB.out.c 6
 have c7 : V.cell? ⟨w.heap.size, 7, none⟩ = some (.slice p.ha p.hn p.hc) := HPB.out.c 7
 have hl := HPB.out.lt
 have HPC := Hk.mk (show (∀ X, Below V.heap.size V X → X.cell? ⟨w.heap.size, 1, none⟩ = some (.int .i64 p.n) ∧ X.cell? ⟨w.heap.size, 3, none⟩ = some (.int .i64 p.t) ∧ X.cell? ⟨w.heap.size, 6, none⟩ = some (.slice p.la p.ln p.lc) ∧ X.cell? ⟨w.heap.size, 7, none⟩ = some (.slice p.ha p.hn p.hc) ∧ w.heap.size < X.heap.size) from fun X hX => ⟨(hX.cell (p := ⟨w.heap.size, 1, none⟩) hl).trans c1, (hX.cell (p := ⟨w.heap.size, 3, none⟩) hl).trans c3, (hX.cell (p := ⟨w.heap.size, 6, none⟩) hl).trans c6, (hX.cell (p := ⟨w.heap.size, 7, none⟩) hl).trans c7, Nat.lt_of_lt_of_le hl hX.size⟩)
 clear HB hNW HTR HPB c1 c3 c7
 by_cases h0 : p.ln = 0
 ·have hz : ¬ ((0 : Int) < (p.ln : Int)) := by omega
  have hd : decide ((0 : Int) < (p.ln : Int)) = false := by simp; omega
  go_wp2
  go_loopw [9] (fun i wr => i = .int .i64 0 ∧ Hk (Below V.heap.size V wr)) (fun _ _ => 0)
  case atStart => exact ⟨rfl, HV⟩
  case round =>
   clear HV
   obtain ⟨rfl, HV⟩ := hrel
   go_wp2
   go_ret
   exact ⟨yes_as E2.out (fun k hk => absurd hk (by omega)), HWB.out.trans (HV.out.mono HWB.out.size)⟩
 obtain ⟨b, off, ea, hbl0, -, -⟩ := (HH.out _ HV.out).l.three (show 0 < p.ln by omega)
 rw [ea] at c6 HPC
 clear h0 hbl0
 go_wp2
 go_loopw [9] (fun i wr => ∃ k : Nat, i = .int .i64 k ∧ k ≤ p.ln ∧ Hk (∀ m, m < k → WtAt p m) ∧ Hk (Below V.heap.size V wr)) (fun i _ => p.ln - (intOf i).toNat)
 case atStart => exact ⟨0, rfl, Nat.zero_le _, ⟨fun m hm => absurd hm (by omega)⟩, HV⟩
 case round =>
  clear HV c6
  obtain ⟨k, rfl, hk, HD, HV⟩ := hrel
  by_cases hlt : k < p.ln
  ·obtain ⟨x1, x3, x6, x7, xl⟩ := HPC.out _ HV.out
   obtain ⟨b2, off2, ea2, hbl, ⟨p0, p1, p2⟩, hq⟩ := (HH.out _ HV.out).l.three hlt
   have e9 := ea.symm.trans ea2
   injection e9 with e9
   injection e9 with e91 e92
   subst e91 e92
   have hkl : k < p.ll.length := by rw [HLL.out]; exact hlt
   have HSQ := Hk.mk (HSL.out.m _ (getD_memI hkl))
   have HAT : Hk (WtAt p k ↔ WtAt p k) := ⟨Iff.rfl⟩
   have hat : WtAt p k = (okN (p.ll.getD k default).ab = true ∧ p.t ≤ (p.ll.getD k default).t ∧ (p.ll.getD k default).p ≤ p.n ∧ (p.ll.getD k default).t ≤ p.hl.getD ((p.ll.getD k default).p.toNat - 1) 0 ∧ (0 < k → ltI (p.ll.getD (k - 1) default) (p.ll.getD k default))) := rfl
   obtain ⟨q, hqq⟩ : ∃ q, p.ll.getD k default = q := ⟨_, rfl⟩
   rw [hqq] at p0 p1 p2 hq HSQ hat
   have HQQ := Hk.mk hqq
   have HATE := Hk.mk hat
   clear hqq hat HAT
   have HLT := Hk.mk hlt
   have t0 : (0 : Int) ≤ (k : Int) := by omega
   have t1 : (k : Int) < (p.ln : Int) := by omega
   have gk : IntKind.i64.wrap ((k : Int) + 1) = ((k + 1 : Nat) : Int) := by push_cast; exact wr27 (by omega) (by omega)
   clear hkl
   go_upto_region 4 with fail
   have HBQ : Hk (Bk (wr.alloc (.cells #[.int .i64 q.t, .int .i64 q.p, .slice q.a q.n q.c] 40)) wr.heap.size #[.int .i64 q.t, .int .i64 q.p, .slice q.a q.n q.c]) := ⟨Bk.new wr #[.int .i64 q.t, .int .i64 q.p, .slice q.a q.n q.c] 40⟩
   have HW4 : Hk (Below wr.heap.size wr (wr.alloc (.cells #[.int .i64 q.t, .int .i64 q.p, .slice q.a q.n q.c] 40))) := ⟨(Below.refl _ _).alloc (Nat.le_refl _) _⟩
   have HDQ : Hk (CmD (wr.alloc (.cells #[.int .i64 q.t, .int .i64 q.p, .slice q.a q.n q.c] 40)) (wr.alloc (.cells #[.int .i64 q.t, .int .i64 q.p, .slice q.a q.n q.c] 40)).heap.size q.a q.n q.l) := ⟨hq.later HW4.out⟩
   have HVW : Hk (Below V.heap.size V (wr.alloc (.cells #[.int .i64 q.t, .int .i64 q.p, .slice q.a q.n q.c] 40))) := ⟨HV.out.trans (HW4.out.mono HV.out.size)⟩
   clear hq p0 p1 p2 x1 x3 x6 x7 xl hk hlt
   generalize hPQ : wr.heap.size = PQ at *
   have hpq : PQ < (wr.alloc (.cells #[.int .i64 q.t, .int .i64 q.p, .slice q.a q.n q.c] 40)).heap.size := HBQ.out.lt
   generalize (wr.alloc (.cells #[.int .i64 q.t, .int .i64 q.p, .slice q.a q.n q.c] 40)) = W4 at *
   have HR : Hk (Below W4.heap.size W4 W4) := ⟨Below.refl _ _⟩
   have i0 : W4.cell? ⟨PQ, 0, none⟩ = some (.int .i64 q.t) := HBQ.out.c 0
   have i1 : W4.cell? ⟨PQ, 1, none⟩ = some (.int .i64 q.p) := HBQ.out.c 1
   have i2 : W4.cell? ⟨PQ, 2, none⟩ = some (.slice q.a q.n q.c) := HBQ.out.c 2
   obtain ⟨x1, x3, x6, x7, xl⟩ := HPC.out _ HVW.out
   cases hok : okN q.ab
   case false =>
    have EC : Hk ((if okN ⟨q.t, q.p, abC q.l⟩ then (0 : Int) else 1) = 1) := ⟨by show (if okN q.ab = true then (0 : Int) else 1) = 1; rw [hok]; rfl⟩
    have HO := Hk.mk hok
    clear hok
    refine wp_region_held_drew (S := (fun X => (∀ b o, b < W4.heap.size → X.cell? ⟨b, o, none⟩ = W4.cell? ⟨b, o, none⟩) ∧ Below W4.heap.size W4 X)) (by kernel_rfl) ?_ (fun hHeld => ?_)
    ·exact kw_S (kw_drew HR.out)
    have HI : Ix [0] := trivial
    (refine tkA HI (v := ?_) rfl (by kernel_rfl) (fun _ _ _ h => h) (.inl ⟨by rfl, fun wX hSw => ?_⟩) hHeld (fun HJ => ?_); rotate_left; (focus ((try dsimp only at hSw); go_simp; try with_reducible rfl)); clear HI; have HI := HJ; clear HJ; try simp only [Act.put, jjA, jjB, jjC, jjD, jjE, jjF])
    clear HI
    refine wpAnyH_ready (rs := [1]) (by kernel_rfl) (by simp) ?_
    refine AllReadyH.cons rfl (fun K hK => ?_) (AllReadyH.nil)
    go_simp
    ((go_at_call 67; (with_reducible refine (tcheck_as 1 q.t q.p q.a q.n q.c q.l _ (by first | exact (HDQ.out.below HR.out (Nat.le_refl _)).mono HR.out.size | exact (HDQ.out.below HR.out.drew (Nat.le_refl _)).mono HR.out.drew.size) HSQ.out EC).mono ?_); rintro e z ⟨rfl, hb⟩; have hB2 : Hk (Below W4.heap.size W4 z) := ⟨by first | exact kw_step HR.out (Nat.le_refl _) hb | exact kw_step HR.out.drew (Nat.le_refl _) hb⟩; clear hb; replace HR := hB2; clear hB2))
    refine hK.out _ _ ?_ (fun hHeld => ?_)
    ·exact kw_S HR.out
    clear hK K
    (try simp only [Act.put, jjA, jjB, jjC, jjD, jjE, jjF])
    have HI : Ix [2, 3] := trivial
    iterate 2 (refine tkA HI (v := ?_) rfl (by kernel_rfl) (fun _ _ _ h => h) (.inl ⟨by rfl, fun wX hSw => ?_⟩) hHeld (fun HJ => ?_); rotate_left; (focus ((try dsimp only at hSw); go_simp; try with_reducible rfl)); clear HI; have HI := HJ; clear HJ; try simp only [Act.put, jjA, jjB, jjC, jjD, jjE, jjF])
    clear HI
    have HI : Ix [4, 5, 6, 7, 8] := trivial
    iterate 5 (refine tkA HI (v := undef) rfl (by kernel_rfl) (fun _ _ _ h => h) (.inr ⟨by rfl, rfl⟩) hHeld (fun HJ => ?_); clear HI; have HI := HJ; clear HJ; try simp only [Act.put, jjA, jjB, jjC, jjD, jjE, jjF])
    clear HI
    have HI : Ix [9, 10] := trivial
    iterate 2 (refine tkA HI (v := ?_) rfl (by kernel_rfl) (fun _ _ _ h => h) (.inl ⟨by rfl, fun wX hSw => ?_⟩) hHeld (fun HJ => ?_); rotate_left; (focus ((try dsimp only at hSw); go_simp; try with_reducible rfl)); clear HI; have HI := HJ; clear HJ; try simp only [Act.put, jjA, jjB, jjC, jjD, jjE, jjF])
    clear HI
    have HI : Ix [11, 12, 13, 14, 15] := trivial
    iterate 5 (refine tkA HI (v := undef) rfl (by kernel_rfl) (fun _ _ _ h => h) (.inr ⟨by rfl, rfl⟩) hHeld (fun HJ => ?_); clear HI; have HI := HJ; clear HJ; try simp only [Act.put, jjA, jjB, jjC, jjD, jjE, jjF])
    clear HI
    have HI : Ix [16, 17] := trivial
    iterate 2 (refine tkA HI (v := ?_) rfl (by kernel_rfl) (fun _ _ _ h => h) (.inl ⟨by rfl, fun wX hSw => ?_⟩) hHeld (fun HJ => ?_); rotate_left; (focus ((try dsimp only at hSw); go_simp; try with_reducible rfl)); clear HI; have HI := HJ; clear HJ; try simp only [Act.put, jjA, jjB, jjC, jjD, jjE, jjF])
    clear HI
    have HI : Ix [18, 19, 20, 21, 22, 23, 24, 25, 26, 27] := trivial
    iterate 10 (refine tkA HI (v := undef) rfl (by kernel_rfl) (fun _ _ _ h => h) (.inr ⟨by rfl, rfl⟩) hHeld (fun HJ => ?_); clear HI; have HI := HJ; clear HJ; try simp only [Act.put, jjA, jjB, jjC, jjD, jjE, jjF])
    clear HI
    have HI : Ix [28] := trivial
    (refine tkA HI (v := ?_) rfl (by kernel_rfl) (fun _ _ _ h => h) (.inl ⟨by rfl, fun wX hSw => ?_⟩) hHeld (fun HJ => ?_); rotate_left; (focus ((try dsimp only at hSw); go_simp; try with_reducible rfl)); clear HI; have HI := HJ; clear HJ; try simp only [Act.put, jjA, jjB, jjC, jjD, jjE, jjF])
    clear HI
    refine wpAnyH_done (by kernel_rfl) ?_ _
    go_wp2
    go_ret
    exact ⟨no_as E2.out (fun g => absurd (g k HLT.out) (by rw [HATE.out]; intro h; rw [HO.out] at h; cases h.1)), (HWB.out.trans ((HVW.out.trans (HR.out.mono HVW.out.size)).mono HWB.out.size))⟩
   have EC : Hk ((if okN ⟨q.t, q.p, abC q.l⟩ then (0 : Int) else 1) = 0) := ⟨by show (if okN q.ab = true then (0 : Int) else 1) = 0; rw [hok]; rfl⟩
   have HO := Hk.mk hok
   obtain ⟨y1, y2, y3, y4⟩ := okN_pl hok
   clear hok
   obtain ⟨b1, f1⟩ : ∃ b, decide (p.n < q.p) = b := ⟨_, rfl⟩
   have HF1 := Hk.mk f1
   cases b1
   case true =>
    refine wp_region_held_drew (S := (fun X => (∀ b o, b < W4.heap.size → X.cell? ⟨b, o, none⟩ = W4.cell? ⟨b, o, none⟩) ∧ Below W4.heap.size W4 X)) (by kernel_rfl) ?_ (fun hHeld => ?_)
    ·exact kw_S (kw_drew HR.out)
    have HI : Ix [0] := trivial
    (refine tkA HI (v := ?_) rfl (by kernel_rfl) (fun _ _ _ h => h) (.inl ⟨by rfl, fun wX hSw => ?_⟩) hHeld (fun HJ => ?_); rotate_left; (focus ((try dsimp only at hSw); go_simp; try with_reducible rfl)); clear HI; have HI := HJ; clear HJ; try simp only [Act.put, jjA, jjB, jjC, jjD, jjE, jjF])
    clear HI
    refine wpAnyH_ready (rs := [1]) (by kernel_rfl) (by simp) ?_
    refine AllReadyH.cons rfl (fun K hK => ?_) (AllReadyH.nil)
    go_simp
    ((go_at_call 67; (with_reducible refine (tcheck_as 0 q.t q.p q.a q.n q.c q.l _ (by first | exact (HDQ.out.below HR.out (Nat.le_refl _)).mono HR.out.size | exact (HDQ.out.below HR.out.drew (Nat.le_refl _)).mono HR.out.drew.size) HSQ.out EC).mono ?_); rintro e z ⟨rfl, hb⟩; have hB2 : Hk (Below W4.heap.size W4 z) := ⟨by first | exact kw_step HR.out (Nat.le_refl _) hb | exact kw_step HR.out.drew (Nat.le_refl _) hb⟩; clear hb; replace HR := hB2; clear hB2))
    refine hK.out _ _ ?_ (fun hHeld => ?_)
    ·exact kw_S HR.out
    clear hK K
    (try simp only [Act.put, jjA, jjB, jjC, jjD, jjE, jjF])
    have HI : Ix [2, 3, 4, 5, 6, 7, 8, 9, 10] := trivial
    iterate 9 (refine tkA HI (v := ?_) rfl (by kernel_rfl) (fun _ _ _ h => h) (.inl ⟨by rfl, fun wX hSw => ?_⟩) hHeld (fun HJ => ?_); rotate_left; (focus ((try dsimp only at hSw); go_simp; try with_reducible rfl)); clear HI; have HI := HJ; clear HJ; try simp only [Act.put, jjA, jjB, jjC, jjD, jjE, jjF])
    clear HI
    have HI : Ix [11, 12, 13, 14, 15] := trivial
    iterate 5 (refine tkA HI (v := undef) rfl (by kernel_rfl) (fun _ _ _ h => h) (.inr ⟨by rfl, rfl⟩) hHeld (fun HJ => ?_); clear HI; have HI := HJ; clear HJ; try simp only [Act.put, jjA, jjB, jjC, jjD, jjE, jjF])
    clear HI
    have HI : Ix [16, 17] := trivial
    iterate 2 (refine tkA HI (v := ?_) rfl (by kernel_rfl) (fun _ _ _ h => h) (.inl ⟨by rfl, fun wX hSw => ?_⟩) hHeld (fun HJ => ?_); rotate_left; (focus ((try dsimp only at hSw); go_simp; try with_reducible rfl)); clear HI; have HI := HJ; clear HJ; try simp only [Act.put, jjA, jjB, jjC, jjD, jjE, jjF])
    clear HI
    have HI : Ix [18, 19, 20, 21, 22, 23, 24, 25, 26, 27] := trivial
    iterate 10 (refine tkA HI (v := undef) rfl (by kernel_rfl) (fun _ _ _ h => h) (.inr ⟨by rfl, rfl⟩) hHeld (fun HJ => ?_); clear HI; have HI := HJ; clear HJ; try simp only [Act.put, jjA, jjB, jjC, jjD, jjE, jjF])
    clear HI
    have HI : Ix [28] := trivial
    (refine tkA HI (v := ?_) rfl (by kernel_rfl) (fun _ _ _ h => h) (.inl ⟨by rfl, fun wX hSw => ?_⟩) hHeld (fun HJ => ?_); rotate_left; (focus ((try dsimp only at hSw); go_simp; try with_reducible rfl)); clear HI; have HI := HJ; clear HJ; try simp only [Act.put, jjA, jjB, jjC, jjD, jjE, jjF])
    clear HI
    refine wpAnyH_done (by kernel_rfl) ?_ _
    go_wp2
    go_ret
    exact ⟨no_as E2.out (fun g => absurd (g k HLT.out) (by rw [HATE.out]; intro h; have := of_decide_eq_true HF1.out; omega)), (HWB.out.trans ((HVW.out.trans (HR.out.mono HVW.out.size)).mono HWB.out.size))⟩
   obtain ⟨b2, f2⟩ : ∃ b, decide (q.t < p.t) = b := ⟨_, rfl⟩
   have HF2 := Hk.mk f2
   cases b2
   case true =>
    refine wp_region_held_drew (S := (fun X => (∀ b o, b < W4.heap.size → X.cell? ⟨b, o, none⟩ = W4.cell? ⟨b, o, none⟩) ∧ Below W4.heap.size W4 X)) (by kernel_rfl) ?_ (fun hHeld => ?_)
    ·exact kw_S (kw_drew HR.out)
    have HI : Ix [0] := trivial
    (refine tkA HI (v := ?_) rfl (by kernel_rfl) (fun _ _ _ h => h) (.inl ⟨by rfl, fun wX hSw => ?_⟩) hHeld (fun HJ => ?_); rotate_left; (focus ((try dsimp only at hSw); go_simp; try with_reducible rfl)); clear HI; have HI := HJ; clear HJ; try simp only [Act.put, jjA, jjB, jjC, jjD, jjE, jjF])
    clear HI
    refine wpAnyH_ready (rs := [1]) (by kernel_rfl) (by simp) ?_
    refine AllReadyH.cons rfl (fun K hK => ?_) (AllReadyH.nil)
    go_simp
    ((go_at_call 67; (with_reducible refine (tcheck_as 0 q.t q.p q.a q.n q.c q.l _ (by first | exact (HDQ.out.below HR.out (Nat.le_refl _)).mono HR.out.size | exact (HDQ.out.below HR.out.drew (Nat.le_refl _)).mono HR.out.drew.size) HSQ.out EC).mono ?_); rintro e z ⟨rfl, hb⟩; have hB2 : Hk (Below W4.heap.size W4 z) := ⟨by first | exact kw_step HR.out (Nat.le_refl _) hb | exact kw_step HR.out.drew (Nat.le_refl _) hb⟩; clear hb; replace HR := hB2; clear hB2))
    refine hK.out _ _ ?_ (fun hHeld => ?_)
    ·exact kw_S HR.out
    clear hK K
    (try simp only [Act.put, jjA, jjB, jjC, jjD, jjE, jjF])
    have HI : Ix [2, 3, 4, 5, 6, 7, 8, 9, 10, 11, 12, 13, 14, 15, 16, 17] := trivial
    iterate 16 (refine tkA HI (v := ?_) rfl (by kernel_rfl) (fun _ _ _ h => h) (.inl ⟨by rfl, fun wX hSw => ?_⟩) hHeld (fun HJ => ?_); rotate_left; (focus ((try dsimp only at hSw); go_simp; try with_reducible rfl)); clear HI; have HI := HJ; clear HJ; try simp only [Act.put, jjA, jjB, jjC, jjD, jjE, jjF])
    clear HI
    have HI : Ix [18, 19, 20, 21, 22, 23, 24, 25, 26, 27] := trivial
    iterate 10 (refine tkA HI (v := undef) rfl (by kernel_rfl) (fun _ _ _ h => h) (.inr ⟨by rfl, rfl⟩) hHeld (fun HJ => ?_); clear HI; have HI := HJ; clear HJ; try simp only [Act.put, jjA, jjB, jjC, jjD, jjE, jjF])
    clear HI
    have HI : Ix [28] := trivial
    (refine tkA HI (v := ?_) rfl (by kernel_rfl) (fun _ _ _ h => h) (.inl ⟨by rfl, fun wX hSw => ?_⟩) hHeld (fun HJ => ?_); rotate_left; (focus ((try dsimp only at hSw); go_simp; try with_reducible rfl)); clear HI; have HI := HJ; clear HJ; try simp only [Act.put, jjA, jjB, jjC, jjD, jjE, jjF])
    clear HI
    refine wpAnyH_done (by kernel_rfl) ?_ _
    go_wp2
    go_ret
    exact ⟨no_as E2.out (fun g => absurd (g k HLT.out) (by rw [HATE.out]; intro h; have := of_decide_eq_true HF2.out; omega)), (HWB.out.trans ((HVW.out.trans (HR.out.mono HVW.out.size)).mono HWB.out.size))⟩
   obtain ⟨j, hj⟩ : ∃ j : Nat, q.p = (j : Int) + 1 := ⟨(q.p - 1).toNat, by omega⟩
   have gj : IntKind.i64.wrap (q.p - 1) = (j : Int) := by rw [show q.p - 1 = (j : Int) by omega]; exact wr27 (by omega) (by omega)
   have hjn : j < p.hn := by have := of_decide_eq_false HF1.out; have := HHN.out; omega
   have hjn' : (j : Int) < (p.hn : Int) := by omega
   have j0 : (0 : Int) ≤ (j : Int) := by omega
   obtain ⟨bh, oh, eh, hbh, hch⟩ := (HH.out _ HVW.out).h.rd (by omega)
   rw [eh] at x7
   obtain ⟨u, hu⟩ : ∃ u, p.hl.getD j 0 = u := ⟨_, rfl⟩
   have d1 := hch j hjn
   rw [hu] at d1
   have HU : Hk (p.hl.getD (q.p.toNat - 1) 0 = u) := ⟨by rw [show q.p.toNat - 1 = j by omega]; exact hu⟩
   obtain ⟨b3, f3⟩ : ∃ b, decide (u < q.t) = b := ⟨_, rfl⟩
   have HF3 := Hk.mk f3
   clear hj hu hch y1 y2
   cases b3
   case true =>
    refine wp_region_held_drew (S := (fun X => (∀ b o, b < W4.heap.size → X.cell? ⟨b, o, none⟩ = W4.cell? ⟨b, o, none⟩) ∧ Below W4.heap.size W4 X)) (by kernel_rfl) ?_ (fun hHeld => ?_)
    ·exact kw_S (kw_drew HR.out)
    have HI : Ix [0] := trivial
    (refine tkA HI (v := ?_) rfl (by kernel_rfl) (fun _ _ _ h => h) (.inl ⟨by rfl, fun wX hSw => ?_⟩) hHeld (fun HJ => ?_); rotate_left; (focus ((try dsimp only at hSw); go_simp; try with_reducible rfl)); clear HI; have HI := HJ; clear HJ; try simp only [Act.put, jjA, jjB, jjC, jjD, jjE, jjF])
    clear HI
    refine wpAnyH_ready (rs := [1]) (by kernel_rfl) (by simp) ?_
    refine AllReadyH.cons rfl (fun K hK => ?_) (AllReadyH.nil)
    go_simp
    ((go_at_call 67; (with_reducible refine (tcheck_as 0 q.t q.p q.a q.n q.c q.l _ (by first | exact (HDQ.out.below HR.out (Nat.le_refl _)).mono HR.out.size | exact (HDQ.out.below HR.out.drew (Nat.le_refl _)).mono HR.out.drew.size) HSQ.out EC).mono ?_); rintro e z ⟨rfl, hb⟩; have hB2 : Hk (Below W4.heap.size W4 z) := ⟨by first | exact kw_step HR.out (Nat.le_refl _) hb | exact kw_step HR.out.drew (Nat.le_refl _) hb⟩; clear hb; replace HR := hB2; clear hB2))
    refine hK.out _ _ ?_ (fun hHeld => ?_)
    ·exact kw_S HR.out
    clear hK K
    (try simp only [Act.put, jjA, jjB, jjC, jjD, jjE, jjF])
    have HI : Ix [2, 3, 4, 5, 6, 7, 8, 9, 10, 11, 12, 13, 14, 15, 16, 17, 18, 19, 20, 21, 22, 23, 24, 25, 26, 27, 28] := trivial
    iterate 27 (refine tkA HI (v := ?_) rfl (by kernel_rfl) (fun _ _ _ h => h) (.inl ⟨by rfl, fun wX hSw => ?_⟩) hHeld (fun HJ => ?_); rotate_left; (focus ((try dsimp only at hSw); go_simp; try with_reducible rfl)); clear HI; have HI := HJ; clear HJ; try simp only [Act.put, jjA, jjB, jjC, jjD, jjE, jjF])
    clear HI
    refine wpAnyH_done (by kernel_rfl) ?_ _
    go_wp2
    go_ret
    exact ⟨no_as E2.out (fun g => absurd (g k HLT.out) (by rw [HATE.out]; intro h; have := of_decide_eq_true HF3.out; have h4 := h.2.2.2.1; rw [HU.out] at h4; omega)), (HWB.out.trans ((HVW.out.trans (HR.out.mono HVW.out.size)).mono HWB.out.size))⟩
   have HQ4 : Hk (okN q.ab = true ∧ p.t ≤ q.t ∧ q.p ≤ p.n ∧ q.t ≤ u) := ⟨HO.out, by have := of_decide_eq_false HF2.out; omega, by have := of_decide_eq_false HF1.out; omega, by have := of_decide_eq_false HF3.out; omega⟩
   refine wp_region_held_drew (S := (fun X => (∀ b o, b < W4.heap.size → X.cell? ⟨b, o, none⟩ = W4.cell? ⟨b, o, none⟩) ∧ Below W4.heap.size W4 X)) (by kernel_rfl) ?_ (fun hHeld => ?_)
   ·exact kw_S (kw_drew HR.out)
   have HI : Ix [0] := trivial
   (refine tkA HI (v := ?_) rfl (by kernel_rfl) (fun _ _ _ h => h) (.inl ⟨by rfl, fun wX hSw => ?_⟩) hHeld (fun HJ => ?_); rotate_left; (focus ((try dsimp only at hSw); go_simp; try with_reducible rfl)); clear HI; have HI := HJ; clear HJ; try simp only [Act.put, jjA, jjB, jjC, jjD, jjE, jjF])
   clear HI
   refine wpAnyH_ready (rs := [1]) (by kernel_rfl) (by simp) ?_
   refine AllReadyH.cons rfl (fun K hK => ?_) (AllReadyH.nil)
   go_simp
   ((go_at_call 67; (with_reducible refine (tcheck_as 0 q.t q.p q.a q.n q.c q.l _ (by first | exact (HDQ.out.below HR.out (Nat.le_refl _)).mono HR.out.size | exact (HDQ.out.below HR.out.drew (Nat.le_refl _)).mono HR.out.drew.size) HSQ.out EC).mono ?_); rintro e z ⟨rfl, hb⟩; have hB2 : Hk (Below W4.heap.size W4 z) := ⟨by first | exact kw_step HR.out (Nat.le_refl _) hb | exact kw_step HR.out.drew (Nat.le_refl _) hb⟩; clear hb; replace HR := hB2; clear hB2))
   refine hK.out _ _ ?_ (fun hHeld => ?_)
   ·exact kw_S HR.out
   clear hK K
   (try simp only [Act.put, jjA, jjB, jjC, jjD, jjE, jjF])
   have HI : Ix [2, 3, 4, 5, 6, 7, 8, 9, 10, 11, 12, 13, 14, 15, 16, 17, 18, 19, 20, 21, 22, 23, 24, 25, 26, 27, 28] := trivial
   iterate 27 (refine tkA HI (v := ?_) rfl (by kernel_rfl) (fun _ _ _ h => h) (.inl ⟨by rfl, fun wX hSw => ?_⟩) hHeld (fun HJ => ?_); rotate_left; (focus ((try dsimp only at hSw); go_simp; try with_reducible rfl)); clear HI; have HI := HJ; clear HJ; try simp only [Act.put, jjA, jjB, jjC, jjD, jjE, jjF])
   clear HI
   refine wpAnyH_done (by kernel_rfl) ?_ _
   clear x1 x3 x7 y3 y4
   rename World => W5
   have HVF : Hk (Below V.heap.size V W5) := ⟨HVW.out.trans (HR.out.mono HVW.out.size)⟩
   have e0 : W5.cell? ⟨PQ, 0, none⟩ = some (.int .i64 q.t) := (HR.out.cell (p := ⟨PQ, 0, none⟩) hpq).trans i0
   have e1 : W5.cell? ⟨PQ, 1, none⟩ = some (.int .i64 q.p) := (HR.out.cell (p := ⟨PQ, 1, none⟩) hpq).trans i1
   have hp5 : PQ < W5.heap.size := Nat.lt_of_lt_of_le hpq HR.out.size
   clear i0 i1 i2 d1 x6 xl gj hjn hjn' j0 hbh f1 f2 f3 hHeld HF1 HF2 HF3 HBQ HW4 HDQ
   by_cases hk0 : k = 0
   ·have f5 : ((k : Int) == 0) = true := by simp [hk0]
    have HD2 : Hk (∀ m, m < k + 1 → WtAt p m) := ⟨fun m hm => by
     obtain rfl : m = k := by omega
     rw [HATE.out, HU.out]
     exact ⟨HQ4.out.1, HQ4.out.2.1, HQ4.out.2.2.1, HQ4.out.2.2.2, fun h => absurd h (by omega)⟩⟩
    clear hk0 HVF
    go_wp2
    refine ⟨⟨_, _, _, _, _, ?_, rfl, rfl, rfl, rfl, rfl⟩, ?_⟩
    case refine_2 => first | exact nx_ms HLT.out | exact nx_ms' HLT.out
    exact ⟨k + 1, by go_num, HLT.out, HD2, ⟨HVW.out.trans (HR.out.mono HVW.out.size)⟩⟩
   ·have f5 : ((k : Int) == 0) = false := by simp; omega
    obtain ⟨j1, hj1⟩ : ∃ j1, k = j1 + 1 := ⟨k - 1, by omega⟩
    have gj1 : IntKind.i64.wrap ((k : Int) - 1) = (j1 : Int) := by rw [show (k : Int) - 1 = (j1 : Int) by omega]; exact wr27 (by omega) (by omega)
    have j10 : (0 : Int) ≤ (j1 : Int) := by omega
    have j11 : (j1 : Int) < (p.ln : Int) := by have := HLT.out; omega
    obtain ⟨b3, off3, ea3, hb3, ⟨l0, l1, l2⟩, -⟩ := (HH.out _ HVF.out).l.three (show j1 < p.ln by have := HLT.out; omega)
    obtain ⟨-, -, x6, -, xl⟩ := HPC.out _ HVF.out
    obtain ⟨ql, hql⟩ : ∃ ql, p.ll.getD j1 default = ql := ⟨_, rfl⟩
    rw [hql] at l0 l1 l2
    have e9 := ea.symm.trans ea3
    injection e9 with e9
    injection e9 with e91 e92
    subst e91 e92
    have HQL : Hk (p.ll.getD (k - 1) default = ql) := ⟨by rw [show k - 1 = j1 by omega]; exact hql⟩
    have HK0 := Hk.mk (show 0 < k by omega)
    clear hk0 hj1 hql
    go_upto_region 8 with fail
    have HB5 : Hk (Bk (W5.alloc (.cells #[.int .i64 ql.t, .int .i64 ql.p, .slice ql.a ql.n ql.c] 40)) W5.heap.size #[.int .i64 ql.t, .int .i64 ql.p, .slice ql.a ql.n ql.c]) := ⟨Bk.new W5 #[.int .i64 ql.t, .int .i64 ql.p, .slice ql.a ql.n ql.c] 40⟩
    have HW6 : Hk (Below W5.heap.size W5 (W5.alloc (.cells #[.int .i64 ql.t, .int .i64 ql.p, .slice ql.a ql.n ql.c] 40))) := ⟨(Below.refl _ _).alloc (Nat.le_refl _) _⟩
    have HV6 := Hk.mk (HVF.out.trans (HW6.out.mono HVF.out.size))
    have g0 := (HW6.out.cell (p := ⟨PQ, 0, none⟩) hp5).trans e0
    have g1 := (HW6.out.cell (p := ⟨PQ, 1, none⟩) hp5).trans e1
    clear e0 e1 l0 l1 l2 x6 xl
    generalize hPL : W5.heap.size = PL at *
    generalize (W5.alloc (.cells #[.int .i64 ql.t, .int .i64 ql.p, .slice ql.a ql.n ql.c] 40)) = W6 at *
    have m0 : W6.cell? ⟨PL, 0, none⟩ = some (.int .i64 ql.t) := HB5.out.c 0
    have m1 : W6.cell? ⟨PL, 1, none⟩ = some (.int .i64 ql.p) := HB5.out.c 1
    obtain ⟨v1, w1⟩ : ∃ b, (ql.t == q.t) = b := ⟨_, rfl⟩
    have HV1 : Hk (v1 = true ↔ ql.t = q.t) := ⟨by rw [← w1, beq_iff_eq]⟩
    go_wp2
    all_goals first
     | (go_ret; exact ⟨no_as E2.out (fun g => by
       have h4 := g k HLT.out
       rw [HATE.out] at h4
       have h5 := h4.2.2.2.2 HK0.out
       rw [HQL.out] at h5
       have h6 := HV1.out
       unfold ltI at h5
       first | omega | (have h7 := h6.1 (by assumption); omega) | (have h7 : ¬ ql.t = q.t := fun e => absurd (h6.2 e) (by first | assumption | simp_all | omega); omega)), HWB.out.trans (HV6.out.mono HWB.out.size)⟩)
     | (refine ⟨⟨_, _, _, _, _, ?_, rfl, rfl, rfl, rfl, rfl⟩, ?_⟩; rotate_left; (first | exact nx_ms HLT.out | exact nx_ms' HLT.out); have HD2 : Hk (∀ m, m < k + 1 → WtAt p m) := ⟨fun m hm => by
       by_cases e : m = k
       ·rw [e, HATE.out, HU.out, HQL.out]
        have h6 := HV1.out
        exact ⟨HQ4.out.1, HQ4.out.2.1, HQ4.out.2.2.1, HQ4.out.2.2.2, fun _ => by unfold ltI; first | omega | (have h7 := h6.1 (by assumption); omega) | (have h7 : ¬ ql.t = q.t := fun e => absurd (h6.2 e) (by first | assumption | simp_all | omega); omega)⟩
       ·exact HD.out m (by omega)⟩; first | exact ⟨k + 1, by go_num, HLT.out, HD2⟩ | exact ⟨k + 1, by go_num, HLT.out, HD2, HV6⟩)
  ·obtain rfl : k = p.ln := by omega
   go_wp2
   go_ret
   exact ⟨yes_as E2.out HD.out, HWB.out.trans (HV.out.mono HWB.out.size)⟩
end Go.Proofs.YtdpblimhfmfbnaaGreat
