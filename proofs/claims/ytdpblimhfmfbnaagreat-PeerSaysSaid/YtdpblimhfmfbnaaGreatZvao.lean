import Derived.Deep.QuietTactic
import Derived.BigQuiet
import Derived.Deep.RegionWith
import Derived.Deep.RegionHeld3
import Derived.Deep.DeepCutAuto
import Derived.Deep.DeepFit
import Derived.Outline
import Derived.Test.YtdpblimhfmfbnaaGreatZvak
import Derived.Test.YtdpblimhfmfbnaaGreatZva
set_option linter.unusedVariables false
set_option linter.unusedSimpArgs false
namespace Go.Proofs.YtdpblimhfmfbnaaGreat
open List renaming getElem_toArray → jjA, getElem_cons_succ → jjB, getElem_cons_zero → jjC, setIfInBounds_toArray → jjD, set_cons_zero → jjE, set_cons_succ → jjF
open Go.ChangeShapes Go.WideShapes Go.ChangeAt Go.RowKit Go.Deep
theorem below_eq {w z : World} (h : w = z) : Below w.heap.size w z := h ▸ Below.refl _ _
def RestP (p : Pv) : Prop := btwL (max (p.d - 1) (p.t - 1)) (min (p.t + 16) 1099511627776) p.hl = true ∧ btwL (p.d - 1) p.s p.al = true ∧ p.hl.getD (p.i.toNat - 1) 0 = p.s ∧ p.al.getD (p.i.toNat - 1) 0 = p.s ∧ (∀ k, k < p.ln → InAt p k) ∧ (p.mn : Int) = p.s - minL p.al ∧ ∀ k, k < p.mn → MnAt p k
theorem ok_iff (p : Pv) {w : World} {B : Nat} (h : PvD w B p) : OkP p.ab ↔ (1 ≤ p.n ∧ p.n ≤ 8 ∧ 1 ≤ p.i ∧ p.i ≤ p.n ∧ 1 ≤ p.d ∧ p.d ≤ 8 ∧ 0 ≤ p.t ∧ p.t ≤ 1099511627776 ∧ p.d - 1 ≤ p.s ∧ p.s ≤ p.t + p.d - 1 ∧ p.s ≤ 1099511627776 ∧ ordN none (abI p.ll) = true ∧ ordN none (abI p.ml) = true ∧ (p.hn : Int) = p.n ∧ (p.an : Int) = p.n ∧ p.xn ≤ 16 ∧ (p.xn : Int) ≤ p.t ∧ RestP p) := by
 have l1 := h.h.len
 have l2 := h.a.len
 have l3 := h.x.len
 constructor
 ·intro k
  obtain ⟨a1, a2, a3, a4, a5, a6, a7, a8, a9, a10, a11⟩ := (cnt_iff p).1 k.c
  have kn := k.k
  have e1 : (p.hl.length : Int) = p.n := kn.h1
  have e2 : (p.al.length : Int) = p.n := kn.a1
  obtain ⟨w1, w2⟩ := (wt_in p h.l.q.len).1 k.w
  obtain ⟨k1, k2, k3⟩ := (kp_in p h.m.q.len).1 k.e
  have hx : p.xn ≤ 16 := by rw [← l3]; exact k.x1
  have hx2 : (p.xn : Int) ≤ p.t := by rw [← l3]; exact k.x2
  refine ⟨a1, a2, a3, a4, a5, a6, a7, a8, a9, a10, a11, w1, k1, by omega, by omega, hx, hx2, btw_iff.2 fun j hj => ?_, btw_iff.2 fun j hj => ?_, kn.h2, kn.a2, w2, k2, k3⟩
  ·have h1 : max p.d p.t - 1 ≤ p.hl.getD j 0 ∧ p.hl.getD j 0 ≤ p.t + 16 ∧ p.hl.getD j 0 ≤ 1099511627776 ∧ _ := kn.all j hj
   have h2 := h1.1
   have h3 := h1.2.1
   have h4 := h1.2.2.1
   omega
  ·have h1 : _ ∧ _ ∧ _ ∧ p.d - 1 ≤ p.al.getD j 0 ∧ p.al.getD j 0 ≤ p.s := kn.all j (by show j < p.hl.length; omega)
   exact h1.2.2.2
 ·rintro ⟨a1, a2, a3, a4, a5, a6, a7, a8, a9, a10, a11, o1, o2, q1, q2, x1, x2, b1, b2, h2, h3, w2, k2, k3⟩
  have b1' := btw_iff.1 b1
  have b2' := btw_iff.1 b2
  refine ⟨(cnt_iff p).2 ⟨a1, a2, a3, a4, a5, a6, a7, a8, a9, a10, a11⟩, ⟨by show (p.hl.length : Int) = p.n; omega, by show (p.al.length : Int) = p.n; omega, h2, h3, fun j hj => ?_⟩, (wt_in p h.l.q.len).2 ⟨o1, w2⟩, (kp_in p h.m.q.len).2 ⟨o2, k2, k3⟩, by show p.xl.length ≤ 16; omega, by show (p.xl.length : Int) ≤ p.t; omega⟩
  have hj1 : j < p.hl.length := hj
  have c1 := b1' j hj1
  have c2 := b2' j (by omega)
  show max p.d p.t - 1 ≤ p.hl.getD j 0 ∧ p.hl.getD j 0 ≤ p.t + 16 ∧ p.hl.getD j 0 ≤ 1099511627776 ∧ p.d - 1 ≤ p.al.getD j 0 ∧ p.al.getD j 0 ≤ p.s
  omega
set_option maxRecDepth 100000 in
set_option maxHeartbeats 12800000 in
theorem rpeer_as (r : Bool) (p : Pv) (w : World) (h : PvD w w.heap.size p) (hs : PvS p) (E : Hk (OkP p.ab ↔ r = true)) :
  Calls Tryz.prog 12 #[.agg #[.int .i64 p.i, .int .i64 p.n, .int .i64 p.d, .int .i64 p.t, .int .i64 p.s, .slice p.ma p.mn p.mc, .slice p.la p.ln p.lc, .slice p.ha p.hn p.hc, .slice p.aa p.an p.ac, .slice p.xa p.xn p.xc, .bool p.b]] w fun e w' => e = .returned (.bool r) ∧ Below w.heap.size w w' := by
 have HH := Hk.mk h
 have HS := Hk.mk hs
 obtain ⟨rs, ers⟩ := bool_of (RestP p)
 obtain ⟨r1, e1⟩ : ∃ r1, ordN none (abI p.ll) = r1 := ⟨_, rfl⟩
 obtain ⟨r2, e2⟩ : ∃ r2, ordN none (abI p.ml) = r2 := ⟨_, rfl⟩
 have EE := Hk.mk ((ok_iff p h).symm.trans E.out)
 rw [e1, e2] at EE
 have O1 := Hk.mk e1
 have O2 := Hk.mk e2
 have HWB : Hk (Below w.heap.size w (w.alloc (.cells (jjP p) 26))) := ⟨(Below.refl _ _).alloc (Nat.le_refl _) _⟩
 have hNW : (w.heap.size + 1) ≤ (w.alloc (.cells (jjP p) 26)).heap.size := by simp
 have HB : Hk (Below (w.heap.size + 1) (w.alloc (.cells (jjP p) 26)) (w.alloc (.cells (jjP p) 26))) := ⟨Below.refl _ _⟩
 have HTR : Hk (∀ X, Below (w.heap.size + 1) (w.alloc (.cells (jjP p) 26)) X → Below w.heap.size w X) := ⟨fun X hX => HWB.out.trans (hX.mono (by omega))⟩
 have HPB : Hk (Bk (w.alloc (.cells (jjP p) 26)) w.heap.size (jjP p)) := ⟨Bk.new w (jjP p) 26⟩
 have HVF : Hk (∀ X, Below (w.heap.size + 1) (w.alloc (.cells (jjP p) 26)) X → X.cell? ⟨w.heap.size, 0, none⟩ = some (.int .i64 p.i) ∧ X.cell? ⟨w.heap.size, 1, none⟩ = some (.int .i64 p.n) ∧ X.cell? ⟨w.heap.size, 2, none⟩ = some (.int .i64 p.d) ∧ X.cell? ⟨w.heap.size, 3, none⟩ = some (.int .i64 p.t) ∧ X.cell? ⟨w.heap.size, 4, none⟩ = some (.int .i64 p.s) ∧ X.cell? ⟨w.heap.size, 5, none⟩ = some (.slice p.ma p.mn p.mc) ∧ X.cell? ⟨w.heap.size, 6, none⟩ = some (.slice p.la p.ln p.lc) ∧ X.cell? ⟨w.heap.size, 7, none⟩ = some (.slice p.ha p.hn p.hc) ∧ X.cell? ⟨w.heap.size, 8, none⟩ = some (.slice p.aa p.an p.ac) ∧ X.cell? ⟨w.heap.size, 9, none⟩ = some (.slice p.xa p.xn p.xc) ∧ X.cell? ⟨w.heap.size, 10, none⟩ = some (.bool p.b) ∧ w.heap.size < X.heap.size) := ⟨fun X hX => by
  have hl : w.heap.size < w.heap.size + 1 := Nat.lt_succ_self _
  have c := fun i => (hX.cell (p := ⟨w.heap.size, i, none⟩) hl).trans (HPB.out.c i)
  exact ⟨c 0, c 1, c 2, c 3, c 4, c 5, c 6, c 7, c 8, c 9, c 10, World.block_lt_of_cell? _ _ (c 0)⟩⟩
 clear h hs E e1 e2 HPB
 obtain ⟨y0, y1, y2, y3, y4, y5, y6, y7, y8, y9, y10, yl⟩ := HVF.out _ HB.out
 go_enter Tryz.func12, Tryz.ntmps12
 go_upto_region 1 with fail
 simp only [List.cons_append, List.nil_append, List.append_eq]
 by_cases ht : 0 ≤ p.t ∧ p.t ≤ 1099511627776
 case neg =>
  have HNO := Hk.mk ht
  have hd : decide (0 ≤ p.t ∧ p.t ≤ 1099511627776) = false := decide_eq_false ht
  clear ht
  as_aux_lemma =>
   go_wp2_with (go_at_call 29; (with_reducible refine (rnum22_as false p.t 1099511627776 _ ⟨decide_eq_false HNO.out⟩).mono ?_); rintro e z ⟨rfl, hz⟩; subst hz)
   all_goals first
    | (go_ret; exact ⟨no_as EE.out (fun g => by obtain ⟨a1, a2, a3, a4, a5, a6, a7, a8, a9, a10, a11, o1, o2, l1, l2, x1, x2, -⟩ := g; have hno := HNO.out; first | omega | exact absurd o1 (by decide) | exact absurd o2 (by decide)), HTR.out _ HB.out⟩)
 have ht1 := ht.1
 have ht2 := ht.2
 have HT := Hk.mk ht
 have HNO : Hk True := ⟨trivial⟩
 clear ht
 cases r1
 ·as_aux_lemma =>
   go_wp2_with (first | (go_at_call 29; (with_reducible refine (rnum22_as true p.t 1099511627776 _ ⟨decide_eq_true HT.out⟩).mono ?_); rintro e z ⟨rfl, hz⟩; subst hz) | (go_at_call 30; (with_reducible refine (rlist_as false p.la p.ln p.lc p.ll _ ((HH.out.below (HTR.out _ HB.out) (Nat.le_refl _)).mono (HTR.out _ HB.out).size).l HS.out.l O1).mono ?_); rintro e z ⟨rfl, hb⟩; have HB2 := Hk.mk (kw_step HB.out hNW hb); clear y0 y1 y2 y3 y4 y5 y6 y7 y8 y9 y10 yl; clear hb; replace HB := HB2; clear HB2; obtain ⟨y0, y1, y2, y3, y4, y5, y6, y7, y8, y9, y10, yl⟩ := HVF.out _ HB.out))
   all_goals first
    | (go_ret; exact ⟨no_as EE.out (fun g => by obtain ⟨a1, a2, a3, a4, a5, a6, a7, a8, a9, a10, a11, o1, o2, l1, l2, x1, x2, -⟩ := g; have hno := HNO.out; first | omega | exact absurd o1 (by decide) | exact absurd o2 (by decide)), HTR.out _ HB.out⟩)
 cases r2
 ·as_aux_lemma =>
   go_wp2_with (first | (go_at_call 29; (with_reducible refine (rnum22_as true p.t 1099511627776 _ ⟨decide_eq_true HT.out⟩).mono ?_); rintro e z ⟨rfl, hz⟩; subst hz) | (go_at_call 30; (with_reducible refine (rlist_as true p.la p.ln p.lc p.ll _ ((HH.out.below (HTR.out _ HB.out) (Nat.le_refl _)).mono (HTR.out _ HB.out).size).l HS.out.l O1).mono ?_); rintro e z ⟨rfl, hb⟩; have HB2 := Hk.mk (kw_step HB.out hNW hb); clear y0 y1 y2 y3 y4 y5 y6 y7 y8 y9 y10 yl; clear hb; replace HB := HB2; clear HB2; obtain ⟨y0, y1, y2, y3, y4, y5, y6, y7, y8, y9, y10, yl⟩ := HVF.out _ HB.out) | (go_at_call 30; (with_reducible refine (rlist_as false p.ma p.mn p.mc p.ml _ ((HH.out.below (HTR.out _ HB.out) (Nat.le_refl _)).mono (HTR.out _ HB.out).size).m HS.out.m O2).mono ?_); rintro e z ⟨rfl, hb⟩; have HB2 := Hk.mk (kw_step HB.out hNW hb); clear y0 y1 y2 y3 y4 y5 y6 y7 y8 y9 y10 yl; clear hb; replace HB := HB2; clear HB2; obtain ⟨y0, y1, y2, y3, y4, y5, y6, y7, y8, y9, y10, yl⟩ := HVF.out _ HB.out))
   all_goals first
    | (go_ret; exact ⟨no_as EE.out (fun g => by obtain ⟨a1, a2, a3, a4, a5, a6, a7, a8, a9, a10, a11, o1, o2, l1, l2, x1, x2, -⟩ := g; have hno := HNO.out; first | omega | exact absurd o1 (by decide) | exact absurd o2 (by decide)), HTR.out _ HB.out⟩)
 by_cases hx2 : (p.xn : Int) ≤ p.t
 case neg =>
  have f2 : decide (p.t < (p.xn : Int)) = true := by rw [decide_eq_true_iff]; omega
  have HNO := Hk.mk hx2
  as_aux_lemma =>
   go_wp2_with (first | (go_at_call 29; (with_reducible refine (rnum22_as true p.t 1099511627776 _ ⟨decide_eq_true HT.out⟩).mono ?_); rintro e z ⟨rfl, hz⟩; subst hz) | (go_at_call 30; (with_reducible refine (rlist_as true p.la p.ln p.lc p.ll _ ((HH.out.below (HTR.out _ HB.out) (Nat.le_refl _)).mono (HTR.out _ HB.out).size).l HS.out.l O1).mono ?_); rintro e z ⟨rfl, hb⟩; have HB2 := Hk.mk (kw_step HB.out hNW hb); clear y0 y1 y2 y3 y4 y5 y6 y7 y8 y9 y10 yl; clear hb; replace HB := HB2; clear HB2; obtain ⟨y0, y1, y2, y3, y4, y5, y6, y7, y8, y9, y10, yl⟩ := HVF.out _ HB.out) | (go_at_call 30; (with_reducible refine (rlist_as true p.ma p.mn p.mc p.ml _ ((HH.out.below (HTR.out _ HB.out) (Nat.le_refl _)).mono (HTR.out _ HB.out).size).m HS.out.m O2).mono ?_); rintro e z ⟨rfl, hb⟩; have HB2 := Hk.mk (kw_step HB.out hNW hb); clear y0 y1 y2 y3 y4 y5 y6 y7 y8 y9 y10 yl; clear hb; replace HB := HB2; clear HB2; obtain ⟨y0, y1, y2, y3, y4, y5, y6, y7, y8, y9, y10, yl⟩ := HVF.out _ HB.out))
   all_goals first
    | (go_ret; exact ⟨no_as EE.out (fun g => by obtain ⟨a1, a2, a3, a4, a5, a6, a7, a8, a9, a10, a11, o1, o2, l1, l2, x1, x2, -⟩ := g; have hno := HNO.out; first | omega | exact absurd o1 (by decide) | exact absurd o2 (by decide)), HTR.out _ HB.out⟩)
 have f2 : decide (p.t < (p.xn : Int)) = false := by rw [decide_eq_false_iff_not]; omega
 have HX2 := Hk.mk hx2
 go_cut [105] (fun x wx => (x = .bool true ∧ r = false ∨ x = .bool false ∧ Hk (CntP p.ab ∧ (p.hn : Int) = p.n ∧ (p.an : Int) = p.n ∧ (RestP p ↔ r = true))) ∧ Hk (Below (w.heap.size + 1) (w.alloc (.cells (jjP p) 26)) wx))
 case first =>
  as_aux_lemma =>
   go_wp2_with (first | (go_at_call 29; (with_reducible refine (rnum22_as true p.t 1099511627776 _ ⟨decide_eq_true HT.out⟩).mono ?_); rintro e z ⟨rfl, hz⟩; subst hz) | (go_at_call 30; (with_reducible refine (rlist_as true p.la p.ln p.lc p.ll _ ((HH.out.below (HTR.out _ HB.out) (Nat.le_refl _)).mono (HTR.out _ HB.out).size).l HS.out.l O1).mono ?_); rintro e z ⟨rfl, hb⟩; have HB2 := Hk.mk (kw_step HB.out hNW hb); clear y0 y1 y2 y3 y4 y5 y6 y7 y8 y9 y10 yl; clear hb; replace HB := HB2; clear HB2; obtain ⟨y0, y1, y2, y3, y4, y5, y6, y7, y8, y9, y10, yl⟩ := HVF.out _ HB.out) | (go_at_call 30; (with_reducible refine (rlist_as true p.ma p.mn p.mc p.ml _ ((HH.out.below (HTR.out _ HB.out) (Nat.le_refl _)).mono (HTR.out _ HB.out).size).m HS.out.m O2).mono ?_); rintro e z ⟨rfl, hb⟩; have HB2 := Hk.mk (kw_step HB.out hNW hb); clear y0 y1 y2 y3 y4 y5 y6 y7 y8 y9 y10 yl; clear hb; replace HB := HB2; clear HB2; obtain ⟨y0, y1, y2, y3, y4, y5, y6, y7, y8, y9, y10, yl⟩ := HVF.out _ HB.out))
   all_goals go_meet
   all_goals first
    | (case rel => exact ⟨Or.inl ⟨rfl, r_no EE.out (fun g => by obtain ⟨a1, a2, a3, a4, a5, a6, a7, a8, a9, a10, a11, o1, o2, l1, l2, x1, x2, -⟩ := g; omega)⟩, HB⟩)
    | (case rel => exact ⟨Or.inr ⟨rfl, ⟨(cnt_iff p).2 ⟨by omega, by omega, by omega, by omega, by omega, by omega, by omega, by omega, by omega, by omega, by omega⟩, by omega, by omega, ⟨fun g => EE.out.1 ⟨by omega, by omega, by omega, by omega, by omega, by omega, by omega, by omega, by omega, by omega, by omega, (by first | rfl | trivial), (by first | rfl | trivial), by omega, by omega, by omega, by omega, g⟩, fun g => (EE.out.2 g).2.2.2.2.2.2.2.2.2.2.2.2.2.2.2.2.2⟩⟩⟩, HB⟩)
 case rest =>
 clear EE f2 hx2 HX2 HNO HT ht1 ht2
 clear y0 y1 y2 y3 y4 y5 y6 y7 y8 y9 y10 yl
 clear HB
 obtain ⟨hx, HB⟩ := hcut
 rcases hx with ⟨rfl, hr⟩ | ⟨rfl, hq⟩
 ·subst hr
  go_wp2
  go_ret
  exact ⟨rfl, HTR.out _ HB.out⟩
 obtain ⟨hc, hhn, han, her⟩ := hq.out
 have HC := Hk.mk hc
 have HER := Hk.mk her
 have hi1 : 1 ≤ p.i := hc.i1
 have hi2 : p.i ≤ p.n := hc.i2
 have hn2 : p.n ≤ 8 := hc.n2
 have hb1 : 1 ≤ p.d := hc.d1
 have hb2 : p.d ≤ 8 := hc.d2
 have hb3 : 0 ≤ p.t := hc.t1
 have hb4 : p.t ≤ 1099511627776 := hc.t2
 have hb5 : p.d - 1 ≤ p.s := hc.s1
 have hb6 : p.s ≤ 1099511627776 := hc.s3
 clear hc her hq
 obtain ⟨j, hj⟩ : ∃ j : Nat, p.i = (j : Int) + 1 := ⟨(p.i - 1).toNat, by omega⟩
 have gj : IntKind.i64.wrap (p.i - 1) = (j : Int) := by rw [show p.i - 1 = (j : Int) by omega]; exact wr27 (by omega) (by omega)
 have hjt : p.i.toNat - 1 = j := by omega
 have HJT := Hk.mk hjt
 have jn : j < p.hn := by omega
 have jm : j < p.an := by omega
 have jn' : (j : Int) < (p.hn : Int) := by omega
 have jm' : (j : Int) < (p.an : Int) := by omega
 have j0 : (0 : Int) ≤ (j : Int) := by omega
 have gd : IntKind.i64.wrap (p.d - 1) = p.d - 1 := wr27 (by omega) (by omega)
 have gt : IntKind.i64.wrap (p.t - 1) = p.t - 1 := wr27 (by omega) (by omega)
 obtain ⟨lo, hlo⟩ : ∃ lo, max (p.d - 1) (p.t - 1) = lo := ⟨_, rfl⟩
 obtain ⟨mo, hmo⟩ : ∃ mo, min (p.t + 16) 1099511627776 = mo := ⟨_, rfl⟩
 obtain ⟨rb1, hrb1⟩ : ∃ b, btwL lo mo p.hl = b := ⟨_, rfl⟩
 obtain ⟨rb2, hrb2⟩ : ∃ b, btwL (p.d - 1) p.s p.al = b := ⟨_, rfl⟩
 have EB1 := Hk.mk hrb1
 have EB2 := Hk.mk hrb2
 obtain ⟨x, hx⟩ : ∃ x, p.hl.getD j 0 = x := ⟨_, rfl⟩
 obtain ⟨y, hy⟩ : ∃ y, p.al.getD j 0 = y := ⟨_, rfl⟩
 have HRP : Hk (RestP p ↔ (rb1 = true ∧ rb2 = true ∧ x = p.s ∧ y = p.s ∧ (∀ k, k < p.ln → InAt p k) ∧ (p.mn : Int) = p.s - minL p.al ∧ ∀ k, k < p.mn → MnAt p k)) := ⟨by unfold RestP; rw [hlo, hmo, hrb1, hrb2, hjt, hx, hy]⟩
 have HXX := Hk.mk hx
 have HYY := Hk.mk hy
 have hhn' : p.hn ≤ 1099511627776 := by omega
 have han' : p.an ≤ 1099511627776 := by omega
 have HNN := Hk.mk (And.intro hhn han)
 clear hj hjt hrb1 hrb2 hhn han hi1 hi2
 obtain ⟨y0, y1, y2, y3, y4, y5, y6, y7, y8, y9, y10, yl⟩ := HVF.out _ HB.out
 go_upto_region 4 with fail
 generalize wc = WA at *
 have HNH : Hk (∀ X, Below WA.heap.size WA X → PvD X X.heap.size p) := ⟨fun X hX => HH.out.later ((HTR.out _ HB.out).trans (hX.mono (HTR.out _ HB.out).size))⟩
 have HWC := Hk.mk (HTR.out _ HB.out)
 have HV : Hk (Below WA.heap.size WA WA) := ⟨Below.refl _ _⟩
 obtain ⟨bh, oh, eh, hbh, hch⟩ := (HNH.out _ HV.out).h.rd (by omega)
 obtain ⟨ba, oa, eaa, hba, hca⟩ := (HNH.out _ HV.out).a.rd (by omega)
 have d1 := hch j jn
 have d2 := hca j jm
 rw [hx] at d1
 rw [hy] at d2
 have HEH := Hk.mk eh
 have HEA := Hk.mk eaa
 rw [eh] at y7
 rw [eaa] at y8
 rw [eh, eaa]
 have HPC : Hk (∀ X, Below WA.heap.size WA X → X.cell? ⟨w.heap.size, 0, none⟩ = some (.int .i64 p.i) ∧ X.cell? ⟨w.heap.size, 1, none⟩ = some (.int .i64 p.n) ∧ X.cell? ⟨w.heap.size, 3, none⟩ = some (.int .i64 p.t) ∧ X.cell? ⟨w.heap.size, 4, none⟩ = some (.int .i64 p.s) ∧ X.cell? ⟨w.heap.size, 5, none⟩ = some (.slice p.ma p.mn p.mc) ∧ X.cell? ⟨w.heap.size, 6, none⟩ = some (.slice p.la p.ln p.lc) ∧ X.cell? ⟨w.heap.size, 7, none⟩ = some (.slice (some ⟨bh, oh, none⟩) p.hn p.hc) ∧ X.cell? ⟨w.heap.size, 8, none⟩ = some (.slice (some ⟨ba, oa, none⟩) p.an p.ac) ∧ w.heap.size < X.heap.size) := ⟨fun X hX => ⟨(hX.cell (p := ⟨w.heap.size, 0, none⟩) yl).trans y0, (hX.cell (p := ⟨w.heap.size, 1, none⟩) yl).trans y1, (hX.cell (p := ⟨w.heap.size, 3, none⟩) yl).trans y3, (hX.cell (p := ⟨w.heap.size, 4, none⟩) yl).trans y4, (hX.cell (p := ⟨w.heap.size, 5, none⟩) yl).trans y5, (hX.cell (p := ⟨w.heap.size, 6, none⟩) yl).trans y6, (hX.cell (p := ⟨w.heap.size, 7, none⟩) yl).trans y7, (hX.cell (p := ⟨w.heap.size, 8, none⟩) yl).trans y8, Nat.lt_of_lt_of_le yl hX.size⟩⟩
 have HCH := Hk.mk hch
 have HMX : Hk (∀ z, 1 ≤ z → z ≤ 8 → ∃ jj : Nat, z = (jj : Int) + 1) := ⟨fun z h1 h2 => ⟨(z - 1).toNat, by omega⟩⟩
 clear hch hca eh eaa hx hy HB HVF HTR hNW HWB
 obtain ⟨rr, hrr⟩ := bool_of (¬ (rb1 = true ∧ rb2 = true ∧ x = p.s ∧ y = p.s))
 have HRR := Hk.mk hrr
 clear hrr
 go_cut [156] (fun u wx => u = .bool rr ∧ Hk (Below WA.heap.size WA wx))
 case first =>
  cases rb1
  case false =>
   obtain rfl : rr = true := HRR.out.1 (fun g => by cases g.1)
   as_aux_lemma =>
    refine wp_region_held_drew (S := (fun X => (∀ b o, b < WA.heap.size → X.cell? ⟨b, o, none⟩ = WA.cell? ⟨b, o, none⟩) ∧ Below WA.heap.size WA X)) (by kernel_rfl) ?_ (fun hHeld => ?_)
    ·exact kw_S (kw_drew HV.out)
    have HI : Ix [0, 1, 2, 3, 4, 5, 6, 7, 8, 9] := trivial
    iterate 10 (refine tkA HI (v := ?_) rfl (by kernel_rfl) (fun _ _ _ h => h) (.inl ⟨by rfl, fun wX hSw => ?_⟩) hHeld (fun HJ => ?_); rotate_left; (focus ((try dsimp only at hSw); go_simp; try with_reducible rfl)); clear HI; have HI := HJ; clear HJ; try simp only [Act.put, jjA, jjB, jjC, jjD, jjE, jjF])
    clear HI
    refine wpAnyH_ready (rs := [10]) (by kernel_rfl) (by simp) ?_
    refine AllReadyH.cons rfl (fun K hK => ?_) (AllReadyH.nil)
    go_simp
    (first | (go_at_call 31; (with_reducible refine (between_as false lo mo (some ⟨bh, oh, none⟩) p.hn p.hc p.hl _ (by rw [← HEH.out]; first | exact (HNH.out _ HV.out).h | exact (HNH.out _ HV.out.drew).h) hhn' EB1).mono ?_); rintro e z ⟨rfl, hz⟩; have hb := below_eq hz; clear hz; have hB2 : Hk (Below WA.heap.size WA z) := ⟨by first | exact kw_step HV.out (Nat.le_refl _) hb | exact kw_step HV.out.drew (Nat.le_refl _) hb⟩; clear hb; replace HV := hB2; clear hB2) | (go_at_call 31; (with_reducible refine (between_as rb2 (p.d - 1) p.s (some ⟨ba, oa, none⟩) p.an p.ac p.al _ (by rw [← HEA.out]; first | exact (HNH.out _ HV.out).a | exact (HNH.out _ HV.out.drew).a) han' EB2).mono ?_); rintro e z ⟨rfl, hz⟩; have hb := below_eq hz; clear hz; have hB2 : Hk (Below WA.heap.size WA z) := ⟨by first | exact kw_step HV.out (Nat.le_refl _) hb | exact kw_step HV.out.drew (Nat.le_refl _) hb⟩; clear hb; replace HV := hB2; clear hB2))
    refine hK.out _ _ ?_ (fun hHeld => ?_)
    ·exact kw_S HV.out
    clear hK K
    (try simp only [Act.put, jjA, jjB, jjC, jjD, jjE, jjF])
    have HI : Ix [11, 12] := trivial
    iterate 2 (refine tkA HI (v := ?_) rfl (by kernel_rfl) (fun _ _ _ h => h) (.inl ⟨by rfl, fun wX hSw => ?_⟩) hHeld (fun HJ => ?_); rotate_left; (focus ((try dsimp only at hSw); go_simp; try with_reducible rfl)); clear HI; have HI := HJ; clear HJ; try simp only [Act.put, jjA, jjB, jjC, jjD, jjE, jjF])
    clear HI
    have HI : Ix [13, 14, 15, 16, 17, 18, 19, 20, 21] := trivial
    iterate 9 (refine tkA HI (v := undef) rfl (by kernel_rfl) (fun _ _ _ h => h) (.inr ⟨by rfl, rfl⟩) hHeld (fun HJ => ?_); clear HI; have HI := HJ; clear HJ; try simp only [Act.put, jjA, jjB, jjC, jjD, jjE, jjF])
    clear HI
    have HI : Ix [22, 23] := trivial
    iterate 2 (refine tkA HI (v := ?_) rfl (by kernel_rfl) (fun _ _ _ h => h) (.inl ⟨by rfl, fun wX hSw => ?_⟩) hHeld (fun HJ => ?_); rotate_left; (focus ((try dsimp only at hSw); go_simp; try with_reducible rfl)); clear HI; have HI := HJ; clear HJ; try simp only [Act.put, jjA, jjB, jjC, jjD, jjE, jjF])
    clear HI
    have HI : Ix [24, 25, 26, 27, 28, 29, 30, 31, 32, 33] := trivial
    iterate 10 (refine tkA HI (v := undef) rfl (by kernel_rfl) (fun _ _ _ h => h) (.inr ⟨by rfl, rfl⟩) hHeld (fun HJ => ?_); clear HI; have HI := HJ; clear HJ; try simp only [Act.put, jjA, jjB, jjC, jjD, jjE, jjF])
    clear HI
    have HI : Ix [34, 35] := trivial
    iterate 2 (refine tkA HI (v := ?_) rfl (by kernel_rfl) (fun _ _ _ h => h) (.inl ⟨by rfl, fun wX hSw => ?_⟩) hHeld (fun HJ => ?_); rotate_left; (focus ((try dsimp only at hSw); go_simp; try with_reducible rfl)); clear HI; have HI := HJ; clear HJ; try simp only [Act.put, jjA, jjB, jjC, jjD, jjE, jjF])
    clear HI
    have HI : Ix [36, 37, 38, 39, 40, 41, 42, 43, 44, 45] := trivial
    iterate 10 (refine tkA HI (v := undef) rfl (by kernel_rfl) (fun _ _ _ h => h) (.inr ⟨by rfl, rfl⟩) hHeld (fun HJ => ?_); clear HI; have HI := HJ; clear HJ; try simp only [Act.put, jjA, jjB, jjC, jjD, jjE, jjF])
    clear HI
    have HI : Ix [46] := trivial
    (refine tkA HI (v := ?_) rfl (by kernel_rfl) (fun _ _ _ h => h) (.inl ⟨by rfl, fun wX hSw => ?_⟩) hHeld (fun HJ => ?_); rotate_left; (focus ((try dsimp only at hSw); go_simp; try with_reducible rfl)); clear HI; have HI := HJ; clear HJ; try simp only [Act.put, jjA, jjB, jjC, jjD, jjE, jjF])
    clear HI
    refine wpAnyH_done (by kernel_rfl) ?_ _
    go_wp2
    go_meet
    case rel => exact ⟨rfl, by first | exact HV | exact ⟨HV.out.drew⟩⟩
  cases rb2
  case false =>
   obtain rfl : rr = true := HRR.out.1 (fun g => by cases g.2.1)
   as_aux_lemma =>
    refine wp_region_held_drew (S := (fun X => (∀ b o, b < WA.heap.size → X.cell? ⟨b, o, none⟩ = WA.cell? ⟨b, o, none⟩) ∧ Below WA.heap.size WA X)) (by kernel_rfl) ?_ (fun hHeld => ?_)
    ·exact kw_S (kw_drew HV.out)
    have HI : Ix [0, 1, 2, 3, 4, 5, 6, 7, 8, 9] := trivial
    iterate 10 (refine tkA HI (v := ?_) rfl (by kernel_rfl) (fun _ _ _ h => h) (.inl ⟨by rfl, fun wX hSw => ?_⟩) hHeld (fun HJ => ?_); rotate_left; (focus ((try dsimp only at hSw); go_simp; try with_reducible rfl)); clear HI; have HI := HJ; clear HJ; try simp only [Act.put, jjA, jjB, jjC, jjD, jjE, jjF])
    clear HI
    refine wpAnyH_ready (rs := [10]) (by kernel_rfl) (by simp) ?_
    refine AllReadyH.cons rfl (fun K hK => ?_) (AllReadyH.nil)
    go_simp
    (first | (go_at_call 31; (with_reducible refine (between_as true lo mo (some ⟨bh, oh, none⟩) p.hn p.hc p.hl _ (by rw [← HEH.out]; first | exact (HNH.out _ HV.out).h | exact (HNH.out _ HV.out.drew).h) hhn' EB1).mono ?_); rintro e z ⟨rfl, hz⟩; have hb := below_eq hz; clear hz; have hB2 : Hk (Below WA.heap.size WA z) := ⟨by first | exact kw_step HV.out (Nat.le_refl _) hb | exact kw_step HV.out.drew (Nat.le_refl _) hb⟩; clear hb; replace HV := hB2; clear hB2) | (go_at_call 31; (with_reducible refine (between_as false (p.d - 1) p.s (some ⟨ba, oa, none⟩) p.an p.ac p.al _ (by rw [← HEA.out]; first | exact (HNH.out _ HV.out).a | exact (HNH.out _ HV.out.drew).a) han' EB2).mono ?_); rintro e z ⟨rfl, hz⟩; have hb := below_eq hz; clear hz; have hB2 : Hk (Below WA.heap.size WA z) := ⟨by first | exact kw_step HV.out (Nat.le_refl _) hb | exact kw_step HV.out.drew (Nat.le_refl _) hb⟩; clear hb; replace HV := hB2; clear hB2))
    refine hK.out _ _ ?_ (fun hHeld => ?_)
    ·exact kw_S HV.out
    clear hK K
    (try simp only [Act.put, jjA, jjB, jjC, jjD, jjE, jjF])
    have HI : Ix [11, 12, 13, 14, 15, 16, 17, 18, 19] := trivial
    iterate 9 (refine tkA HI (v := ?_) rfl (by kernel_rfl) (fun _ _ _ h => h) (.inl ⟨by rfl, fun wX hSw => ?_⟩) hHeld (fun HJ => ?_); rotate_left; (focus ((try dsimp only at hSw); go_simp; try with_reducible rfl)); clear HI; have HI := HJ; clear HJ; try simp only [Act.put, jjA, jjB, jjC, jjD, jjE, jjF])
    clear HI
    refine wpAnyH_ready (rs := [20]) (by kernel_rfl) (by simp) ?_
    refine AllReadyH.cons rfl (fun K hK => ?_) (AllReadyH.nil)
    go_simp
    (first | (go_at_call 31; (with_reducible refine (between_as true lo mo (some ⟨bh, oh, none⟩) p.hn p.hc p.hl _ (by rw [← HEH.out]; first | exact (HNH.out _ HV.out).h | exact (HNH.out _ HV.out.drew).h) hhn' EB1).mono ?_); rintro e z ⟨rfl, hz⟩; have hb := below_eq hz; clear hz; have hB2 : Hk (Below WA.heap.size WA z) := ⟨by first | exact kw_step HV.out (Nat.le_refl _) hb | exact kw_step HV.out.drew (Nat.le_refl _) hb⟩; clear hb; replace HV := hB2; clear hB2) | (go_at_call 31; (with_reducible refine (between_as false (p.d - 1) p.s (some ⟨ba, oa, none⟩) p.an p.ac p.al _ (by rw [← HEA.out]; first | exact (HNH.out _ HV.out).a | exact (HNH.out _ HV.out.drew).a) han' EB2).mono ?_); rintro e z ⟨rfl, hz⟩; have hb := below_eq hz; clear hz; have hB2 : Hk (Below WA.heap.size WA z) := ⟨by first | exact kw_step HV.out (Nat.le_refl _) hb | exact kw_step HV.out.drew (Nat.le_refl _) hb⟩; clear hb; replace HV := hB2; clear hB2))
    refine hK.out _ _ ?_ (fun hHeld => ?_)
    ·exact kw_S HV.out
    clear hK K
    (try simp only [Act.put, jjA, jjB, jjC, jjD, jjE, jjF])
    have HI : Ix [21, 22, 23] := trivial
    iterate 3 (refine tkA HI (v := ?_) rfl (by kernel_rfl) (fun _ _ _ h => h) (.inl ⟨by rfl, fun wX hSw => ?_⟩) hHeld (fun HJ => ?_); rotate_left; (focus ((try dsimp only at hSw); go_simp; try with_reducible rfl)); clear HI; have HI := HJ; clear HJ; try simp only [Act.put, jjA, jjB, jjC, jjD, jjE, jjF])
    clear HI
    have HI : Ix [24, 25, 26, 27, 28, 29, 30, 31, 32, 33] := trivial
    iterate 10 (refine tkA HI (v := undef) rfl (by kernel_rfl) (fun _ _ _ h => h) (.inr ⟨by rfl, rfl⟩) hHeld (fun HJ => ?_); clear HI; have HI := HJ; clear HJ; try simp only [Act.put, jjA, jjB, jjC, jjD, jjE, jjF])
    clear HI
    have HI : Ix [34, 35] := trivial
    iterate 2 (refine tkA HI (v := ?_) rfl (by kernel_rfl) (fun _ _ _ h => h) (.inl ⟨by rfl, fun wX hSw => ?_⟩) hHeld (fun HJ => ?_); rotate_left; (focus ((try dsimp only at hSw); go_simp; try with_reducible rfl)); clear HI; have HI := HJ; clear HJ; try simp only [Act.put, jjA, jjB, jjC, jjD, jjE, jjF])
    clear HI
    have HI : Ix [36, 37, 38, 39, 40, 41, 42, 43, 44, 45] := trivial
    iterate 10 (refine tkA HI (v := undef) rfl (by kernel_rfl) (fun _ _ _ h => h) (.inr ⟨by rfl, rfl⟩) hHeld (fun HJ => ?_); clear HI; have HI := HJ; clear HJ; try simp only [Act.put, jjA, jjB, jjC, jjD, jjE, jjF])
    clear HI
    have HI : Ix [46] := trivial
    (refine tkA HI (v := ?_) rfl (by kernel_rfl) (fun _ _ _ h => h) (.inl ⟨by rfl, fun wX hSw => ?_⟩) hHeld (fun HJ => ?_); rotate_left; (focus ((try dsimp only at hSw); go_simp; try with_reducible rfl)); clear HI; have HI := HJ; clear HJ; try simp only [Act.put, jjA, jjB, jjC, jjD, jjE, jjF])
    clear HI
    refine wpAnyH_done (by kernel_rfl) ?_ _
    go_wp2
    go_meet
    case rel => exact ⟨rfl, by first | exact HV | exact ⟨HV.out.drew⟩⟩
  by_cases q3 : x = p.s
  case neg =>
   have f3 : (x != p.s) = true := by simpa using q3
   obtain rfl : rr = true := HRR.out.1 (fun g => q3 g.2.2.1)
   clear q3
   as_aux_lemma =>
    refine wp_region_held_drew (S := (fun X => (∀ b o, b < WA.heap.size → X.cell? ⟨b, o, none⟩ = WA.cell? ⟨b, o, none⟩) ∧ Below WA.heap.size WA X)) (by kernel_rfl) ?_ (fun hHeld => ?_)
    ·exact kw_S (kw_drew HV.out)
    have HI : Ix [0, 1, 2, 3, 4, 5, 6, 7, 8, 9] := trivial
    iterate 10 (refine tkA HI (v := ?_) rfl (by kernel_rfl) (fun _ _ _ h => h) (.inl ⟨by rfl, fun wX hSw => ?_⟩) hHeld (fun HJ => ?_); rotate_left; (focus ((try dsimp only at hSw); go_simp; try with_reducible rfl)); clear HI; have HI := HJ; clear HJ; try simp only [Act.put, jjA, jjB, jjC, jjD, jjE, jjF])
    clear HI
    refine wpAnyH_ready (rs := [10]) (by kernel_rfl) (by simp) ?_
    refine AllReadyH.cons rfl (fun K hK => ?_) (AllReadyH.nil)
    go_simp
    (first | (go_at_call 31; (with_reducible refine (between_as true lo mo (some ⟨bh, oh, none⟩) p.hn p.hc p.hl _ (by rw [← HEH.out]; first | exact (HNH.out _ HV.out).h | exact (HNH.out _ HV.out.drew).h) hhn' EB1).mono ?_); rintro e z ⟨rfl, hz⟩; have hb := below_eq hz; clear hz; have hB2 : Hk (Below WA.heap.size WA z) := ⟨by first | exact kw_step HV.out (Nat.le_refl _) hb | exact kw_step HV.out.drew (Nat.le_refl _) hb⟩; clear hb; replace HV := hB2; clear hB2) | (go_at_call 31; (with_reducible refine (between_as true (p.d - 1) p.s (some ⟨ba, oa, none⟩) p.an p.ac p.al _ (by rw [← HEA.out]; first | exact (HNH.out _ HV.out).a | exact (HNH.out _ HV.out.drew).a) han' EB2).mono ?_); rintro e z ⟨rfl, hz⟩; have hb := below_eq hz; clear hz; have hB2 : Hk (Below WA.heap.size WA z) := ⟨by first | exact kw_step HV.out (Nat.le_refl _) hb | exact kw_step HV.out.drew (Nat.le_refl _) hb⟩; clear hb; replace HV := hB2; clear hB2))
    refine hK.out _ _ ?_ (fun hHeld => ?_)
    ·exact kw_S HV.out
    clear hK K
    (try simp only [Act.put, jjA, jjB, jjC, jjD, jjE, jjF])
    have HI : Ix [11, 12, 13, 14, 15, 16, 17, 18, 19] := trivial
    iterate 9 (refine tkA HI (v := ?_) rfl (by kernel_rfl) (fun _ _ _ h => h) (.inl ⟨by rfl, fun wX hSw => ?_⟩) hHeld (fun HJ => ?_); rotate_left; (focus ((try dsimp only at hSw); go_simp; try with_reducible rfl)); clear HI; have HI := HJ; clear HJ; try simp only [Act.put, jjA, jjB, jjC, jjD, jjE, jjF])
    clear HI
    refine wpAnyH_ready (rs := [20]) (by kernel_rfl) (by simp) ?_
    refine AllReadyH.cons rfl (fun K hK => ?_) (AllReadyH.nil)
    go_simp
    (first | (go_at_call 31; (with_reducible refine (between_as true lo mo (some ⟨bh, oh, none⟩) p.hn p.hc p.hl _ (by rw [← HEH.out]; first | exact (HNH.out _ HV.out).h | exact (HNH.out _ HV.out.drew).h) hhn' EB1).mono ?_); rintro e z ⟨rfl, hz⟩; have hb := below_eq hz; clear hz; have hB2 : Hk (Below WA.heap.size WA z) := ⟨by first | exact kw_step HV.out (Nat.le_refl _) hb | exact kw_step HV.out.drew (Nat.le_refl _) hb⟩; clear hb; replace HV := hB2; clear hB2) | (go_at_call 31; (with_reducible refine (between_as true (p.d - 1) p.s (some ⟨ba, oa, none⟩) p.an p.ac p.al _ (by rw [← HEA.out]; first | exact (HNH.out _ HV.out).a | exact (HNH.out _ HV.out.drew).a) han' EB2).mono ?_); rintro e z ⟨rfl, hz⟩; have hb := below_eq hz; clear hz; have hB2 : Hk (Below WA.heap.size WA z) := ⟨by first | exact kw_step HV.out (Nat.le_refl _) hb | exact kw_step HV.out.drew (Nat.le_refl _) hb⟩; clear hb; replace HV := hB2; clear hB2))
    refine hK.out _ _ ?_ (fun hHeld => ?_)
    ·exact kw_S HV.out
    clear hK K
    (try simp only [Act.put, jjA, jjB, jjC, jjD, jjE, jjF])
    have HI : Ix [21, 22, 23, 24, 25, 26, 27, 28, 29, 30, 31, 32, 33, 34, 35] := trivial
    iterate 15 (refine tkA HI (v := ?_) rfl (by kernel_rfl) (fun _ _ _ h => h) (.inl ⟨by rfl, fun wX hSw => ?_⟩) hHeld (fun HJ => ?_); rotate_left; (focus ((try dsimp only at hSw); go_simp; try with_reducible rfl)); clear HI; have HI := HJ; clear HJ; try simp only [Act.put, jjA, jjB, jjC, jjD, jjE, jjF])
    clear HI
    have HI : Ix [36, 37, 38, 39, 40, 41, 42, 43, 44, 45] := trivial
    iterate 10 (refine tkA HI (v := undef) rfl (by kernel_rfl) (fun _ _ _ h => h) (.inr ⟨by rfl, rfl⟩) hHeld (fun HJ => ?_); clear HI; have HI := HJ; clear HJ; try simp only [Act.put, jjA, jjB, jjC, jjD, jjE, jjF])
    clear HI
    have HI : Ix [46] := trivial
    (refine tkA HI (v := ?_) rfl (by kernel_rfl) (fun _ _ _ h => h) (.inl ⟨by rfl, fun wX hSw => ?_⟩) hHeld (fun HJ => ?_); rotate_left; (focus ((try dsimp only at hSw); go_simp; try with_reducible rfl)); clear HI; have HI := HJ; clear HJ; try simp only [Act.put, jjA, jjB, jjC, jjD, jjE, jjF])
    clear HI
    refine wpAnyH_done (by kernel_rfl) ?_ _
    go_wp2
    go_meet
    case rel => exact ⟨rfl, by first | exact HV | exact ⟨HV.out.drew⟩⟩
  have f3 : (x != p.s) = false := by simpa using q3
  have f4 : (y != p.s) = rr := by
   cases rr
   ·by_cases q4 : y = p.s
    ·simpa using q4
    ·have := HRR.out.1 (fun g => q4 g.2.2.2); cases this
   ·have h1 := HRR.out.2 (by first | rfl | trivial)
    have : ¬ y = p.s := fun q4 => h1 ⟨rfl, rfl, q3, q4⟩
    simpa using this
  clear q3
  as_aux_lemma =>
   refine wp_region_held_drew (S := (fun X => (∀ b o, b < WA.heap.size → X.cell? ⟨b, o, none⟩ = WA.cell? ⟨b, o, none⟩) ∧ Below WA.heap.size WA X)) (by kernel_rfl) ?_ (fun hHeld => ?_)
   ·exact kw_S (kw_drew HV.out)
   have HI : Ix [0, 1, 2, 3, 4, 5, 6, 7, 8, 9] := trivial
   iterate 10 (refine tkA HI (v := ?_) rfl (by kernel_rfl) (fun _ _ _ h => h) (.inl ⟨by rfl, fun wX hSw => ?_⟩) hHeld (fun HJ => ?_); rotate_left; (focus ((try dsimp only at hSw); go_simp; try with_reducible rfl)); clear HI; have HI := HJ; clear HJ; try simp only [Act.put, jjA, jjB, jjC, jjD, jjE, jjF])
   clear HI
   refine wpAnyH_ready (rs := [10]) (by kernel_rfl) (by simp) ?_
   refine AllReadyH.cons rfl (fun K hK => ?_) (AllReadyH.nil)
   go_simp
   (first | (go_at_call 31; (with_reducible refine (between_as true lo mo (some ⟨bh, oh, none⟩) p.hn p.hc p.hl _ (by rw [← HEH.out]; first | exact (HNH.out _ HV.out).h | exact (HNH.out _ HV.out.drew).h) hhn' EB1).mono ?_); rintro e z ⟨rfl, hz⟩; have hb := below_eq hz; clear hz; have hB2 : Hk (Below WA.heap.size WA z) := ⟨by first | exact kw_step HV.out (Nat.le_refl _) hb | exact kw_step HV.out.drew (Nat.le_refl _) hb⟩; clear hb; replace HV := hB2; clear hB2) | (go_at_call 31; (with_reducible refine (between_as true (p.d - 1) p.s (some ⟨ba, oa, none⟩) p.an p.ac p.al _ (by rw [← HEA.out]; first | exact (HNH.out _ HV.out).a | exact (HNH.out _ HV.out.drew).a) han' EB2).mono ?_); rintro e z ⟨rfl, hz⟩; have hb := below_eq hz; clear hz; have hB2 : Hk (Below WA.heap.size WA z) := ⟨by first | exact kw_step HV.out (Nat.le_refl _) hb | exact kw_step HV.out.drew (Nat.le_refl _) hb⟩; clear hb; replace HV := hB2; clear hB2))
   refine hK.out _ _ ?_ (fun hHeld => ?_)
   ·exact kw_S HV.out
   clear hK K
   (try simp only [Act.put, jjA, jjB, jjC, jjD, jjE, jjF])
   have HI : Ix [11, 12, 13, 14, 15, 16, 17, 18, 19] := trivial
   iterate 9 (refine tkA HI (v := ?_) rfl (by kernel_rfl) (fun _ _ _ h => h) (.inl ⟨by rfl, fun wX hSw => ?_⟩) hHeld (fun HJ => ?_); rotate_left; (focus ((try dsimp only at hSw); go_simp; try with_reducible rfl)); clear HI; have HI := HJ; clear HJ; try simp only [Act.put, jjA, jjB, jjC, jjD, jjE, jjF])
   clear HI
   refine wpAnyH_ready (rs := [20]) (by kernel_rfl) (by simp) ?_
   refine AllReadyH.cons rfl (fun K hK => ?_) (AllReadyH.nil)
   go_simp
   (first | (go_at_call 31; (with_reducible refine (between_as true lo mo (some ⟨bh, oh, none⟩) p.hn p.hc p.hl _ (by rw [← HEH.out]; first | exact (HNH.out _ HV.out).h | exact (HNH.out _ HV.out.drew).h) hhn' EB1).mono ?_); rintro e z ⟨rfl, hz⟩; have hb := below_eq hz; clear hz; have hB2 : Hk (Below WA.heap.size WA z) := ⟨by first | exact kw_step HV.out (Nat.le_refl _) hb | exact kw_step HV.out.drew (Nat.le_refl _) hb⟩; clear hb; replace HV := hB2; clear hB2) | (go_at_call 31; (with_reducible refine (between_as true (p.d - 1) p.s (some ⟨ba, oa, none⟩) p.an p.ac p.al _ (by rw [← HEA.out]; first | exact (HNH.out _ HV.out).a | exact (HNH.out _ HV.out.drew).a) han' EB2).mono ?_); rintro e z ⟨rfl, hz⟩; have hb := below_eq hz; clear hz; have hB2 : Hk (Below WA.heap.size WA z) := ⟨by first | exact kw_step HV.out (Nat.le_refl _) hb | exact kw_step HV.out.drew (Nat.le_refl _) hb⟩; clear hb; replace HV := hB2; clear hB2))
   refine hK.out _ _ ?_ (fun hHeld => ?_)
   ·exact kw_S HV.out
   clear hK K
   (try simp only [Act.put, jjA, jjB, jjC, jjD, jjE, jjF])
   have HI : Ix [21, 22, 23, 24, 25, 26, 27, 28, 29, 30, 31, 32, 33, 34, 35, 36, 37, 38, 39, 40, 41, 42, 43, 44, 45, 46] := trivial
   iterate 26 (refine tkA HI (v := ?_) rfl (by kernel_rfl) (fun _ _ _ h => h) (.inl ⟨by rfl, fun wX hSw => ?_⟩) hHeld (fun HJ => ?_); rotate_left; (focus ((try dsimp only at hSw); go_simp; try with_reducible rfl)); clear HI; have HI := HJ; clear HJ; try simp only [Act.put, jjA, jjB, jjC, jjD, jjE, jjF])
   clear HI
   refine wpAnyH_done (by kernel_rfl) ?_ _
   go_wp2
   go_meet
   case rel => exact ⟨rfl, by first | exact HV | exact ⟨HV.out.drew⟩⟩
 case rest =>
 clear HV
 obtain ⟨rfl, HV⟩ := hcut
 cases rr
 case true =>
  go_wp2
  go_ret
  exact ⟨no_as HER.out (fun g => by
   have h := HRP.out.1 g
   exact HRR.out.2 (by first | rfl | trivial) ⟨h.1, h.2.1, h.2.2.1, h.2.2.2.1⟩), (HWC.out.trans ((by first | exact HV.out | exact HV.out.drew : Below WA.heap.size WA _).mono HWC.out.size))⟩
 have HALL : Hk (rb1 = true ∧ rb2 = true ∧ x = p.s ∧ y = p.s) := ⟨Classical.byContradiction fun h => by have := HRR.out.1 h; cases this⟩
 have HE2 : Hk (((∀ k, k < p.ln → InAt p k) ∧ (p.mn : Int) = p.s - minL p.al ∧ ∀ k, k < p.mn → MnAt p k) ↔ r = true) := ⟨by
  rw [← HER.out, HRP.out]
  exact ⟨fun g => ⟨HALL.out.1, HALL.out.2.1, HALL.out.2.2.1, HALL.out.2.2.2, g⟩, fun g => g.2.2.2.2⟩⟩
 have HLB : Hk (0 ≤ minL p.al ∧ minL p.al ≤ 1099511627776) := ⟨by
  have h1 := btw_iff.1 (EB2.out.trans HALL.out.2.1)
  have hal : p.al ≠ [] := by intro e; have := HH.out.a.len; rw [e] at this; simp at this; omega
  obtain ⟨k, hk, e⟩ := List.mem_iff_getElem.1 (min_mem hal)
  have h2 := h1 k hk
  have e2 : p.al.getD k 0 = minL p.al := by rw [← e]; simp [List.getD, hk]
  rw [e2] at h2
  omega⟩
 generalize wc = WL at *
 have HVL := HV
 clear HV HRR EB1 EB2 HRP HER HXX HYY gj d1 d2 HALL
 have HOK := Hk.mk (ordN_sorted O1.out).1
 have HLN := Hk.mk (HH.out).l.q.len
 have HN8 : Hk ((p.hn : Int) = p.n ∧ p.n ≤ 8) := ⟨HNN.out.1, hn2⟩
 have hln : p.ln ≤ 1048576 := by have := HS.out.l.n; rw [HLN.out] at this; exact this
 have hmn : p.mn ≤ 1048576 := by have := HS.out.m.n; rw [(HH.out).m.q.len] at this; exact this
 have HWL : Hk (Below WL.heap.size WL WL) := ⟨Below.refl _ _⟩
 have HFIN : Hk (∀ X, Below WL.heap.size WL X → Below w.heap.size w X) := ⟨fun X hX => HWC.out.trans ((HVL.out.trans (hX.mono HVL.out.size)).mono HWC.out.size)⟩
 have HPD : Hk (∀ X, Below WL.heap.size WL X → PvD X X.heap.size p) := ⟨fun X hX => HNH.out X (HVL.out.trans (hX.mono HVL.out.size))⟩
 have HPW : Hk (∀ X, Below WL.heap.size WL X → X.cell? ⟨w.heap.size, 0, none⟩ = some (.int .i64 p.i) ∧ X.cell? ⟨w.heap.size, 1, none⟩ = some (.int .i64 p.n) ∧ X.cell? ⟨w.heap.size, 3, none⟩ = some (.int .i64 p.t) ∧ X.cell? ⟨w.heap.size, 4, none⟩ = some (.int .i64 p.s) ∧ X.cell? ⟨w.heap.size, 5, none⟩ = some (.slice p.ma p.mn p.mc) ∧ X.cell? ⟨w.heap.size, 6, none⟩ = some (.slice p.la p.ln p.lc) ∧ X.cell? ⟨w.heap.size, 7, none⟩ = some (.slice (some ⟨bh, oh, none⟩) p.hn p.hc) ∧ X.cell? ⟨w.heap.size, 8, none⟩ = some (.slice (some ⟨ba, oa, none⟩) p.an p.ac) ∧ w.heap.size < X.heap.size) := ⟨fun X hX => HPC.out X (HVL.out.trans (hX.mono HVL.out.size))⟩
 have HCH2 : Hk (∀ X, Below WL.heap.size WL X → ∀ k, k < p.hn → X.cell? ⟨bh, oh + k, none⟩ = some (.int .i64 (p.hl.getD k 0))) := ⟨fun X hX k hk => ((HVL.out.trans (hX.mono HVL.out.size)).cell (p := ⟨bh, oh + k, none⟩) hbh).trans (HCH.out k hk)⟩
 have hbw : bh < WL.heap.size := Nat.lt_of_lt_of_le hbh HVL.out.size
 have HRR : Hk (∀ k, k < p.ln → ¬ InAt p k → r = false) := ⟨fun k hk h => r_no HE2.out (fun g => h (g.1 k hk))⟩
 clear HPC HCH HNH HVL HWC O1 O2 hba hbh hhn' han'
 obtain ⟨la, hla⟩ : ∃ la, p.la = la := ⟨_, rfl⟩
 obtain ⟨ma, hma⟩ : ∃ ma, p.ma = ma := ⟨_, rfl⟩
 rw [hla, hma] at HPW
 rw [hla, hma]
 have HLA := Hk.mk hla
 have HMA := Hk.mk hma
 clear hla hma
 obtain ⟨y0, y1, y3, y4, y5, y6, y7, y8, yl⟩ := HPW.out _ HWL.out
 go_wp2
 go_loopw [4] (fun i wr => ∃ k : Nat, i = .int .i64 k ∧ k ≤ p.ln ∧ Hk (∀ m, m < k → InAt p m) ∧ Hk (Below WL.heap.size WL wr)) (fun i _ => p.ln - (intOf i).toNat)
 case atStart => exact ⟨0, rfl, Nat.zero_le _, ⟨fun m hm => absurd hm (by omega)⟩, HWL⟩
 case round =>
  clear HWL
  obtain ⟨k, rfl, hk, HD, HV⟩ := hrel
  obtain ⟨y0, y1, y3, y4, y5, y6, y7, y8, yl⟩ := HPW.out _ HV.out
  by_cases hlt : k < p.ln
  ·have hda := (HPD.out _ HV.out).l
   rw [HLA.out] at hda
   obtain ⟨b, off, rfl, hbl, ⟨p0, p1, p2⟩, hq⟩ := hda.three hlt
   have hkl : k < p.ll.length := by rw [HLN.out]; exact hlt
   have hok := HOK.out _ (List.mem_map.2 ⟨_, getD_memI hkl, rfl⟩ : (p.ll.getD k default).ab ∈ abI p.ll)
   have hat : InAt p k = (p.t ≤ (p.ll.getD k default).t ∧ (p.ll.getD k default).p ≤ p.n ∧ (p.ll.getD k default).t ≤ p.hl.getD ((p.ll.getD k default).p.toNat - 1) 0) := rfl
   obtain ⟨q, hqq⟩ : ∃ q, p.ll.getD k default = q := ⟨_, rfl⟩
   rw [hqq] at p0 p1 p2 hat hok
   obtain ⟨k1, k2, k3, k4⟩ := okN_pl hok
   have HATE := Hk.mk hat
   have HLT := Hk.mk hlt
   have t0 : (0 : Int) ≤ (k : Int) := by omega
   have t1 : (k : Int) < (p.ln : Int) := by omega
   have gk : IntKind.i64.wrap ((k : Int) + 1) = ((k + 1 : Nat) : Int) := by push_cast; exact wr27 (by omega) (by omega)
   clear hqq hat hok hkl hq
   go_upto_region 10 with fail
   have HBQ : Hk (Bk (wr.alloc (.cells #[.int .i64 q.t, .int .i64 q.p, .slice q.a q.n q.c] 40)) wr.heap.size #[.int .i64 q.t, .int .i64 q.p, .slice q.a q.n q.c]) := ⟨Bk.new wr #[.int .i64 q.t, .int .i64 q.p, .slice q.a q.n q.c] 40⟩
   have HVW : Hk (Below WL.heap.size WL (wr.alloc (.cells #[.int .i64 q.t, .int .i64 q.p, .slice q.a q.n q.c] 40))) := ⟨HV.out.alloc HV.out.size _⟩
   clear p0 p1 p2 y0 y1 y3 y4 y5 y6 y7 y8 yl hk hlt
   generalize hPQ : wr.heap.size = PQ at *
   have hpq : PQ < (wr.alloc (.cells #[.int .i64 q.t, .int .i64 q.p, .slice q.a q.n q.c] 40)).heap.size := HBQ.out.lt
   generalize (wr.alloc (.cells #[.int .i64 q.t, .int .i64 q.p, .slice q.a q.n q.c] 40)) = W4 at *
   have HR : Hk (Below W4.heap.size W4 W4) := ⟨Below.refl _ _⟩
   have i0 : W4.cell? ⟨PQ, 0, none⟩ = some (.int .i64 q.t) := HBQ.out.c 0
   have i1 : W4.cell? ⟨PQ, 1, none⟩ = some (.int .i64 q.p) := HBQ.out.c 1
   obtain ⟨y0, y1, y3, y4, y5, y6, y7, y8, yl⟩ := HPW.out _ HVW.out
   have HV2 : Hk (Below WL.heap.size WL W4.drew) := ⟨HVW.out.drew⟩
   by_cases q1 : q.t < p.t
   ·have f1 : decide (q.t < p.t) = true := by simpa using q1
    obtain rfl : r = false := HRR.out k HLT.out (by rw [HATE.out]; intro h; omega)
    clear q1
    as_aux_lemma =>
     refine wp_region_held_drew (S := (fun X => (∀ b o, b < W4.heap.size → X.cell? ⟨b, o, none⟩ = W4.cell? ⟨b, o, none⟩) ∧ Below W4.heap.size W4 X)) (by kernel_rfl) ?_ (fun hHeld => ?_)
     ·exact kw_S (kw_drew HR.out)
     have HI : Ix [0, 1, 2, 3, 4, 5] := trivial
     iterate 6 (refine tkA HI (v := ?_) rfl (by kernel_rfl) (fun _ _ _ h => h) (.inl ⟨by rfl, fun wX hSw => ?_⟩) hHeld (fun HJ => ?_); rotate_left; (focus ((try dsimp only at hSw); go_simp; try with_reducible rfl)); clear HI; have HI := HJ; clear HJ; try simp only [Act.put, jjA, jjB, jjC, jjD, jjE, jjF])
     clear HI
     have HI : Ix [6, 7, 8, 9, 10] := trivial
     iterate 5 (refine tkA HI (v := undef) rfl (by kernel_rfl) (fun _ _ _ h => h) (.inr ⟨by rfl, rfl⟩) hHeld (fun HJ => ?_); clear HI; have HI := HJ; clear HJ; try simp only [Act.put, jjA, jjB, jjC, jjD, jjE, jjF])
     clear HI
     have HI : Ix [11, 12] := trivial
     iterate 2 (refine tkA HI (v := ?_) rfl (by kernel_rfl) (fun _ _ _ h => h) (.inl ⟨by rfl, fun wX hSw => ?_⟩) hHeld (fun HJ => ?_); rotate_left; (focus ((try dsimp only at hSw); go_simp; try with_reducible rfl)); clear HI; have HI := HJ; clear HJ; try simp only [Act.put, jjA, jjB, jjC, jjD, jjE, jjF])
     clear HI
     have HI : Ix [13, 14, 15, 16, 17, 18, 19, 20, 21, 22] := trivial
     iterate 10 (refine tkA HI (v := undef) rfl (by kernel_rfl) (fun _ _ _ h => h) (.inr ⟨by rfl, rfl⟩) hHeld (fun HJ => ?_); clear HI; have HI := HJ; clear HJ; try simp only [Act.put, jjA, jjB, jjC, jjD, jjE, jjF])
     clear HI
     have HI : Ix [23] := trivial
     (refine tkA HI (v := ?_) rfl (by kernel_rfl) (fun _ _ _ h => h) (.inl ⟨by rfl, fun wX hSw => ?_⟩) hHeld (fun HJ => ?_); rotate_left; (focus ((try dsimp only at hSw); go_simp; try with_reducible rfl)); clear HI; have HI := HJ; clear HJ; try simp only [Act.put, jjA, jjB, jjC, jjD, jjE, jjF])
     clear HI
     refine wpAnyH_done (by kernel_rfl) ?_ _
     go_wp2
     go_ret
     exact ⟨rfl, by first | exact HFIN.out _ HV2.out | exact HFIN.out _ HVW.out⟩
   have f1 : decide (q.t < p.t) = false := by simpa using q1
   by_cases q2 : p.n < q.p
   ·have f2 : decide (p.n < q.p) = true := by simpa using q2
    obtain rfl : r = false := HRR.out k HLT.out (by rw [HATE.out]; intro h; omega)
    clear q1 q2
    as_aux_lemma =>
     refine wp_region_held_drew (S := (fun X => (∀ b o, b < W4.heap.size → X.cell? ⟨b, o, none⟩ = W4.cell? ⟨b, o, none⟩) ∧ Below W4.heap.size W4 X)) (by kernel_rfl) ?_ (fun hHeld => ?_)
     ·exact kw_S (kw_drew HR.out)
     have HI : Ix [0, 1, 2, 3, 4, 5, 6, 7, 8, 9, 10, 11, 12] := trivial
     iterate 13 (refine tkA HI (v := ?_) rfl (by kernel_rfl) (fun _ _ _ h => h) (.inl ⟨by rfl, fun wX hSw => ?_⟩) hHeld (fun HJ => ?_); rotate_left; (focus ((try dsimp only at hSw); go_simp; try with_reducible rfl)); clear HI; have HI := HJ; clear HJ; try simp only [Act.put, jjA, jjB, jjC, jjD, jjE, jjF])
     clear HI
     have HI : Ix [13, 14, 15, 16, 17, 18, 19, 20, 21, 22] := trivial
     iterate 10 (refine tkA HI (v := undef) rfl (by kernel_rfl) (fun _ _ _ h => h) (.inr ⟨by rfl, rfl⟩) hHeld (fun HJ => ?_); clear HI; have HI := HJ; clear HJ; try simp only [Act.put, jjA, jjB, jjC, jjD, jjE, jjF])
     clear HI
     have HI : Ix [23] := trivial
     (refine tkA HI (v := ?_) rfl (by kernel_rfl) (fun _ _ _ h => h) (.inl ⟨by rfl, fun wX hSw => ?_⟩) hHeld (fun HJ => ?_); rotate_left; (focus ((try dsimp only at hSw); go_simp; try with_reducible rfl)); clear HI; have HI := HJ; clear HJ; try simp only [Act.put, jjA, jjB, jjC, jjD, jjE, jjF])
     clear HI
     refine wpAnyH_done (by kernel_rfl) ?_ _
     go_wp2
     go_ret
     exact ⟨rfl, by first | exact HFIN.out _ HV2.out | exact HFIN.out _ HVW.out⟩
   have f2 : decide (p.n < q.p) = false := by simpa using q2
   obtain ⟨jj, hjj⟩ : ∃ jj : Nat, q.p = (jj : Int) + 1 := HMX.out _ k1 k2
   have gj : IntKind.i64.wrap (q.p - 1) = (jj : Int) := by rw [show q.p - 1 = (jj : Int) by omega]; exact wr27 (by omega) (by omega)
   have hjn : jj < p.hn := by have := HN8.out; omega
   have hjn' : (jj : Int) < (p.hn : Int) := by omega
   have jj0 : (0 : Int) ≤ (jj : Int) := by omega
   obtain ⟨u, hu⟩ : ∃ u, p.hl.getD jj 0 = u := ⟨_, rfl⟩
   have d1 := HCH2.out _ HVW.out jj hjn
   rw [hu] at d1
   have HU : Hk (p.hl.getD (q.p.toNat - 1) 0 = u) := ⟨by rw [show q.p.toNat - 1 = jj by omega]; exact hu⟩
   have hbr : bh < W4.heap.size := Nat.lt_of_lt_of_le hbw HVW.out.size
   obtain ⟨b3, w3⟩ : ∃ b, decide (u < q.t) = b := ⟨_, rfl⟩
   have HB3 : Hk (InAt p k ↔ b3 = false) := ⟨by rw [HATE.out, HU.out, ← w3, decide_eq_false_iff_not]; omega⟩
   clear q1 q2 hjj hu k1 k2 k3 k4
   as_aux_lemma =>
    refine wp_region_held_drew (S := (fun X => (∀ b o, b < W4.heap.size → X.cell? ⟨b, o, none⟩ = W4.cell? ⟨b, o, none⟩) ∧ Below W4.heap.size W4 X)) (by kernel_rfl) ?_ (fun hHeld => ?_)
    ·exact kw_S (kw_drew HR.out)
    have HI : Ix [0, 1, 2, 3, 4, 5, 6, 7, 8, 9, 10, 11, 12, 13, 14, 15, 16, 17, 18, 19, 20, 21, 22, 23] := trivial
    iterate 24 (refine tkA HI (v := ?_) rfl (by kernel_rfl) (fun _ _ _ h => h) (.inl ⟨by rfl, fun wX hSw => ?_⟩) hHeld (fun HJ => ?_); rotate_left; (focus ((try dsimp only at hSw); go_simp; try with_reducible rfl)); clear HI; have HI := HJ; clear HJ; try simp only [Act.put, jjA, jjB, jjC, jjD, jjE, jjF])
    clear HI
    refine wpAnyH_done (by kernel_rfl) ?_ _
    cases b3
    ·have HD2 : Hk (∀ m, m < k + 1 → InAt p m) := ⟨fun m hm => by
      by_cases e : m = k
      ·rw [e]; exact HB3.out.2 rfl
      ·exact HD.out m (by omega)⟩
     go_wp2
     exact ⟨⟨k + 1, by go_num, HLT.out, HD2, by first | exact HV2 | exact HVW⟩, by first | exact nx_ms HLT.out | exact nx_ms' HLT.out⟩
    ·obtain rfl : r = false := HRR.out k HLT.out (fun h => by have := HB3.out.1 h; cases this)
     go_wp2
     go_ret
     exact ⟨rfl, by first | exact HFIN.out _ HV2.out | exact HFIN.out _ HVW.out⟩
  ·obtain rfl : k = p.ln := by omega
   have HE3 : Hk (((p.mn : Int) = p.s - minL p.al ∧ ∀ k, k < p.mn → MnAt p k) ↔ r = true) := ⟨by
    rw [← HE2.out]
    exact ⟨fun g => ⟨HD.out, g⟩, fun g => g.2⟩⟩
   clear hlt hk HD HE2 HRR
   have hal := (HPD.out _ HV.out).a
   rw [HEA.out] at hal
   have HAL := Hk.mk hal
   obtain ⟨low, hlow⟩ : ∃ low, minL p.al = low := ⟨_, rfl⟩
   have HLOW := Hk.mk hlow
   have hlb := HLB.out
   rw [hlow] at hlb
   have HE4 : Hk (((p.mn : Int) = p.s - low ∧ ∀ k, k < p.mn → MnAt p k) ↔ r = true) := ⟨by rw [← hlow]; exact HE3.out⟩
   have han0 : 0 < p.an := by omega
   have han2 : p.an ≤ 1048576 := by have := HNN.out; omega
   clear hal hlow HE3 HLB
   obtain ⟨wo, rfl⟩ : ∃ wo : World, wo = wr := ⟨wr, rfl⟩
   go_upto_region 13 with (go_at_call 32; (with_reducible refine (least_any (some ⟨ba, oa, none⟩) p.an p.ac p.al _ HAL.out han0 han2).mono ?_); rintro e z ⟨rfl, hz⟩; rw [HLOW.out]; have hb := below_m hz; clear hz; have HV2 := Hk.mk (kw_step HV.out (Nat.le_refl _) hb); clear y0 y1 y3 y4 y5 y6 y7 y8 yl hb; obtain ⟨y0, y1, y3, y4, y5, y6, y7, y8, yl⟩ := HPW.out _ HV2.out)
   clear HAL HV
   have gs : IntKind.i64.wrap (p.s - low) = p.s - low := wr27 (by omega) (by omega)
   by_cases q1 : (p.mn : Int) = p.s - low
   case neg =>
    have f1 : ((p.mn : Int) != p.s - low) = true := by simpa using q1
    have HQ := Hk.mk q1
    clear q1
    go_wp2
    go_ret
    exact ⟨no_as HE4.out (fun g => HQ.out g.1), HFIN.out _ HV2.out⟩
   have f1 : ((p.mn : Int) != p.s - low) = false := by simpa using q1
   have HE5 : Hk ((∀ k, k < p.mn → MnAt p k) ↔ r = true) := ⟨⟨fun g => HE4.out.1 ⟨q1, g⟩, fun g => (HE4.out.2 g).2⟩⟩
   clear q1 HE4
   go_wp2
   go_loopw [7] (fun i wr => ∃ k : Nat, i = .int .i64 k ∧ k ≤ p.mn ∧ Hk (∀ m, m < k → MnAt p m) ∧ Hk (Below WL.heap.size WL wr)) (fun i _ => p.mn - (intOf i).toNat)
   case atStart => exact ⟨0, rfl, Nat.zero_le _, ⟨fun m hm => absurd hm (by omega)⟩, HV2⟩
   case round =>
    clear HV2 y0 y1 y3 y4 y5 y6 y7 y8 yl
    obtain ⟨k, rfl, hk, HD, HV⟩ := hrel
    obtain ⟨y0, y1, y3, y4, y5, y6, y7, y8, yl⟩ := HPW.out _ HV.out
    by_cases hlt : k < p.mn
    ·have hda := (HPD.out _ HV.out).m
     rw [HMA.out] at hda
     obtain ⟨b, off, rfl, hbl, ⟨p0, p1, p2⟩, -⟩ := hda.three hlt
     have hat : MnAt p k = ((p.ml.getD k default).p = p.i ∧ (p.ml.getD k default).t = minL p.al + 1 + k) := rfl
     rw [HLOW.out] at hat
     obtain ⟨q, hqq⟩ : ∃ q, p.ml.getD k default = q := ⟨_, rfl⟩
     rw [hqq] at p0 p1 p2 hat
     obtain ⟨v1, w1⟩ : ∃ b, (q.p != p.i) = b := ⟨_, rfl⟩
     obtain ⟨v2, w2⟩ : ∃ b, (q.t != low + 1 + (k : Int)) = b := ⟨_, rfl⟩
     have HAT : Hk (MnAt p k ↔ (v1 = false ∧ v2 = false)) := ⟨by rw [hat, ← w1, ← w2, bne_eq_false_iff_eq, bne_eq_false_iff_eq]⟩
     have HLT := Hk.mk hlt
     have t0 : (0 : Int) ≤ (k : Int) := by omega
     have t1 : (k : Int) < (p.mn : Int) := by omega
     have gk : IntKind.i64.wrap ((k : Int) + 1) = ((k + 1 : Nat) : Int) := by push_cast; exact wr27 (by omega) (by omega)
     have gl1 : IntKind.i64.wrap (low + 1) = low + 1 := wr27 (by omega) (by omega)
     have gl2 : IntKind.i64.wrap (low + 1 + (k : Int)) = low + 1 + (k : Int) := wr27 (by omega) (by omega)
     have HR : Hk (Below wr.heap.size wr wr) := ⟨Below.refl _ _⟩
     have HV3 : Hk (Below WL.heap.size WL wr.drew) := ⟨HV.out.drew⟩
     clear hqq hat hda hk
     go_upto_region 18 with fail
     cases v1
     case true =>
      as_aux_lemma =>
       refine wp_region_held_drew (S := (fun X => (∀ b o, b < wr.heap.size → X.cell? ⟨b, o, none⟩ = wr.cell? ⟨b, o, none⟩) ∧ Below wr.heap.size wr X)) (by kernel_rfl) ?_ (fun hHeld => ?_)
       ·exact kw_S (kw_drew HR.out)
       have HI : Ix [0, 1, 2, 3, 4, 5, 6, 7, 8, 9] := trivial
       iterate 10 (refine tkA HI (v := ?_) rfl (by kernel_rfl) (fun _ _ _ h => h) (.inl ⟨by rfl, fun wX hSw => ?_⟩) hHeld (fun HJ => ?_); rotate_left; (focus ((try dsimp only at hSw); go_simp; try with_reducible rfl)); clear HI; have HI := HJ; clear HJ; try simp only [Act.put, jjA, jjB, jjC, jjD, jjE, jjF])
       clear HI
       have HI : Ix [10, 11, 12, 13, 14, 15, 16, 17, 18, 19, 20] := trivial
       iterate 11 (refine tkA HI (v := undef) rfl (by kernel_rfl) (fun _ _ _ h => h) (.inr ⟨by rfl, rfl⟩) hHeld (fun HJ => ?_); clear HI; have HI := HJ; clear HJ; try simp only [Act.put, jjA, jjB, jjC, jjD, jjE, jjF])
       clear HI
       have HI : Ix [21] := trivial
       (refine tkA HI (v := ?_) rfl (by kernel_rfl) (fun _ _ _ h => h) (.inl ⟨by rfl, fun wX hSw => ?_⟩) hHeld (fun HJ => ?_); rotate_left; (focus ((try dsimp only at hSw); go_simp; try with_reducible rfl)); clear HI; have HI := HJ; clear HJ; try simp only [Act.put, jjA, jjB, jjC, jjD, jjE, jjF])
       clear HI
       refine wpAnyH_done (by kernel_rfl) ?_ _
       go_wp2
       go_ret
       exact ⟨no_as HE5.out (fun g => by have := HAT.out.1 (g k HLT.out); simp at this), by first | exact HFIN.out _ HV3.out | exact HFIN.out _ HV.out⟩
     as_aux_lemma =>
      refine wp_region_held_drew (S := (fun X => (∀ b o, b < wr.heap.size → X.cell? ⟨b, o, none⟩ = wr.cell? ⟨b, o, none⟩) ∧ Below wr.heap.size wr X)) (by kernel_rfl) ?_ (fun hHeld => ?_)
      ·exact kw_S (kw_drew HR.out)
      have HI : Ix [0, 1, 2, 3, 4, 5, 6, 7, 8, 9, 10, 11, 12, 13, 14, 15, 16, 17, 18, 19, 20, 21] := trivial
      iterate 22 (refine tkA HI (v := ?_) rfl (by kernel_rfl) (fun _ _ _ h => h) (.inl ⟨by rfl, fun wX hSw => ?_⟩) hHeld (fun HJ => ?_); rotate_left; (focus ((try dsimp only at hSw); go_simp; try with_reducible rfl)); clear HI; have HI := HJ; clear HJ; try simp only [Act.put, jjA, jjB, jjC, jjD, jjE, jjF])
      clear HI
      refine wpAnyH_done (by kernel_rfl) ?_ _
      cases v2
      case true =>
       go_wp2
       go_ret
       exact ⟨no_as HE5.out (fun g => by have := HAT.out.1 (g k HLT.out); simp at this), by first | exact HFIN.out _ HV3.out | exact HFIN.out _ HV.out⟩
      have HD2 : Hk (∀ m, m < k + 1 → MnAt p m) := ⟨fun m hm => by
       by_cases e : m = k
       ·rw [e]; exact HAT.out.2 ⟨rfl, rfl⟩
       ·exact HD.out m (by omega)⟩
      go_wp2
      exact ⟨⟨k + 1, by go_num, HLT.out, HD2, by first | exact HV3 | exact HV⟩, by first | exact nx_ms HLT.out | exact nx_ms' HLT.out⟩
    ·obtain rfl : k = p.mn := by omega
     go_wp2
     go_ret
     exact ⟨yes_as HE5.out HD.out, HFIN.out _ HV.out⟩
end Go.Proofs.YtdpblimhfmfbnaaGreat
