import Derived.Deep.QuietTactic
import Derived.BigQuiet
import Derived.Deep.RegionWith
import Derived.Deep.RegionHeld3
import Derived.Deep.DeepCutAuto
import Derived.Deep.DeepFit
import Derived.Outline
import Derived.Test.YtdpblimhfmfbnaaGreatZvas
import Derived.Test.YtdpblimhfmfbnaaGreatZvab
import Derived.Test.YtdpblimhfmfbnaaGreatZvam
set_option linter.unusedVariables false
set_option linter.unusedSimpArgs false
namespace Go.Proofs.YtdpblimhfmfbnaaGreat
open Go.ChangeShapes Go.WideShapes Go.ChangeAt Go.RowKit Go.Deep
theorem psay_statev (p : Pv) (la : Option Addr) (ln lc : Nat) (w : World) (h : PvD w w.heap.size p) (hs : PvS p) (hk : OkP p.ab) (E : p.s = p.t + p.d - 1 ∨ p.s = 1099511627776) :
  Calls Tryz.prog 22 #[.agg (jjP p), .slice la ln lc] w fun e z => ∃ xv : Pv, e = .returned (.tuple #[.agg (jjP xv), .int .i64 10]) ∧ xv = nilV ∧ Below w.heap.size w z := (psay_state p la ln lc w h hs hk E).mono fun e z ⟨h1, h2⟩ => ⟨nilV, h1, rfl, h2⟩
theorem psay_formv (p : Pv) (la : Option Addr) (ln lc : Nat) (l : List Cv) (w : World) (h : PvD w w.heap.size p) (hs : PvS p) (hk : OkP p.ab) (hl : CmD w w.heap.size la ln l) (hsl : SmC l) (E : ¬ (p.s = p.t + p.d - 1 ∨ p.s = 1099511627776)) (EM : okN (sayI p.ab (abC l)) = false) :
  Calls Tryz.prog 22 #[.agg (jjP p), .slice la ln lc] w fun e z => ∃ xv : Pv, e = .returned (.tuple #[.agg (jjP xv), .int .i64 1]) ∧ xv = nilV ∧ Below w.heap.size w z := (psay_form p la ln lc l w h hs hk hl hsl E EM).mono fun e z ⟨h1, h2⟩ => ⟨nilV, h1, rfl, h2⟩
theorem rsay_statev (p : Pv) (la : Option Addr) (ln lc : Nat) (w : World) (h : PvD w w.heap.size p) (hs : PvS p) (hk : OkP p.ab) (E : p.s = p.t + p.d - 1 ∨ p.s = 1099511627776) :
  Calls Tryz.prog 50 #[.agg (jjP p), .slice la ln lc] w fun e z => ∃ wo : Pv, e = .returned (.tuple #[.agg (jjP wo), .int .i64 10]) ∧ wo = p ∧ Below w.heap.size w z := (rsay_state p la ln lc w h hs hk E).mono fun e z ⟨h1, h2⟩ => ⟨p, h1, rfl, h2⟩
theorem rsay_formv (p : Pv) (la : Option Addr) (ln lc : Nat) (l : List Cv) (w : World) (h : PvD w w.heap.size p) (hs : PvS p) (hk : OkP p.ab) (hl : CmD w w.heap.size la ln l) (hsl : SmC l) (E : ¬ (p.s = p.t + p.d - 1 ∨ p.s = 1099511627776)) (EM : okN (sayI p.ab (abC l)) = false) :
  Calls Tryz.prog 50 #[.agg (jjP p), .slice la ln lc] w fun e z => ∃ wo : Pv, e = .returned (.tuple #[.agg (jjP wo), .int .i64 1]) ∧ wo = p ∧ Below w.heap.size w z := (rsay_form p la ln lc l w h hs hk hl hsl E EM).mono fun e z ⟨h1, h2⟩ => ⟨p, h1, rfl, h2⟩
set_option maxRecDepth 100000 in
set_option maxHeartbeats 3200000 in
theorem step0_state (p : Pv) (q : Av) (w : World) (hw : (∀ w, Calls Tryz.prog 18 #[.int .i64 q.o, .int .i64 9] w fun e w' => e = .returned (.int .i64 0) ∧ ∃ m, w' = w.drewN m)) (h : PvD w w.heap.size p) (hs : PvS p) (hk : OkP p.ab) (hq : AvD w w.heap.size q) (hsq : SmC q.ll) (E : p.s = p.t + p.d - 1 ∨ p.s = 1099511627776) :
  Calls Tryz.prog 15 #[.agg (jjP p), .agg (jjQ q)] w fun e z => (∃ u : Pv, e = .returned (.tuple #[.agg (jjP u), .bool true])) ∧ Below w.heap.size w z := by
 have HWI := Hk.mk hw
 have HOK := Hk.mk hk
 have HE := Hk.mk E
 have HSQ := Hk.mk hsq
 have HQL : Hk (∀ X, Below w.heap.size w X → CmD X X.heap.size q.la q.ln q.ll) := ⟨fun X hX => hq.l.later hX⟩
 clear hw hsq hq hk E
 have HBW : Hk (Below w.heap.size w (((w.alloc (.cells (jjP p) 26)).alloc (.cells (jjQ q) 45)).alloc (.cells jjZ 26))) := ⟨(((Below.refl _ _).alloc (Nat.le_refl _) _).alloc (by simp) _).alloc (by simp <;> omega) _⟩
 have e1 : (w.alloc (.cells (jjP p) 26)).heap.size = w.heap.size + 1 := by simp
 have e2 : ((w.alloc (.cells (jjP p) 26)).alloc (.cells (jjQ q) 45)).heap.size = w.heap.size + 2 := by simp
 have HPB : Hk (Bk (((w.alloc (.cells (jjP p) 26)).alloc (.cells (jjQ q) 45)).alloc (.cells jjZ 26)) w.heap.size (jjP p)) := ⟨((Bk.new w (jjP p) 26).al _).al _⟩
 have HAB : Hk (Bk (((w.alloc (.cells (jjP p) 26)).alloc (.cells (jjQ q) 45)).alloc (.cells jjZ 26)) (w.heap.size + 1) (jjQ q)) := ⟨by rw [← e1]; exact (Bk.new (w.alloc (.cells (jjP p) 26)) (jjQ q) 45).al _⟩
 have HRB : Hk (Bk (((w.alloc (.cells (jjP p) 26)).alloc (.cells (jjQ q) 45)).alloc (.cells jjZ 26)) (w.heap.size + 2) jjZ) := ⟨by rw [← e2]; exact Bk.new ((w.alloc (.cells (jjP p) 26)).alloc (.cells (jjQ q) 45)) jjZ 26⟩
 have HRBX : Hk (Bx (((w.alloc (.cells (jjP p) 26)).alloc (.cells (jjQ q) 45)).alloc (.cells jjZ 26)) (w.heap.size + 2) nilV) := ⟨by rw [← e2]; exact Bx.new ((w.alloc (.cells (jjP p) 26)).alloc (.cells (jjQ q) 45)) nilV⟩
 have HDP : Hk (∀ X, Below w.heap.size w X → PvD X X.heap.size p) := ⟨fun X hX => h.later hX⟩
 have HS := Hk.mk hs
 clear e1 e2 h hs
 go_enter Tryz.func15, Tryz.ntmps15
 go_upto_region 1 with fail
 generalize (((w.alloc (.cells (jjP p) 26)).alloc (.cells (jjQ q) 45)).alloc (.cells jjZ 26)) = V at *
 have c0 := HPB.out.c 0; have c1 := HPB.out.c 1; have c2 := HPB.out.c 2; have c3 := HPB.out.c 3; have c4 := HPB.out.c 4; have c5 := HPB.out.c 5; have c6 := HPB.out.c 6; have c7 := HPB.out.c 7; have c8 := HPB.out.c 8; have c9 := HPB.out.c 9; have c10 := HPB.out.c 10; have cl := HPB.out.lt; simp at c0 c1 c2 c3 c4 c5 c6 c7 c8 c9 c10
 go_upto_region 2 with (go_at_call 11; (with_reducible refine (copyp_any p _ (HDP.out _ HBW.out) HS.out).mono ?_); rintro e z ⟨u, rfl, ho, hab, g1, g2, g3, g4, g5, hb⟩; have HO := Hk.mk ho; have HAU := Hk.mk hab; have HSU := Hk.mk (HS.out.like (HDP.out _ HBW.out) ho.d hab g1 g2 g3 g4 g5); have HB2 := Hk.mk hb; clear ho hab g1 g2 g3 g4 g5 hb)
 clear c0 c1 c2 c3 c4 c5 c6 c7 c8 c9 c10 cl
 have HO2 : Hk (PvO (z.alloc (.cells (jjP u) 26)) V.heap.size u) := ⟨HO.out.below ((Below.refl _ _).alloc (Nat.le_refl _) _)⟩
 have HP2 : Hk (Bk (z.alloc (.cells (jjP u) 26)) w.heap.size (jjP p)) := ⟨(HPB.out.below HB2.out).al _⟩
 have HA2 : Hk (Bk (z.alloc (.cells (jjP u) 26)) (w.heap.size + 1) (jjQ q)) := ⟨(HAB.out.below HB2.out).al _⟩
 have HR2 : Hk (Bk (z.alloc (.cells (jjP u) 26)) (w.heap.size + 2) jjZ) := ⟨(HRB.out.below HB2.out).al _⟩
 have HRX : Hk (Bx (z.alloc (.cells (jjP u) 26)) (w.heap.size + 2) nilV) := ⟨(HRBX.out.below HB2.out).al _⟩
 have HQ2 : Hk (Bk (z.alloc (.cells (jjP u) 26)) z.heap.size (jjP u)) := ⟨Bk.new z (jjP u) 26⟩
 have HBV : Hk (Below w.heap.size w (z.alloc (.cells (jjP u) 26))) := ⟨kw_al (HBW.out.trans (HB2.out.mono HBW.out.size)) (Nat.le_refl _) _⟩
 have HRV : Hk ((w.heap.size + 2) < V.heap.size) := ⟨HRB.out.lt⟩
 have NPR : ¬ w.heap.size = (w.heap.size + 2) := by omega
 have NQR : ¬ z.heap.size = (w.heap.size + 2) := by have h1 := HRB.out.lt; have h2 := HB2.out.size; omega
 clear HO HB2 HPB HAB HRB HRBX HBW
 generalize V.heap.size = B0 at *
 generalize z.heap.size = Q at *
 generalize (z.alloc (.cells (jjP u) 26)) = V2 at *
 have HVF : Hk (∀ X, Below V2.heap.size V2 X → X.cell? ⟨w.heap.size, 0, none⟩ = some (.int .i64 p.i) ∧ X.cell? ⟨w.heap.size, 1, none⟩ = some (.int .i64 p.n) ∧ X.cell? ⟨w.heap.size, 2, none⟩ = some (.int .i64 p.d) ∧ X.cell? ⟨w.heap.size, 3, none⟩ = some (.int .i64 p.t) ∧ X.cell? ⟨w.heap.size, 4, none⟩ = some (.int .i64 p.s) ∧ X.cell? ⟨w.heap.size, 5, none⟩ = some (.slice p.ma p.mn p.mc) ∧ X.cell? ⟨w.heap.size, 6, none⟩ = some (.slice p.la p.ln p.lc) ∧ X.cell? ⟨w.heap.size, 7, none⟩ = some (.slice p.ha p.hn p.hc) ∧ X.cell? ⟨w.heap.size, 8, none⟩ = some (.slice p.aa p.an p.ac) ∧ X.cell? ⟨w.heap.size, 9, none⟩ = some (.slice p.xa p.xn p.xc) ∧ X.cell? ⟨w.heap.size, 10, none⟩ = some (.bool p.b) ∧ X.cell? ⟨Q, 0, none⟩ = some (.int .i64 u.i) ∧ X.cell? ⟨Q, 1, none⟩ = some (.int .i64 u.n) ∧ X.cell? ⟨Q, 2, none⟩ = some (.int .i64 u.d) ∧ X.cell? ⟨Q, 3, none⟩ = some (.int .i64 u.t) ∧ X.cell? ⟨Q, 4, none⟩ = some (.int .i64 u.s) ∧ X.cell? ⟨Q, 5, none⟩ = some (.slice u.ma u.mn u.mc) ∧ X.cell? ⟨Q, 6, none⟩ = some (.slice u.la u.ln u.lc) ∧ X.cell? ⟨Q, 7, none⟩ = some (.slice u.ha u.hn u.hc) ∧ X.cell? ⟨Q, 8, none⟩ = some (.slice u.aa u.an u.ac) ∧ X.cell? ⟨Q, 9, none⟩ = some (.slice u.xa u.xn u.xc) ∧ X.cell? ⟨Q, 10, none⟩ = some (.bool u.b) ∧ X.cell? ⟨w.heap.size + 1, 0, none⟩ = some (.int .i64 q.o) ∧ X.cell? ⟨w.heap.size + 1, 1, none⟩ = some (.slice q.la q.ln q.lc) ∧ X.cell? ⟨w.heap.size + 1, 2, none⟩ = some (.int .i64 q.e.f) ∧ X.cell? ⟨w.heap.size + 1, 3, none⟩ = some (.int .i64 q.e.t) ∧ X.cell? ⟨w.heap.size + 1, 4, none⟩ = some (.int .i64 q.e.q.t) ∧ X.cell? ⟨w.heap.size + 1, 5, none⟩ = some (.int .i64 q.e.q.p) ∧ X.cell? ⟨w.heap.size + 1, 6, none⟩ = some (.slice q.e.q.a q.e.q.n q.e.q.c) ∧ X.cell? ⟨w.heap.size + 1, 7, none⟩ = some (.int .i64 q.e.d) ∧ X.cell? ⟨w.heap.size + 1, 8, none⟩ = some (.int .u64 q.e.h) ∧ X.cell? ⟨w.heap.size + 1, 9, none⟩ = some (.int .i64 q.e.v) ∧ X.cell? ⟨w.heap.size + 1, 10, none⟩ = some (.bool q.b) ∧ X.cell? ⟨w.heap.size + 1, 11, none⟩ = some (.int .u64 q.h) ∧ w.heap.size < X.heap.size ∧ Q < X.heap.size ∧ w.heap.size + 1 < X.heap.size) := ⟨fun X hX => by
  have hp := HP2.out.below hX
  have hu := HQ2.out.below hX
  have ha := HA2.out.below hX
  exact ⟨hp.c 0, hp.c 1, hp.c 2, hp.c 3, hp.c 4, hp.c 5, hp.c 6, hp.c 7, hp.c 8, hp.c 9, hp.c 10, hu.c 0, hu.c 1, hu.c 2, hu.c 3, hu.c 4, hu.c 5, hu.c 6, hu.c 7, hu.c 8, hu.c 9, hu.c 10, ha.c 0, ha.c 1, ha.c 2, ha.c 3, ha.c 4, ha.c 5, ha.c 6, ha.c 7, ha.c 8, ha.c 9, ha.c 10, ha.c 11, hp.lt, hu.lt, ha.lt⟩⟩
 have HTR : Hk (∀ X, Below V2.heap.size V2 X → Below w.heap.size w X) := ⟨fun X hX => HBV.out.trans (hX.mono HBV.out.size)⟩
 have HDU : Hk (∀ X, Below V2.heap.size V2 X → PvD X X.heap.size u) := ⟨fun X hX => (HO2.out.below hX).d⟩
 have HV : Hk (Below V2.heap.size V2 V2) := ⟨Below.refl _ _⟩
 clear HP2 HA2 HQ2 HBV
 obtain ⟨y0, y1, y2, y3, y4, y5, y6, y7, y8, y9, y10, d0, d1, d2, d3, d4, d5, d6, d7, d8, d9, d10, a0, a1, a2, a3, a4, a5, a6, a7, a8, a9, a10, a11, yl, dl, al⟩ := HVF.out _ HV.out
 have HKU : Hk (OkP u.ab) := ⟨by rw [HAU.out]; exact HOK.out⟩
 have HEU : Hk (u.s = u.t + u.d - 1 ∨ u.s = 1099511627776) := ⟨by obtain ⟨-, -, b3, b4, b5, -⟩ := (ab_iff u p).1 HAU.out; rw [b3, b4, b5]; exact HE.out⟩
 go_upto_region 3 with (go_at_call 12; (with_reducible refine (rpeer_as true p _ (HDP.out _ (HTR.out _ HV.out)) HS.out ⟨⟨fun _ => rfl, fun _ => HOK.out⟩⟩).mono ?_); rintro e z ⟨rfl, hb⟩; have HV9 := Hk.mk (kw_step HV.out (Nat.le_refl _) hb); clear y0 y1 y2 y3 y4 y5 y6 y7 y8 y9 y10 d0 d1 d2 d3 d4 d5 d6 d7 d8 d9 d10 a0 a1 a2 a3 a4 a5 a6 a7 a8 a9 a10 a11 yl dl al; clear hb; replace HV := HV9; clear HV9; obtain ⟨y0, y1, y2, y3, y4, y5, y6, y7, y8, y9, y10, d0, d1, d2, d3, d4, d5, d6, d7, d8, d9, d10, a0, a1, a2, a3, a4, a5, a6, a7, a8, a9, a10, a11, yl, dl, al⟩ := HVF.out _ HV.out)
 go_upto_region 6 with fail
 have HV9 : Hk (Below V2.heap.size V2 ((z.alloc (.cells jjZ 26)).alloc (.cells jjZ 26))) := ⟨kw_al (kw_al HV.out (Nat.le_refl _) _) (Nat.le_refl _) _⟩
 have HWB : Hk (Bx ((z.alloc (.cells jjZ 26)).alloc (.cells jjZ 26)) z.heap.size nilV) := ⟨(Bx.new z nilV).al _⟩
 have e9 : (z.alloc (.cells jjZ 26)).heap.size = z.heap.size + 1 := by simp
 have HXB : Hk (Bx ((z.alloc (.cells jjZ 26)).alloc (.cells jjZ 26)) (z.heap.size + 1) nilV) := ⟨by rw [← e9]; exact Bx.new (z.alloc (.cells jjZ 26)) nilV⟩
 have HNB : Hk (V2.heap.size ≤ z.heap.size) := ⟨HV.out.size⟩
 have HRW : Hk (¬ (w.heap.size + 2) = z.heap.size ∧ ¬ (w.heap.size + 2) = z.heap.size + 1) := ⟨by have h1 := HR2.out.lt; have h2 := HV.out.size; omega⟩
 clear e9
 clear y0 y1 y2 y3 y4 y5 y6 y7 y8 y9 y10 d0 d1 d2 d3 d4 d5 d6 d7 d8 d9 d10 a0 a1 a2 a3 a4 a5 a6 a7 a8 a9 a10 a11 yl dl al
 replace HV := HV9
 clear HV9
 generalize z.heap.size = wb at *
 generalize ((z.alloc (.cells jjZ 26)).alloc (.cells jjZ 26)) = V3 at *
 obtain ⟨y0, y1, y2, y3, y4, y5, y6, y7, y8, y9, y10, d0, d1, d2, d3, d4, d5, d6, d7, d8, d9, d10, a0, a1, a2, a3, a4, a5, a6, a7, a8, a9, a10, a11, yl, dl, al⟩ := HVF.out _ HV.out
 go_upto_region 9 with (first | (go_at_call 18; (with_reducible refine (HWI.out _).mono ?_); rintro e z ⟨rfl, hz⟩; have hb := below_m hz; clear hz; have HWB9 := Hk.mk (HWB.out.below hb); have HXB9 := Hk.mk (HXB.out.below hb); clear HWB HXB; have HWB := HWB9; have HXB := HXB9; clear HWB9 HXB9; have HV9 := Hk.mk (kw_step HV.out (Nat.le_refl _) hb); clear y0 y1 y2 y3 y4 y5 y6 y7 y8 y9 y10 d0 d1 d2 d3 d4 d5 d6 d7 d8 d9 d10 a0 a1 a2 a3 a4 a5 a6 a7 a8 a9 a10 a11 yl dl al; clear hb; replace HV := HV9; clear HV9; obtain ⟨y0, y1, y2, y3, y4, y5, y6, y7, y8, y9, y10, d0, d1, d2, d3, d4, d5, d6, d7, d8, d9, d10, a0, a1, a2, a3, a4, a5, a6, a7, a8, a9, a10, a11, yl, dl, al⟩ := HVF.out _ HV.out) | (go_at_call 50; (with_reducible refine (rsay_statev p q.la q.ln q.lc _ (HDP.out _ (HTR.out _ HV.out)) HS.out HOK.out HE.out).mono ?_); rintro e z ⟨wo, rfl, hwo, hb⟩; have HWB9 := Hk.mk (HWB.out.below hb); have HXB9 := Hk.mk (HXB.out.below hb); clear HWB HXB; have HWB := HWB9; have HXB := HXB9; clear HWB9 HXB9; have HV9 := Hk.mk (kw_step HV.out (Nat.le_refl _) hb); clear y0 y1 y2 y3 y4 y5 y6 y7 y8 y9 y10 d0 d1 d2 d3 d4 d5 d6 d7 d8 d9 d10 a0 a1 a2 a3 a4 a5 a6 a7 a8 a9 a10 a11 yl dl al; clear hb; replace HV := HV9; clear HV9; obtain ⟨y0, y1, y2, y3, y4, y5, y6, y7, y8, y9, y10, d0, d1, d2, d3, d4, d5, d6, d7, d8, d9, d10, a0, a1, a2, a3, a4, a5, a6, a7, a8, a9, a10, a11, yl, dl, al⟩ := HVF.out _ HV.out; clear hwo; have x0 := HWB.out.bk.c 0; have x1 := HWB.out.bk.c 1; have x2 := HWB.out.bk.c 2; have x3 := HWB.out.bk.c 3; have x4 := HWB.out.bk.c 4; have x5 := HWB.out.bk.c 5; have x6 := HWB.out.bk.c 6; have x7 := HWB.out.bk.c 7; have x8 := HWB.out.bk.c 8; have x9 := HWB.out.bk.c 9; have x10 := HWB.out.bk.c 10; have xl := HWB.out.lt; simp at x0 x1 x2 x3 x4 x5 x6 x7 x8 x9 x10; have j0 := HWB.out.bk.f 0; have j1 := HWB.out.bk.f 1; have j2 := HWB.out.bk.f 2; have j3 := HWB.out.bk.f 3; have j4 := HWB.out.bk.f 4; have j5 := HWB.out.bk.f 5; have j6 := HWB.out.bk.f 6; have j7 := HWB.out.bk.f 7; have j8 := HWB.out.bk.f 8; have j9 := HWB.out.bk.f 9; have j10 := HWB.out.bk.f 10))
 have HKW := Hk.mk (Kt.put (B := V2.heap.size) HWB.out HNB.out wo)
 have HWB5 : Hk (Bx ((((((((((((World.setCell z ⟨wb, 0, none⟩ (.int .i64 wo.i)).setCell ⟨wb, 1, none⟩ (.int .i64 wo.n)).setCell ⟨wb, 2, none⟩ (.int .i64 wo.d)).setCell ⟨wb, 3, none⟩ (.int .i64 wo.t)).setCell ⟨wb, 4, none⟩ (.int .i64 wo.s)).setCell ⟨wb, 5, none⟩ (.slice wo.ma wo.mn wo.mc)).setCell ⟨wb, 6, none⟩ (.slice wo.la wo.ln wo.lc)).setCell ⟨wb, 7, none⟩ (.slice wo.ha wo.hn wo.hc)).setCell ⟨wb, 8, none⟩ (.slice wo.aa wo.an wo.ac)).setCell ⟨wb, 9, none⟩ (.slice wo.xa wo.xn wo.xc)).setCell ⟨wb, 10, none⟩ (.bool wo.b))) wb wo) := ⟨HWB.out.put wo⟩
 have HXB5 : Hk (Bx ((((((((((((World.setCell z ⟨wb, 0, none⟩ (.int .i64 wo.i)).setCell ⟨wb, 1, none⟩ (.int .i64 wo.n)).setCell ⟨wb, 2, none⟩ (.int .i64 wo.d)).setCell ⟨wb, 3, none⟩ (.int .i64 wo.t)).setCell ⟨wb, 4, none⟩ (.int .i64 wo.s)).setCell ⟨wb, 5, none⟩ (.slice wo.ma wo.mn wo.mc)).setCell ⟨wb, 6, none⟩ (.slice wo.la wo.ln wo.lc)).setCell ⟨wb, 7, none⟩ (.slice wo.ha wo.hn wo.hc)).setCell ⟨wb, 8, none⟩ (.slice wo.aa wo.an wo.ac)).setCell ⟨wb, 9, none⟩ (.slice wo.xa wo.xn wo.xc)).setCell ⟨wb, 10, none⟩ (.bool wo.b))) (wb + 1) nilV) := ⟨HXB.out.fr (fr_put wo) (by omega)⟩
 have HV5 : Hk (Below V2.heap.size V2 ((((((((((((World.setCell z ⟨wb, 0, none⟩ (.int .i64 wo.i)).setCell ⟨wb, 1, none⟩ (.int .i64 wo.n)).setCell ⟨wb, 2, none⟩ (.int .i64 wo.d)).setCell ⟨wb, 3, none⟩ (.int .i64 wo.t)).setCell ⟨wb, 4, none⟩ (.int .i64 wo.s)).setCell ⟨wb, 5, none⟩ (.slice wo.ma wo.mn wo.mc)).setCell ⟨wb, 6, none⟩ (.slice wo.la wo.ln wo.lc)).setCell ⟨wb, 7, none⟩ (.slice wo.ha wo.hn wo.hc)).setCell ⟨wb, 8, none⟩ (.slice wo.aa wo.an wo.ac)).setCell ⟨wb, 9, none⟩ (.slice wo.xa wo.xn wo.xc)).setCell ⟨wb, 10, none⟩ (.bool wo.b)))) := ⟨HV.out.trans HKW.out.bl⟩
 clear HWB HXB HV HKW
 clear y0 y1 y2 y3 y4 y5 y6 y7 y8 y9 y10 d0 d1 d2 d3 d4 d5 d6 d7 d8 d9 d10 a0 a1 a2 a3 a4 a5 a6 a7 a8 a9 a10 a11 yl dl al
 clear x0 x1 x2 x3 x4 x5 x6 x7 x8 x9 x10 xl
 clear j0 j1 j2 j3 j4 j5 j6 j7 j8 j9 j10
 generalize ((((((((((((World.setCell z ⟨wb, 0, none⟩ (.int .i64 wo.i)).setCell ⟨wb, 1, none⟩ (.int .i64 wo.n)).setCell ⟨wb, 2, none⟩ (.int .i64 wo.d)).setCell ⟨wb, 3, none⟩ (.int .i64 wo.t)).setCell ⟨wb, 4, none⟩ (.int .i64 wo.s)).setCell ⟨wb, 5, none⟩ (.slice wo.ma wo.mn wo.mc)).setCell ⟨wb, 6, none⟩ (.slice wo.la wo.ln wo.lc)).setCell ⟨wb, 7, none⟩ (.slice wo.ha wo.hn wo.hc)).setCell ⟨wb, 8, none⟩ (.slice wo.aa wo.an wo.ac)).setCell ⟨wb, 9, none⟩ (.slice wo.xa wo.xn wo.xc)).setCell ⟨wb, 10, none⟩ (.bool wo.b))) = V5 at *
 have HV := HV5
 have HWB := HWB5
 have HXB := HXB5
 clear HV5 HWB5 HXB5
 obtain ⟨y0, y1, y2, y3, y4, y5, y6, y7, y8, y9, y10, d0, d1, d2, d3, d4, d5, d6, d7, d8, d9, d10, a0, a1, a2, a3, a4, a5, a6, a7, a8, a9, a10, a11, yl, dl, al⟩ := HVF.out _ HV.out
 go_upto_region 11 with (first | (go_at_call 51; (with_reducible refine (copycs_any q.la q.ln q.lc q.ll _ (HQL.out _ (HTR.out _ HV.out)) HSQ.out).mono ?_); rintro e z ⟨v, L, rfl, ho, hab2, hb⟩; obtain ⟨ca, cc, rfl⟩ := ho.form; have HOC := Hk.mk (ho.weak HV.out.size); have HAC := Hk.mk hab2; have HSC : Hk (SmC L) := ⟨smC_like hab2 (fun x hx => (ho.u x hx).nq.len) (fun x hx => ((HQL.out _ (HTR.out _ HV.out)).u x hx).len) HSQ.out⟩; clear ho hab2; have HWB9 := Hk.mk (HWB.out.below hb); have HXB9 := Hk.mk (HXB.out.below hb); clear HWB HXB; have HWB := HWB9; have HXB := HXB9; clear HWB9 HXB9; have HV9 := Hk.mk (kw_step HV.out (Nat.le_refl _) hb); clear y0 y1 y2 y3 y4 y5 y6 y7 y8 y9 y10 d0 d1 d2 d3 d4 d5 d6 d7 d8 d9 d10 a0 a1 a2 a3 a4 a5 a6 a7 a8 a9 a10 a11 yl dl al; clear hb; replace HV := HV9; clear HV9; obtain ⟨y0, y1, y2, y3, y4, y5, y6, y7, y8, y9, y10, d0, d1, d2, d3, d4, d5, d6, d7, d8, d9, d10, a0, a1, a2, a3, a4, a5, a6, a7, a8, a9, a10, a11, yl, dl, al⟩ := HVF.out _ HV.out) | (go_at_call 22; (with_reducible refine (psay_statev u ca q.ln cc _ (HDU.out _ HV.out) HSU.out HKU.out HEU.out).mono ?_); rintro e z ⟨xv, rfl, hxv, hb⟩; have HXV := Hk.mk hxv; replace HOC := Hk.mk (HOC.out.below hb); have HWB9 := Hk.mk (HWB.out.below hb); have HXB9 := Hk.mk (HXB.out.below hb); clear HWB HXB; have HWB := HWB9; have HXB := HXB9; clear HWB9 HXB9; have HV9 := Hk.mk (kw_step HV.out (Nat.le_refl _) hb); clear y0 y1 y2 y3 y4 y5 y6 y7 y8 y9 y10 d0 d1 d2 d3 d4 d5 d6 d7 d8 d9 d10 a0 a1 a2 a3 a4 a5 a6 a7 a8 a9 a10 a11 yl dl al; clear hb; replace HV := HV9; clear HV9; obtain ⟨y0, y1, y2, y3, y4, y5, y6, y7, y8, y9, y10, d0, d1, d2, d3, d4, d5, d6, d7, d8, d9, d10, a0, a1, a2, a3, a4, a5, a6, a7, a8, a9, a10, a11, yl, dl, al⟩ := HVF.out _ HV.out; clear hxv; have x0 := HXB.out.bk.c 0; have x1 := HXB.out.bk.c 1; have x2 := HXB.out.bk.c 2; have x3 := HXB.out.bk.c 3; have x4 := HXB.out.bk.c 4; have x5 := HXB.out.bk.c 5; have x6 := HXB.out.bk.c 6; have x7 := HXB.out.bk.c 7; have x8 := HXB.out.bk.c 8; have x9 := HXB.out.bk.c 9; have x10 := HXB.out.bk.c 10; have xl := HXB.out.lt; simp at x0 x1 x2 x3 x4 x5 x6 x7 x8 x9 x10; have j0 := HXB.out.bk.f 0; have j1 := HXB.out.bk.f 1; have j2 := HXB.out.bk.f 2; have j3 := HXB.out.bk.f 3; have j4 := HXB.out.bk.f 4; have j5 := HXB.out.bk.f 5; have j6 := HXB.out.bk.f 6; have j7 := HXB.out.bk.f 7; have j8 := HXB.out.bk.f 8; have j9 := HXB.out.bk.f 9; have j10 := HXB.out.bk.f 10))
 have HKX := Hk.mk (Kt.put (B := V2.heap.size) HXB.out (by have := HNB.out; omega) xv)
 have HXB6 : Hk (Bx ((((((((((((World.setCell z ⟨(wb + 1), 0, none⟩ (.int .i64 xv.i)).setCell ⟨(wb + 1), 1, none⟩ (.int .i64 xv.n)).setCell ⟨(wb + 1), 2, none⟩ (.int .i64 xv.d)).setCell ⟨(wb + 1), 3, none⟩ (.int .i64 xv.t)).setCell ⟨(wb + 1), 4, none⟩ (.int .i64 xv.s)).setCell ⟨(wb + 1), 5, none⟩ (.slice xv.ma xv.mn xv.mc)).setCell ⟨(wb + 1), 6, none⟩ (.slice xv.la xv.ln xv.lc)).setCell ⟨(wb + 1), 7, none⟩ (.slice xv.ha xv.hn xv.hc)).setCell ⟨(wb + 1), 8, none⟩ (.slice xv.aa xv.an xv.ac)).setCell ⟨(wb + 1), 9, none⟩ (.slice xv.xa xv.xn xv.xc)).setCell ⟨(wb + 1), 10, none⟩ (.bool xv.b))) (wb + 1) xv) := ⟨HXB.out.put xv⟩
 have HWB6 : Hk (Bx ((((((((((((World.setCell z ⟨(wb + 1), 0, none⟩ (.int .i64 xv.i)).setCell ⟨(wb + 1), 1, none⟩ (.int .i64 xv.n)).setCell ⟨(wb + 1), 2, none⟩ (.int .i64 xv.d)).setCell ⟨(wb + 1), 3, none⟩ (.int .i64 xv.t)).setCell ⟨(wb + 1), 4, none⟩ (.int .i64 xv.s)).setCell ⟨(wb + 1), 5, none⟩ (.slice xv.ma xv.mn xv.mc)).setCell ⟨(wb + 1), 6, none⟩ (.slice xv.la xv.ln xv.lc)).setCell ⟨(wb + 1), 7, none⟩ (.slice xv.ha xv.hn xv.hc)).setCell ⟨(wb + 1), 8, none⟩ (.slice xv.aa xv.an xv.ac)).setCell ⟨(wb + 1), 9, none⟩ (.slice xv.xa xv.xn xv.xc)).setCell ⟨(wb + 1), 10, none⟩ (.bool xv.b))) wb wo) := ⟨HWB.out.fr (fr_put xv) (by omega)⟩
 have HV6 : Hk (Below V2.heap.size V2 ((((((((((((World.setCell z ⟨(wb + 1), 0, none⟩ (.int .i64 xv.i)).setCell ⟨(wb + 1), 1, none⟩ (.int .i64 xv.n)).setCell ⟨(wb + 1), 2, none⟩ (.int .i64 xv.d)).setCell ⟨(wb + 1), 3, none⟩ (.int .i64 xv.t)).setCell ⟨(wb + 1), 4, none⟩ (.int .i64 xv.s)).setCell ⟨(wb + 1), 5, none⟩ (.slice xv.ma xv.mn xv.mc)).setCell ⟨(wb + 1), 6, none⟩ (.slice xv.la xv.ln xv.lc)).setCell ⟨(wb + 1), 7, none⟩ (.slice xv.ha xv.hn xv.hc)).setCell ⟨(wb + 1), 8, none⟩ (.slice xv.aa xv.an xv.ac)).setCell ⟨(wb + 1), 9, none⟩ (.slice xv.xa xv.xn xv.xc)).setCell ⟨(wb + 1), 10, none⟩ (.bool xv.b)))) := ⟨HV.out.trans HKX.out.bl⟩
 have HO6 : Hk (OwC ((((((((((((World.setCell z ⟨(wb + 1), 0, none⟩ (.int .i64 xv.i)).setCell ⟨(wb + 1), 1, none⟩ (.int .i64 xv.n)).setCell ⟨(wb + 1), 2, none⟩ (.int .i64 xv.d)).setCell ⟨(wb + 1), 3, none⟩ (.int .i64 xv.t)).setCell ⟨(wb + 1), 4, none⟩ (.int .i64 xv.s)).setCell ⟨(wb + 1), 5, none⟩ (.slice xv.ma xv.mn xv.mc)).setCell ⟨(wb + 1), 6, none⟩ (.slice xv.la xv.ln xv.lc)).setCell ⟨(wb + 1), 7, none⟩ (.slice xv.ha xv.hn xv.hc)).setCell ⟨(wb + 1), 8, none⟩ (.slice xv.aa xv.an xv.ac)).setCell ⟨(wb + 1), 9, none⟩ (.slice xv.xa xv.xn xv.xc)).setCell ⟨(wb + 1), 10, none⟩ (.bool xv.b))) V2.heap.size (.slice ca q.ln cc) q.ln L) := ⟨HKX.out.owc HOC.out (by decide) (by decide)⟩
 clear HXB HWB HV HOC HKX
 clear y0 y1 y2 y3 y4 y5 y6 y7 y8 y9 y10 d0 d1 d2 d3 d4 d5 d6 d7 d8 d9 d10 a0 a1 a2 a3 a4 a5 a6 a7 a8 a9 a10 a11 yl dl al
 clear x0 x1 x2 x3 x4 x5 x6 x7 x8 x9 x10 xl
 clear j0 j1 j2 j3 j4 j5 j6 j7 j8 j9 j10
 generalize ((((((((((((World.setCell z ⟨(wb + 1), 0, none⟩ (.int .i64 xv.i)).setCell ⟨(wb + 1), 1, none⟩ (.int .i64 xv.n)).setCell ⟨(wb + 1), 2, none⟩ (.int .i64 xv.d)).setCell ⟨(wb + 1), 3, none⟩ (.int .i64 xv.t)).setCell ⟨(wb + 1), 4, none⟩ (.int .i64 xv.s)).setCell ⟨(wb + 1), 5, none⟩ (.slice xv.ma xv.mn xv.mc)).setCell ⟨(wb + 1), 6, none⟩ (.slice xv.la xv.ln xv.lc)).setCell ⟨(wb + 1), 7, none⟩ (.slice xv.ha xv.hn xv.hc)).setCell ⟨(wb + 1), 8, none⟩ (.slice xv.aa xv.an xv.ac)).setCell ⟨(wb + 1), 9, none⟩ (.slice xv.xa xv.xn xv.xc)).setCell ⟨(wb + 1), 10, none⟩ (.bool xv.b))) = V6a at *
 have HV := HV6
 have HOC := HO6
 clear HV6 HO6
 obtain ⟨y0, y1, y2, y3, y4, y5, y6, y7, y8, y9, y10, d0, d1, d2, d3, d4, d5, d6, d7, d8, d9, d10, a0, a1, a2, a3, a4, a5, a6, a7, a8, a9, a10, a11, yl, dl, al⟩ := HVF.out _ HV.out
 go_upto_region 51 with (first | (go_at_call 48; (with_reducible refine (eqcs_as true ca q.la q.ln q.ln cc q.lc L q.ll _ HOC.out.d (HQL.out _ (HTR.out _ HV.out)) HSC.out HSQ.out ⟨⟨fun _ => rfl, fun _ => HAC.out⟩⟩).mono ?_); rintro e z ⟨rfl, hb⟩; replace HOC := Hk.mk (HOC.out.below hb); have HW9 := Hk.mk (HWB6.out.below hb); have HX9 := Hk.mk (HXB6.out.below hb); clear HWB6 HXB6; have HWB6 := HW9; have HXB6 := HX9; clear HW9 HX9; have HV9 := Hk.mk (kw_step HV.out (Nat.le_refl _) hb); clear y0 y1 y2 y3 y4 y5 y6 y7 y8 y9 y10 d0 d1 d2 d3 d4 d5 d6 d7 d8 d9 d10 a0 a1 a2 a3 a4 a5 a6 a7 a8 a9 a10 a11 yl dl al; clear hb; replace HV := HV9; clear HV9; obtain ⟨y0, y1, y2, y3, y4, y5, y6, y7, y8, y9, y10, d0, d1, d2, d3, d4, d5, d6, d7, d8, d9, d10, a0, a1, a2, a3, a4, a5, a6, a7, a8, a9, a10, a11, yl, dl, al⟩ := HVF.out _ HV.out) | (go_at_call 40; (with_reducible refine (cmds_own V2.heap.size q.ln cc ca _ (HOC.out.shc HSC.out) HV.out.size).mono ?_); rintro e z ⟨rfl, hs⟩; have HW9 : Hk (Bx z wb wo) := ⟨⟨hs.ty _ _ _ _ HWB6.out.bl (by decide) (by decide)⟩⟩; have HX9 : Hk (Bx z (wb + 1) xv) := ⟨⟨hs.ty _ _ _ _ HXB6.out.bl (by decide) (by decide)⟩⟩; have HV9 := Hk.mk (HV.out.trans hs.bl); clear hs HOC HWB6 HXB6; have HWB6 := HW9; have HXB6 := HX9; clear HW9 HX9; clear y0 y1 y2 y3 y4 y5 y6 y7 y8 y9 y10 d0 d1 d2 d3 d4 d5 d6 d7 d8 d9 d10 a0 a1 a2 a3 a4 a5 a6 a7 a8 a9 a10 a11 yl dl al; replace HV := HV9; clear HV9; obtain ⟨y0, y1, y2, y3, y4, y5, y6, y7, y8, y9, y10, d0, d1, d2, d3, d4, d5, d6, d7, d8, d9, d10, a0, a1, a2, a3, a4, a5, a6, a7, a8, a9, a10, a11, yl, dl, al⟩ := HVF.out _ HV.out))
 generalize z = V6 at *
 have x0 := HWB6.out.bk.c 0; have x1 := HWB6.out.bk.c 1; have x2 := HWB6.out.bk.c 2; have x3 := HWB6.out.bk.c 3; have x4 := HWB6.out.bk.c 4; have x5 := HWB6.out.bk.c 5; have x6 := HWB6.out.bk.c 6; have x7 := HWB6.out.bk.c 7; have x8 := HWB6.out.bk.c 8; have x9 := HWB6.out.bk.c 9; have x10 := HWB6.out.bk.c 10; have xl := HWB6.out.lt; simp at x0 x1 x2 x3 x4 x5 x6 x7 x8 x9 x10
 have j0 := HWB6.out.bk.f 0; have j1 := HWB6.out.bk.f 1; have j2 := HWB6.out.bk.f 2; have j3 := HWB6.out.bk.f 3; have j4 := HWB6.out.bk.f 4; have j5 := HWB6.out.bk.f 5; have j6 := HWB6.out.bk.f 6; have j7 := HWB6.out.bk.f 7; have j8 := HWB6.out.bk.f 8; have j9 := HWB6.out.bk.f 9; have j10 := HWB6.out.bk.f 10
 go_upto_region 53 with fail
 obtain ⟨wv, hwv⟩ : ∃ x : Pv, x = nilV := ⟨_, rfl⟩
 have HWB7 : Hk (Bx ((((((((((((World.setCell V6 ⟨wb, 0, none⟩ (.int .i64 0)).setCell ⟨wb, 1, none⟩ (.int .i64 0)).setCell ⟨wb, 2, none⟩ (.int .i64 0)).setCell ⟨wb, 3, none⟩ (.int .i64 0)).setCell ⟨wb, 4, none⟩ (.int .i64 0)).setCell ⟨wb, 5, none⟩ (.slice none 0 0)).setCell ⟨wb, 6, none⟩ (.slice none 0 0)).setCell ⟨wb, 7, none⟩ (.slice none 0 0)).setCell ⟨wb, 8, none⟩ (.slice none 0 0)).setCell ⟨wb, 9, none⟩ (.slice none 0 0)).setCell ⟨wb, 10, none⟩ (.bool false))) wb wv) := ⟨by rw [hwv]; exact HWB6.out.put nilV⟩
 have HXB7 : Hk (Bx ((((((((((((World.setCell V6 ⟨wb, 0, none⟩ (.int .i64 0)).setCell ⟨wb, 1, none⟩ (.int .i64 0)).setCell ⟨wb, 2, none⟩ (.int .i64 0)).setCell ⟨wb, 3, none⟩ (.int .i64 0)).setCell ⟨wb, 4, none⟩ (.int .i64 0)).setCell ⟨wb, 5, none⟩ (.slice none 0 0)).setCell ⟨wb, 6, none⟩ (.slice none 0 0)).setCell ⟨wb, 7, none⟩ (.slice none 0 0)).setCell ⟨wb, 8, none⟩ (.slice none 0 0)).setCell ⟨wb, 9, none⟩ (.slice none 0 0)).setCell ⟨wb, 10, none⟩ (.bool false))) (wb + 1) xv) := ⟨HXB6.out.fr (show Fr (fun j => j = wb) V6 ((((((((((((World.setCell V6 ⟨wb, 0, none⟩ (.int .i64 0)).setCell ⟨wb, 1, none⟩ (.int .i64 0)).setCell ⟨wb, 2, none⟩ (.int .i64 0)).setCell ⟨wb, 3, none⟩ (.int .i64 0)).setCell ⟨wb, 4, none⟩ (.int .i64 0)).setCell ⟨wb, 5, none⟩ (.slice none 0 0)).setCell ⟨wb, 6, none⟩ (.slice none 0 0)).setCell ⟨wb, 7, none⟩ (.slice none 0 0)).setCell ⟨wb, 8, none⟩ (.slice none 0 0)).setCell ⟨wb, 9, none⟩ (.slice none 0 0)).setCell ⟨wb, 10, none⟩ (.bool false))) from fr_put nilV) (by omega)⟩
 have HV7 : Hk (Below V2.heap.size V2 ((((((((((((World.setCell V6 ⟨wb, 0, none⟩ (.int .i64 0)).setCell ⟨wb, 1, none⟩ (.int .i64 0)).setCell ⟨wb, 2, none⟩ (.int .i64 0)).setCell ⟨wb, 3, none⟩ (.int .i64 0)).setCell ⟨wb, 4, none⟩ (.int .i64 0)).setCell ⟨wb, 5, none⟩ (.slice none 0 0)).setCell ⟨wb, 6, none⟩ (.slice none 0 0)).setCell ⟨wb, 7, none⟩ (.slice none 0 0)).setCell ⟨wb, 8, none⟩ (.slice none 0 0)).setCell ⟨wb, 9, none⟩ (.slice none 0 0)).setCell ⟨wb, 10, none⟩ (.bool false)))) := ⟨HV.out.trans (show Below V2.heap.size V6 ((((((((((((World.setCell V6 ⟨wb, 0, none⟩ (.int .i64 0)).setCell ⟨wb, 1, none⟩ (.int .i64 0)).setCell ⟨wb, 2, none⟩ (.int .i64 0)).setCell ⟨wb, 3, none⟩ (.int .i64 0)).setCell ⟨wb, 4, none⟩ (.int .i64 0)).setCell ⟨wb, 5, none⟩ (.slice none 0 0)).setCell ⟨wb, 6, none⟩ (.slice none 0 0)).setCell ⟨wb, 7, none⟩ (.slice none 0 0)).setCell ⟨wb, 8, none⟩ (.slice none 0 0)).setCell ⟨wb, 9, none⟩ (.slice none 0 0)).setCell ⟨wb, 10, none⟩ (.bool false))) from (Kt.put (B := V2.heap.size) HWB6.out HNB.out nilV).bl)⟩
 have HDX : Hk (∀ X : World, PvD X X.heap.size xv) := ⟨fun X => by rw [HXV.out]; exact nil_d X⟩
 have HOX : Hk (∀ X : World, PvO X X.heap.size xv) := ⟨fun X => by rw [HXV.out]; exact nil_o X _⟩
 have HDW : Hk (∀ X : World, PvD X X.heap.size wv) := ⟨fun X => by rw [hwv]; exact nil_d X⟩
 have HSX : Hk (PvS xv) := ⟨by rw [HXV.out]; exact nil_s⟩
 have HSW : Hk (PvS wv) := ⟨by rw [hwv]; exact nil_s⟩
 have HXE : Hk (xv.ab = wv.ab) := ⟨by rw [HXV.out, hwv]⟩
 clear HXV
 clear HV HXB6 HWB6 hwv
 clear y0 y1 y2 y3 y4 y5 y6 y7 y8 y9 y10 d0 d1 d2 d3 d4 d5 d6 d7 d8 d9 d10 a0 a1 a2 a3 a4 a5 a6 a7 a8 a9 a10 a11 yl dl al
 clear x0 x1 x2 x3 x4 x5 x6 x7 x8 x9 x10 xl
 clear j0 j1 j2 j3 j4 j5 j6 j7 j8 j9 j10
 generalize ((((((((((((World.setCell V6 ⟨wb, 0, none⟩ (.int .i64 0)).setCell ⟨wb, 1, none⟩ (.int .i64 0)).setCell ⟨wb, 2, none⟩ (.int .i64 0)).setCell ⟨wb, 3, none⟩ (.int .i64 0)).setCell ⟨wb, 4, none⟩ (.int .i64 0)).setCell ⟨wb, 5, none⟩ (.slice none 0 0)).setCell ⟨wb, 6, none⟩ (.slice none 0 0)).setCell ⟨wb, 7, none⟩ (.slice none 0 0)).setCell ⟨wb, 8, none⟩ (.slice none 0 0)).setCell ⟨wb, 9, none⟩ (.slice none 0 0)).setCell ⟨wb, 10, none⟩ (.bool false))) = V7 at *
 have HV := HV7
 have HWB := HWB7
 have HXB := HXB7
 clear HV7 HWB7 HXB7
 obtain ⟨y0, y1, y2, y3, y4, y5, y6, y7, y8, y9, y10, d0, d1, d2, d3, d4, d5, d6, d7, d8, d9, d10, a0, a1, a2, a3, a4, a5, a6, a7, a8, a9, a10, a11, yl, dl, al⟩ := HVF.out _ HV.out
 have x0 := HWB.out.bk.c 0; have x1 := HWB.out.bk.c 1; have x2 := HWB.out.bk.c 2; have x3 := HWB.out.bk.c 3; have x4 := HWB.out.bk.c 4; have x5 := HWB.out.bk.c 5; have x6 := HWB.out.bk.c 6; have x7 := HWB.out.bk.c 7; have x8 := HWB.out.bk.c 8; have x9 := HWB.out.bk.c 9; have x10 := HWB.out.bk.c 10; have xl := HWB.out.lt; simp at x0 x1 x2 x3 x4 x5 x6 x7 x8 x9 x10
 have j0 := HXB.out.bk.c 0; have j1 := HXB.out.bk.c 1; have j2 := HXB.out.bk.c 2; have j3 := HXB.out.bk.c 3; have j4 := HXB.out.bk.c 4; have j5 := HXB.out.bk.c 5; have j6 := HXB.out.bk.c 6; have j7 := HXB.out.bk.c 7; have j8 := HXB.out.bk.c 8; have j9 := HXB.out.bk.c 9; have j10 := HXB.out.bk.c 10; have jl := HXB.out.lt; simp at j0 j1 j2 j3 j4 j5 j6 j7 j8 j9 j10
 go_upto_region 56 with (first | (go_at_call 13; (with_reducible refine (num28_any _ _).mono ?_); rintro e z9 ⟨rfl, hz⟩; rw [hz]; clear hz z9) | (go_at_call 44; (with_reducible refine (eqp_as true xv wv _ (HDX.out _) (HDW.out _) HSX.out HSW.out ⟨⟨fun _ => rfl, fun _ => HXE.out⟩⟩).mono ?_); rintro e z ⟨rfl, hb⟩; have HWB9 := Hk.mk (HWB.out.below hb); have HXB9 := Hk.mk (HXB.out.below hb); clear HWB HXB; have HWB := HWB9; have HXB := HXB9; clear HWB9 HXB9; clear x0 x1 x2 x3 x4 x5 x6 x7 x8 x9 x10 xl; clear j0 j1 j2 j3 j4 j5 j6 j7 j8 j9 j10 jl; have HV9 := Hk.mk (kw_step HV.out (Nat.le_refl _) hb); clear y0 y1 y2 y3 y4 y5 y6 y7 y8 y9 y10 d0 d1 d2 d3 d4 d5 d6 d7 d8 d9 d10 a0 a1 a2 a3 a4 a5 a6 a7 a8 a9 a10 a11 yl dl al; clear hb; replace HV := HV9; clear HV9; obtain ⟨y0, y1, y2, y3, y4, y5, y6, y7, y8, y9, y10, d0, d1, d2, d3, d4, d5, d6, d7, d8, d9, d10, a0, a1, a2, a3, a4, a5, a6, a7, a8, a9, a10, a11, yl, dl, al⟩ := HVF.out _ HV.out; have x0 := HWB.out.bk.c 0; have x1 := HWB.out.bk.c 1; have x2 := HWB.out.bk.c 2; have x3 := HWB.out.bk.c 3; have x4 := HWB.out.bk.c 4; have x5 := HWB.out.bk.c 5; have x6 := HWB.out.bk.c 6; have x7 := HWB.out.bk.c 7; have x8 := HWB.out.bk.c 8; have x9 := HWB.out.bk.c 9; have x10 := HWB.out.bk.c 10; have xl := HWB.out.lt; simp at x0 x1 x2 x3 x4 x5 x6 x7 x8 x9 x10; have j0 := HXB.out.bk.c 0; have j1 := HXB.out.bk.c 1; have j2 := HXB.out.bk.c 2; have j3 := HXB.out.bk.c 3; have j4 := HXB.out.bk.c 4; have j5 := HXB.out.bk.c 5; have j6 := HXB.out.bk.c 6; have j7 := HXB.out.bk.c 7; have j8 := HXB.out.bk.c 8; have j9 := HXB.out.bk.c 9; have j10 := HXB.out.bk.c 10; have jl := HXB.out.lt; simp at j0 j1 j2 j3 j4 j5 j6 j7 j8 j9 j10) | (go_at_call 44; (with_reducible refine (eqp_as true u p _ (HDU.out _ HV.out) (HDP.out _ (HTR.out _ HV.out)) HSU.out HS.out ⟨⟨fun _ => rfl, fun _ => HAU.out⟩⟩).mono ?_); rintro e z ⟨rfl, hb⟩; have HWB9 := Hk.mk (HWB.out.below hb); have HXB9 := Hk.mk (HXB.out.below hb); clear HWB HXB; have HWB := HWB9; have HXB := HXB9; clear HWB9 HXB9; clear x0 x1 x2 x3 x4 x5 x6 x7 x8 x9 x10 xl; clear j0 j1 j2 j3 j4 j5 j6 j7 j8 j9 j10 jl; have HV9 := Hk.mk (kw_step HV.out (Nat.le_refl _) hb); clear y0 y1 y2 y3 y4 y5 y6 y7 y8 y9 y10 d0 d1 d2 d3 d4 d5 d6 d7 d8 d9 d10 a0 a1 a2 a3 a4 a5 a6 a7 a8 a9 a10 a11 yl dl al; clear hb; replace HV := HV9; clear HV9; obtain ⟨y0, y1, y2, y3, y4, y5, y6, y7, y8, y9, y10, d0, d1, d2, d3, d4, d5, d6, d7, d8, d9, d10, a0, a1, a2, a3, a4, a5, a6, a7, a8, a9, a10, a11, yl, dl, al⟩ := HVF.out _ HV.out; have x0 := HWB.out.bk.c 0; have x1 := HWB.out.bk.c 1; have x2 := HWB.out.bk.c 2; have x3 := HWB.out.bk.c 3; have x4 := HWB.out.bk.c 4; have x5 := HWB.out.bk.c 5; have x6 := HWB.out.bk.c 6; have x7 := HWB.out.bk.c 7; have x8 := HWB.out.bk.c 8; have x9 := HWB.out.bk.c 9; have x10 := HWB.out.bk.c 10; have xl := HWB.out.lt; simp at x0 x1 x2 x3 x4 x5 x6 x7 x8 x9 x10; have j0 := HXB.out.bk.c 0; have j1 := HXB.out.bk.c 1; have j2 := HXB.out.bk.c 2; have j3 := HXB.out.bk.c 3; have j4 := HXB.out.bk.c 4; have j5 := HXB.out.bk.c 5; have j6 := HXB.out.bk.c 6; have j7 := HXB.out.bk.c 7; have j8 := HXB.out.bk.c 8; have j9 := HXB.out.bk.c 9; have j10 := HXB.out.bk.c 10; have jl := HXB.out.lt; simp at j0 j1 j2 j3 j4 j5 j6 j7 j8 j9 j10) | (go_at_call 52; (with_reducible refine (spoilp_any _ xv _ (HOX.out _) HSX.out (Nat.le_refl _)).mono ?_); rintro e z ⟨rfl, hb⟩; have HWB9 := Hk.mk (HWB.out.below hb); have HXB9 := Hk.mk (HXB.out.below hb); clear HWB HXB; have HWB := HWB9; have HXB := HXB9; clear HWB9 HXB9; clear x0 x1 x2 x3 x4 x5 x6 x7 x8 x9 x10 xl; clear j0 j1 j2 j3 j4 j5 j6 j7 j8 j9 j10 jl; have HV9 := Hk.mk (kw_step HV.out (Nat.le_refl _) hb); clear y0 y1 y2 y3 y4 y5 y6 y7 y8 y9 y10 d0 d1 d2 d3 d4 d5 d6 d7 d8 d9 d10 a0 a1 a2 a3 a4 a5 a6 a7 a8 a9 a10 a11 yl dl al; clear hb; replace HV := HV9; clear HV9; obtain ⟨y0, y1, y2, y3, y4, y5, y6, y7, y8, y9, y10, d0, d1, d2, d3, d4, d5, d6, d7, d8, d9, d10, a0, a1, a2, a3, a4, a5, a6, a7, a8, a9, a10, a11, yl, dl, al⟩ := HVF.out _ HV.out; have x0 := HWB.out.bk.c 0; have x1 := HWB.out.bk.c 1; have x2 := HWB.out.bk.c 2; have x3 := HWB.out.bk.c 3; have x4 := HWB.out.bk.c 4; have x5 := HWB.out.bk.c 5; have x6 := HWB.out.bk.c 6; have x7 := HWB.out.bk.c 7; have x8 := HWB.out.bk.c 8; have x9 := HWB.out.bk.c 9; have x10 := HWB.out.bk.c 10; have xl := HWB.out.lt; simp at x0 x1 x2 x3 x4 x5 x6 x7 x8 x9 x10; have j0 := HXB.out.bk.c 0; have j1 := HXB.out.bk.c 1; have j2 := HXB.out.bk.c 2; have j3 := HXB.out.bk.c 3; have j4 := HXB.out.bk.c 4; have j5 := HXB.out.bk.c 5; have j6 := HXB.out.bk.c 6; have j7 := HXB.out.bk.c 7; have j8 := HXB.out.bk.c 8; have j9 := HXB.out.bk.c 9; have j10 := HXB.out.bk.c 10; have jl := HXB.out.lt; simp at j0 j1 j2 j3 j4 j5 j6 j7 j8 j9 j10))
 clear x0 x1 x2 x3 x4 x5 x6 x7 x8 x9 x10 xl
 clear j0 j1 j2 j3 j4 j5 j6 j7 j8 j9 j10 jl
 have HR4 : Hk (Bk z (w.heap.size + 2) jjZ) := ⟨HR2.out.below HV.out⟩
 have HRB : Hk (Bx z (w.heap.size + 2) nilV) := ⟨HRX.out.below HV.out⟩
 have HRP := Hk.mk (Kt.put (B := w.heap.size) HRB.out (by omega) p)
 have HB4 := Hk.mk (HTR.out _ HV.out)
 have m0 := HR4.out.c 0; have k0 := HR4.out.f 0; have m1 := HR4.out.c 1; have k1 := HR4.out.f 1; have m2 := HR4.out.c 2; have k2 := HR4.out.f 2; have m3 := HR4.out.c 3; have k3 := HR4.out.f 3; have m4 := HR4.out.c 4; have k4 := HR4.out.f 4; have m5 := HR4.out.c 5; have k5 := HR4.out.f 5; have m6 := HR4.out.c 6; have k6 := HR4.out.f 6; have m7 := HR4.out.c 7; have k7 := HR4.out.f 7; have m8 := HR4.out.c 8; have k8 := HR4.out.f 8; have m9 := HR4.out.c 9; have k9 := HR4.out.f 9; have m10 := HR4.out.c 10; have k10 := HR4.out.f 10; simp at m0 m1 m2 m3 m4 m5 m6 m7 m8 m9 m10
 go_wp2_with fail
 refine bodyPost_ret (v := .tuple #[.agg (jjP p), .bool true]) (by simp [results, Tryz.results15, go_sem, m0, m1, m2, m3, m4, m5, m6, m7, m8, m9, m10, k0, k1, k2, k3, k4, k5, k6, k7, k8, k9, k10]) rfl ⟨⟨p, rfl⟩, HB4.out.trans HRP.out.bl⟩
set_option maxRecDepth 100000 in
set_option maxHeartbeats 3200000 in
theorem step0_form (p : Pv) (q : Av) (w : World) (hw : (∀ w, Calls Tryz.prog 18 #[.int .i64 q.o, .int .i64 9] w fun e w' => e = .returned (.int .i64 0) ∧ ∃ m, w' = w.drewN m)) (h : PvD w w.heap.size p) (hs : PvS p) (hk : OkP p.ab) (hq : AvD w w.heap.size q) (hsq : SmC q.ll) (E : ¬ (p.s = p.t + p.d - 1 ∨ p.s = 1099511627776)) (EM : okN (sayI p.ab (abC q.ll)) = false) :
  Calls Tryz.prog 15 #[.agg (jjP p), .agg (jjQ q)] w fun e z => (∃ u : Pv, e = .returned (.tuple #[.agg (jjP u), .bool true])) ∧ Below w.heap.size w z := by
 have HWI := Hk.mk hw
 have HOK := Hk.mk hk
 have HE := Hk.mk E
 have HM := Hk.mk EM
 have HSQ := Hk.mk hsq
 have HQL : Hk (∀ X, Below w.heap.size w X → CmD X X.heap.size q.la q.ln q.ll) := ⟨fun X hX => hq.l.later hX⟩
 clear hw hsq hq hk E EM
 have HBW : Hk (Below w.heap.size w (((w.alloc (.cells (jjP p) 26)).alloc (.cells (jjQ q) 45)).alloc (.cells jjZ 26))) := ⟨(((Below.refl _ _).alloc (Nat.le_refl _) _).alloc (by simp) _).alloc (by simp <;> omega) _⟩
 have e1 : (w.alloc (.cells (jjP p) 26)).heap.size = w.heap.size + 1 := by simp
 have e2 : ((w.alloc (.cells (jjP p) 26)).alloc (.cells (jjQ q) 45)).heap.size = w.heap.size + 2 := by simp
 have HPB : Hk (Bk (((w.alloc (.cells (jjP p) 26)).alloc (.cells (jjQ q) 45)).alloc (.cells jjZ 26)) w.heap.size (jjP p)) := ⟨((Bk.new w (jjP p) 26).al _).al _⟩
 have HAB : Hk (Bk (((w.alloc (.cells (jjP p) 26)).alloc (.cells (jjQ q) 45)).alloc (.cells jjZ 26)) (w.heap.size + 1) (jjQ q)) := ⟨by rw [← e1]; exact (Bk.new (w.alloc (.cells (jjP p) 26)) (jjQ q) 45).al _⟩
 have HRB : Hk (Bk (((w.alloc (.cells (jjP p) 26)).alloc (.cells (jjQ q) 45)).alloc (.cells jjZ 26)) (w.heap.size + 2) jjZ) := ⟨by rw [← e2]; exact Bk.new ((w.alloc (.cells (jjP p) 26)).alloc (.cells (jjQ q) 45)) jjZ 26⟩
 have HRBX : Hk (Bx (((w.alloc (.cells (jjP p) 26)).alloc (.cells (jjQ q) 45)).alloc (.cells jjZ 26)) (w.heap.size + 2) nilV) := ⟨by rw [← e2]; exact Bx.new ((w.alloc (.cells (jjP p) 26)).alloc (.cells (jjQ q) 45)) nilV⟩
 have HDP : Hk (∀ X, Below w.heap.size w X → PvD X X.heap.size p) := ⟨fun X hX => h.later hX⟩
 have HS := Hk.mk hs
 clear e1 e2 h hs
 go_enter Tryz.func15, Tryz.ntmps15
 go_upto_region 1 with fail
 generalize (((w.alloc (.cells (jjP p) 26)).alloc (.cells (jjQ q) 45)).alloc (.cells jjZ 26)) = V at *
 have c0 := HPB.out.c 0; have c1 := HPB.out.c 1; have c2 := HPB.out.c 2; have c3 := HPB.out.c 3; have c4 := HPB.out.c 4; have c5 := HPB.out.c 5; have c6 := HPB.out.c 6; have c7 := HPB.out.c 7; have c8 := HPB.out.c 8; have c9 := HPB.out.c 9; have c10 := HPB.out.c 10; have cl := HPB.out.lt; simp at c0 c1 c2 c3 c4 c5 c6 c7 c8 c9 c10
 go_upto_region 2 with (go_at_call 11; (with_reducible refine (copyp_any p _ (HDP.out _ HBW.out) HS.out).mono ?_); rintro e z ⟨u, rfl, ho, hab, g1, g2, g3, g4, g5, hb⟩; have HO := Hk.mk ho; have HAU := Hk.mk hab; have HSU := Hk.mk (HS.out.like (HDP.out _ HBW.out) ho.d hab g1 g2 g3 g4 g5); have HB2 := Hk.mk hb; clear ho hab g1 g2 g3 g4 g5 hb)
 clear c0 c1 c2 c3 c4 c5 c6 c7 c8 c9 c10 cl
 have HO2 : Hk (PvO (z.alloc (.cells (jjP u) 26)) V.heap.size u) := ⟨HO.out.below ((Below.refl _ _).alloc (Nat.le_refl _) _)⟩
 have HP2 : Hk (Bk (z.alloc (.cells (jjP u) 26)) w.heap.size (jjP p)) := ⟨(HPB.out.below HB2.out).al _⟩
 have HA2 : Hk (Bk (z.alloc (.cells (jjP u) 26)) (w.heap.size + 1) (jjQ q)) := ⟨(HAB.out.below HB2.out).al _⟩
 have HR2 : Hk (Bk (z.alloc (.cells (jjP u) 26)) (w.heap.size + 2) jjZ) := ⟨(HRB.out.below HB2.out).al _⟩
 have HRX : Hk (Bx (z.alloc (.cells (jjP u) 26)) (w.heap.size + 2) nilV) := ⟨(HRBX.out.below HB2.out).al _⟩
 have HQ2 : Hk (Bk (z.alloc (.cells (jjP u) 26)) z.heap.size (jjP u)) := ⟨Bk.new z (jjP u) 26⟩
 have HBV : Hk (Below w.heap.size w (z.alloc (.cells (jjP u) 26))) := ⟨kw_al (HBW.out.trans (HB2.out.mono HBW.out.size)) (Nat.le_refl _) _⟩
 have HRV : Hk ((w.heap.size + 2) < V.heap.size) := ⟨HRB.out.lt⟩
 have NPR : ¬ w.heap.size = (w.heap.size + 2) := by omega
 have NQR : ¬ z.heap.size = (w.heap.size + 2) := by have h1 := HRB.out.lt; have h2 := HB2.out.size; omega
 clear HO HB2 HPB HAB HRB HRBX HBW
 generalize V.heap.size = B0 at *
 generalize z.heap.size = Q at *
 generalize (z.alloc (.cells (jjP u) 26)) = V2 at *
 have HVF : Hk (∀ X, Below V2.heap.size V2 X → X.cell? ⟨w.heap.size, 0, none⟩ = some (.int .i64 p.i) ∧ X.cell? ⟨w.heap.size, 1, none⟩ = some (.int .i64 p.n) ∧ X.cell? ⟨w.heap.size, 2, none⟩ = some (.int .i64 p.d) ∧ X.cell? ⟨w.heap.size, 3, none⟩ = some (.int .i64 p.t) ∧ X.cell? ⟨w.heap.size, 4, none⟩ = some (.int .i64 p.s) ∧ X.cell? ⟨w.heap.size, 5, none⟩ = some (.slice p.ma p.mn p.mc) ∧ X.cell? ⟨w.heap.size, 6, none⟩ = some (.slice p.la p.ln p.lc) ∧ X.cell? ⟨w.heap.size, 7, none⟩ = some (.slice p.ha p.hn p.hc) ∧ X.cell? ⟨w.heap.size, 8, none⟩ = some (.slice p.aa p.an p.ac) ∧ X.cell? ⟨w.heap.size, 9, none⟩ = some (.slice p.xa p.xn p.xc) ∧ X.cell? ⟨w.heap.size, 10, none⟩ = some (.bool p.b) ∧ X.cell? ⟨Q, 0, none⟩ = some (.int .i64 u.i) ∧ X.cell? ⟨Q, 1, none⟩ = some (.int .i64 u.n) ∧ X.cell? ⟨Q, 2, none⟩ = some (.int .i64 u.d) ∧ X.cell? ⟨Q, 3, none⟩ = some (.int .i64 u.t) ∧ X.cell? ⟨Q, 4, none⟩ = some (.int .i64 u.s) ∧ X.cell? ⟨Q, 5, none⟩ = some (.slice u.ma u.mn u.mc) ∧ X.cell? ⟨Q, 6, none⟩ = some (.slice u.la u.ln u.lc) ∧ X.cell? ⟨Q, 7, none⟩ = some (.slice u.ha u.hn u.hc) ∧ X.cell? ⟨Q, 8, none⟩ = some (.slice u.aa u.an u.ac) ∧ X.cell? ⟨Q, 9, none⟩ = some (.slice u.xa u.xn u.xc) ∧ X.cell? ⟨Q, 10, none⟩ = some (.bool u.b) ∧ X.cell? ⟨w.heap.size + 1, 0, none⟩ = some (.int .i64 q.o) ∧ X.cell? ⟨w.heap.size + 1, 1, none⟩ = some (.slice q.la q.ln q.lc) ∧ X.cell? ⟨w.heap.size + 1, 2, none⟩ = some (.int .i64 q.e.f) ∧ X.cell? ⟨w.heap.size + 1, 3, none⟩ = some (.int .i64 q.e.t) ∧ X.cell? ⟨w.heap.size + 1, 4, none⟩ = some (.int .i64 q.e.q.t) ∧ X.cell? ⟨w.heap.size + 1, 5, none⟩ = some (.int .i64 q.e.q.p) ∧ X.cell? ⟨w.heap.size + 1, 6, none⟩ = some (.slice q.e.q.a q.e.q.n q.e.q.c) ∧ X.cell? ⟨w.heap.size + 1, 7, none⟩ = some (.int .i64 q.e.d) ∧ X.cell? ⟨w.heap.size + 1, 8, none⟩ = some (.int .u64 q.e.h) ∧ X.cell? ⟨w.heap.size + 1, 9, none⟩ = some (.int .i64 q.e.v) ∧ X.cell? ⟨w.heap.size + 1, 10, none⟩ = some (.bool q.b) ∧ X.cell? ⟨w.heap.size + 1, 11, none⟩ = some (.int .u64 q.h) ∧ w.heap.size < X.heap.size ∧ Q < X.heap.size ∧ w.heap.size + 1 < X.heap.size) := ⟨fun X hX => by
  have hp := HP2.out.below hX
  have hu := HQ2.out.below hX
  have ha := HA2.out.below hX
  exact ⟨hp.c 0, hp.c 1, hp.c 2, hp.c 3, hp.c 4, hp.c 5, hp.c 6, hp.c 7, hp.c 8, hp.c 9, hp.c 10, hu.c 0, hu.c 1, hu.c 2, hu.c 3, hu.c 4, hu.c 5, hu.c 6, hu.c 7, hu.c 8, hu.c 9, hu.c 10, ha.c 0, ha.c 1, ha.c 2, ha.c 3, ha.c 4, ha.c 5, ha.c 6, ha.c 7, ha.c 8, ha.c 9, ha.c 10, ha.c 11, hp.lt, hu.lt, ha.lt⟩⟩
 have HTR : Hk (∀ X, Below V2.heap.size V2 X → Below w.heap.size w X) := ⟨fun X hX => HBV.out.trans (hX.mono HBV.out.size)⟩
 have HDU : Hk (∀ X, Below V2.heap.size V2 X → PvD X X.heap.size u) := ⟨fun X hX => (HO2.out.below hX).d⟩
 have HV : Hk (Below V2.heap.size V2 V2) := ⟨Below.refl _ _⟩
 clear HP2 HA2 HQ2 HBV
 obtain ⟨y0, y1, y2, y3, y4, y5, y6, y7, y8, y9, y10, d0, d1, d2, d3, d4, d5, d6, d7, d8, d9, d10, a0, a1, a2, a3, a4, a5, a6, a7, a8, a9, a10, a11, yl, dl, al⟩ := HVF.out _ HV.out
 have HKU : Hk (OkP u.ab) := ⟨by rw [HAU.out]; exact HOK.out⟩
 have HEU : Hk (¬ (u.s = u.t + u.d - 1 ∨ u.s = 1099511627776)) := ⟨by obtain ⟨-, -, b3, b4, b5, -⟩ := (ab_iff u p).1 HAU.out; rw [b3, b4, b5]; exact HE.out⟩
 go_upto_region 3 with (go_at_call 12; (with_reducible refine (rpeer_as true p _ (HDP.out _ (HTR.out _ HV.out)) HS.out ⟨⟨fun _ => rfl, fun _ => HOK.out⟩⟩).mono ?_); rintro e z ⟨rfl, hb⟩; have HV9 := Hk.mk (kw_step HV.out (Nat.le_refl _) hb); clear y0 y1 y2 y3 y4 y5 y6 y7 y8 y9 y10 d0 d1 d2 d3 d4 d5 d6 d7 d8 d9 d10 a0 a1 a2 a3 a4 a5 a6 a7 a8 a9 a10 a11 yl dl al; clear hb; replace HV := HV9; clear HV9; obtain ⟨y0, y1, y2, y3, y4, y5, y6, y7, y8, y9, y10, d0, d1, d2, d3, d4, d5, d6, d7, d8, d9, d10, a0, a1, a2, a3, a4, a5, a6, a7, a8, a9, a10, a11, yl, dl, al⟩ := HVF.out _ HV.out)
 go_upto_region 6 with fail
 have HV9 : Hk (Below V2.heap.size V2 ((z.alloc (.cells jjZ 26)).alloc (.cells jjZ 26))) := ⟨kw_al (kw_al HV.out (Nat.le_refl _) _) (Nat.le_refl _) _⟩
 have HWB : Hk (Bx ((z.alloc (.cells jjZ 26)).alloc (.cells jjZ 26)) z.heap.size nilV) := ⟨(Bx.new z nilV).al _⟩
 have e9 : (z.alloc (.cells jjZ 26)).heap.size = z.heap.size + 1 := by simp
 have HXB : Hk (Bx ((z.alloc (.cells jjZ 26)).alloc (.cells jjZ 26)) (z.heap.size + 1) nilV) := ⟨by rw [← e9]; exact Bx.new (z.alloc (.cells jjZ 26)) nilV⟩
 have HNB : Hk (V2.heap.size ≤ z.heap.size) := ⟨HV.out.size⟩
 have HRW : Hk (¬ (w.heap.size + 2) = z.heap.size ∧ ¬ (w.heap.size + 2) = z.heap.size + 1) := ⟨by have h1 := HR2.out.lt; have h2 := HV.out.size; omega⟩
 clear e9
 clear y0 y1 y2 y3 y4 y5 y6 y7 y8 y9 y10 d0 d1 d2 d3 d4 d5 d6 d7 d8 d9 d10 a0 a1 a2 a3 a4 a5 a6 a7 a8 a9 a10 a11 yl dl al
 replace HV := HV9
 clear HV9
 generalize z.heap.size = wb at *
 generalize ((z.alloc (.cells jjZ 26)).alloc (.cells jjZ 26)) = V3 at *
 obtain ⟨y0, y1, y2, y3, y4, y5, y6, y7, y8, y9, y10, d0, d1, d2, d3, d4, d5, d6, d7, d8, d9, d10, a0, a1, a2, a3, a4, a5, a6, a7, a8, a9, a10, a11, yl, dl, al⟩ := HVF.out _ HV.out
 go_upto_region 9 with (first | (go_at_call 18; (with_reducible refine (HWI.out _).mono ?_); rintro e z ⟨rfl, hz⟩; have hb := below_m hz; clear hz; have HWB9 := Hk.mk (HWB.out.below hb); have HXB9 := Hk.mk (HXB.out.below hb); clear HWB HXB; have HWB := HWB9; have HXB := HXB9; clear HWB9 HXB9; have HV9 := Hk.mk (kw_step HV.out (Nat.le_refl _) hb); clear y0 y1 y2 y3 y4 y5 y6 y7 y8 y9 y10 d0 d1 d2 d3 d4 d5 d6 d7 d8 d9 d10 a0 a1 a2 a3 a4 a5 a6 a7 a8 a9 a10 a11 yl dl al; clear hb; replace HV := HV9; clear HV9; obtain ⟨y0, y1, y2, y3, y4, y5, y6, y7, y8, y9, y10, d0, d1, d2, d3, d4, d5, d6, d7, d8, d9, d10, a0, a1, a2, a3, a4, a5, a6, a7, a8, a9, a10, a11, yl, dl, al⟩ := HVF.out _ HV.out) | (go_at_call 50; (with_reducible refine (rsay_formv p q.la q.ln q.lc q.ll _ (HDP.out _ (HTR.out _ HV.out)) HS.out HOK.out (HQL.out _ (HTR.out _ HV.out)) HSQ.out HE.out HM.out).mono ?_); rintro e z ⟨wo, rfl, hwo, hb⟩; have HWB9 := Hk.mk (HWB.out.below hb); have HXB9 := Hk.mk (HXB.out.below hb); clear HWB HXB; have HWB := HWB9; have HXB := HXB9; clear HWB9 HXB9; have HV9 := Hk.mk (kw_step HV.out (Nat.le_refl _) hb); clear y0 y1 y2 y3 y4 y5 y6 y7 y8 y9 y10 d0 d1 d2 d3 d4 d5 d6 d7 d8 d9 d10 a0 a1 a2 a3 a4 a5 a6 a7 a8 a9 a10 a11 yl dl al; clear hb; replace HV := HV9; clear HV9; obtain ⟨y0, y1, y2, y3, y4, y5, y6, y7, y8, y9, y10, d0, d1, d2, d3, d4, d5, d6, d7, d8, d9, d10, a0, a1, a2, a3, a4, a5, a6, a7, a8, a9, a10, a11, yl, dl, al⟩ := HVF.out _ HV.out; clear hwo; have x0 := HWB.out.bk.c 0; have x1 := HWB.out.bk.c 1; have x2 := HWB.out.bk.c 2; have x3 := HWB.out.bk.c 3; have x4 := HWB.out.bk.c 4; have x5 := HWB.out.bk.c 5; have x6 := HWB.out.bk.c 6; have x7 := HWB.out.bk.c 7; have x8 := HWB.out.bk.c 8; have x9 := HWB.out.bk.c 9; have x10 := HWB.out.bk.c 10; have xl := HWB.out.lt; simp at x0 x1 x2 x3 x4 x5 x6 x7 x8 x9 x10; have j0 := HWB.out.bk.f 0; have j1 := HWB.out.bk.f 1; have j2 := HWB.out.bk.f 2; have j3 := HWB.out.bk.f 3; have j4 := HWB.out.bk.f 4; have j5 := HWB.out.bk.f 5; have j6 := HWB.out.bk.f 6; have j7 := HWB.out.bk.f 7; have j8 := HWB.out.bk.f 8; have j9 := HWB.out.bk.f 9; have j10 := HWB.out.bk.f 10))
 have HKW := Hk.mk (Kt.put (B := V2.heap.size) HWB.out HNB.out wo)
 have HWB5 : Hk (Bx ((((((((((((World.setCell z ⟨wb, 0, none⟩ (.int .i64 wo.i)).setCell ⟨wb, 1, none⟩ (.int .i64 wo.n)).setCell ⟨wb, 2, none⟩ (.int .i64 wo.d)).setCell ⟨wb, 3, none⟩ (.int .i64 wo.t)).setCell ⟨wb, 4, none⟩ (.int .i64 wo.s)).setCell ⟨wb, 5, none⟩ (.slice wo.ma wo.mn wo.mc)).setCell ⟨wb, 6, none⟩ (.slice wo.la wo.ln wo.lc)).setCell ⟨wb, 7, none⟩ (.slice wo.ha wo.hn wo.hc)).setCell ⟨wb, 8, none⟩ (.slice wo.aa wo.an wo.ac)).setCell ⟨wb, 9, none⟩ (.slice wo.xa wo.xn wo.xc)).setCell ⟨wb, 10, none⟩ (.bool wo.b))) wb wo) := ⟨HWB.out.put wo⟩
 have HXB5 : Hk (Bx ((((((((((((World.setCell z ⟨wb, 0, none⟩ (.int .i64 wo.i)).setCell ⟨wb, 1, none⟩ (.int .i64 wo.n)).setCell ⟨wb, 2, none⟩ (.int .i64 wo.d)).setCell ⟨wb, 3, none⟩ (.int .i64 wo.t)).setCell ⟨wb, 4, none⟩ (.int .i64 wo.s)).setCell ⟨wb, 5, none⟩ (.slice wo.ma wo.mn wo.mc)).setCell ⟨wb, 6, none⟩ (.slice wo.la wo.ln wo.lc)).setCell ⟨wb, 7, none⟩ (.slice wo.ha wo.hn wo.hc)).setCell ⟨wb, 8, none⟩ (.slice wo.aa wo.an wo.ac)).setCell ⟨wb, 9, none⟩ (.slice wo.xa wo.xn wo.xc)).setCell ⟨wb, 10, none⟩ (.bool wo.b))) (wb + 1) nilV) := ⟨HXB.out.fr (fr_put wo) (by omega)⟩
 have HV5 : Hk (Below V2.heap.size V2 ((((((((((((World.setCell z ⟨wb, 0, none⟩ (.int .i64 wo.i)).setCell ⟨wb, 1, none⟩ (.int .i64 wo.n)).setCell ⟨wb, 2, none⟩ (.int .i64 wo.d)).setCell ⟨wb, 3, none⟩ (.int .i64 wo.t)).setCell ⟨wb, 4, none⟩ (.int .i64 wo.s)).setCell ⟨wb, 5, none⟩ (.slice wo.ma wo.mn wo.mc)).setCell ⟨wb, 6, none⟩ (.slice wo.la wo.ln wo.lc)).setCell ⟨wb, 7, none⟩ (.slice wo.ha wo.hn wo.hc)).setCell ⟨wb, 8, none⟩ (.slice wo.aa wo.an wo.ac)).setCell ⟨wb, 9, none⟩ (.slice wo.xa wo.xn wo.xc)).setCell ⟨wb, 10, none⟩ (.bool wo.b)))) := ⟨HV.out.trans HKW.out.bl⟩
 clear HWB HXB HV HKW
 clear y0 y1 y2 y3 y4 y5 y6 y7 y8 y9 y10 d0 d1 d2 d3 d4 d5 d6 d7 d8 d9 d10 a0 a1 a2 a3 a4 a5 a6 a7 a8 a9 a10 a11 yl dl al
 clear x0 x1 x2 x3 x4 x5 x6 x7 x8 x9 x10 xl
 clear j0 j1 j2 j3 j4 j5 j6 j7 j8 j9 j10
 generalize ((((((((((((World.setCell z ⟨wb, 0, none⟩ (.int .i64 wo.i)).setCell ⟨wb, 1, none⟩ (.int .i64 wo.n)).setCell ⟨wb, 2, none⟩ (.int .i64 wo.d)).setCell ⟨wb, 3, none⟩ (.int .i64 wo.t)).setCell ⟨wb, 4, none⟩ (.int .i64 wo.s)).setCell ⟨wb, 5, none⟩ (.slice wo.ma wo.mn wo.mc)).setCell ⟨wb, 6, none⟩ (.slice wo.la wo.ln wo.lc)).setCell ⟨wb, 7, none⟩ (.slice wo.ha wo.hn wo.hc)).setCell ⟨wb, 8, none⟩ (.slice wo.aa wo.an wo.ac)).setCell ⟨wb, 9, none⟩ (.slice wo.xa wo.xn wo.xc)).setCell ⟨wb, 10, none⟩ (.bool wo.b))) = V5 at *
 have HV := HV5
 have HWB := HWB5
 have HXB := HXB5
 clear HV5 HWB5 HXB5
 obtain ⟨y0, y1, y2, y3, y4, y5, y6, y7, y8, y9, y10, d0, d1, d2, d3, d4, d5, d6, d7, d8, d9, d10, a0, a1, a2, a3, a4, a5, a6, a7, a8, a9, a10, a11, yl, dl, al⟩ := HVF.out _ HV.out
 go_upto_region 10 with (go_at_call 51; (with_reducible refine (copycs_any q.la q.ln q.lc q.ll _ (HQL.out _ (HTR.out _ HV.out)) HSQ.out).mono ?_); rintro e z ⟨v, L, rfl, ho, hab2, hb⟩; obtain ⟨ca, cc, rfl⟩ := ho.form; have HOC := Hk.mk (ho.weak HV.out.size); have HAC := Hk.mk hab2; have HSC : Hk (SmC L) := ⟨smC_like hab2 (fun x hx => (ho.u x hx).nq.len) (fun x hx => ((HQL.out _ (HTR.out _ HV.out)).u x hx).len) HSQ.out⟩; clear ho hab2; have HWB9 := Hk.mk (HWB.out.below hb); have HXB9 := Hk.mk (HXB.out.below hb); clear HWB HXB; have HWB := HWB9; have HXB := HXB9; clear HWB9 HXB9; have HV9 := Hk.mk (kw_step HV.out (Nat.le_refl _) hb); clear y0 y1 y2 y3 y4 y5 y6 y7 y8 y9 y10 d0 d1 d2 d3 d4 d5 d6 d7 d8 d9 d10 a0 a1 a2 a3 a4 a5 a6 a7 a8 a9 a10 a11 yl dl al; clear hb; replace HV := HV9; clear HV9; obtain ⟨y0, y1, y2, y3, y4, y5, y6, y7, y8, y9, y10, d0, d1, d2, d3, d4, d5, d6, d7, d8, d9, d10, a0, a1, a2, a3, a4, a5, a6, a7, a8, a9, a10, a11, yl, dl, al⟩ := HVF.out _ HV.out)
 have HMU : Hk (okN (sayI u.ab (abC L)) = false) := ⟨by rw [HAU.out, HAC.out]; exact HM.out⟩
 go_upto_region 11 with (go_at_call 22; (with_reducible refine (psay_formv u ca q.ln cc L _ (HDU.out _ HV.out) HSU.out HKU.out HOC.out.d HSC.out HEU.out HMU.out).mono ?_); rintro e z ⟨xv, rfl, hxv, hb⟩; have HXV := Hk.mk hxv; replace HOC := Hk.mk (HOC.out.below hb); have HWB9 := Hk.mk (HWB.out.below hb); have HXB9 := Hk.mk (HXB.out.below hb); clear HWB HXB; have HWB := HWB9; have HXB := HXB9; clear HWB9 HXB9; have HV9 := Hk.mk (kw_step HV.out (Nat.le_refl _) hb); clear y0 y1 y2 y3 y4 y5 y6 y7 y8 y9 y10 d0 d1 d2 d3 d4 d5 d6 d7 d8 d9 d10 a0 a1 a2 a3 a4 a5 a6 a7 a8 a9 a10 a11 yl dl al; clear hb; replace HV := HV9; clear HV9; obtain ⟨y0, y1, y2, y3, y4, y5, y6, y7, y8, y9, y10, d0, d1, d2, d3, d4, d5, d6, d7, d8, d9, d10, a0, a1, a2, a3, a4, a5, a6, a7, a8, a9, a10, a11, yl, dl, al⟩ := HVF.out _ HV.out; clear hxv; have x0 := HXB.out.bk.c 0; have x1 := HXB.out.bk.c 1; have x2 := HXB.out.bk.c 2; have x3 := HXB.out.bk.c 3; have x4 := HXB.out.bk.c 4; have x5 := HXB.out.bk.c 5; have x6 := HXB.out.bk.c 6; have x7 := HXB.out.bk.c 7; have x8 := HXB.out.bk.c 8; have x9 := HXB.out.bk.c 9; have x10 := HXB.out.bk.c 10; have xl := HXB.out.lt; simp at x0 x1 x2 x3 x4 x5 x6 x7 x8 x9 x10; have j0 := HXB.out.bk.f 0; have j1 := HXB.out.bk.f 1; have j2 := HXB.out.bk.f 2; have j3 := HXB.out.bk.f 3; have j4 := HXB.out.bk.f 4; have j5 := HXB.out.bk.f 5; have j6 := HXB.out.bk.f 6; have j7 := HXB.out.bk.f 7; have j8 := HXB.out.bk.f 8; have j9 := HXB.out.bk.f 9; have j10 := HXB.out.bk.f 10)
 have HKX := Hk.mk (Kt.put (B := V2.heap.size) HXB.out (by have := HNB.out; omega) xv)
 have HXB6 : Hk (Bx ((((((((((((World.setCell z ⟨(wb + 1), 0, none⟩ (.int .i64 xv.i)).setCell ⟨(wb + 1), 1, none⟩ (.int .i64 xv.n)).setCell ⟨(wb + 1), 2, none⟩ (.int .i64 xv.d)).setCell ⟨(wb + 1), 3, none⟩ (.int .i64 xv.t)).setCell ⟨(wb + 1), 4, none⟩ (.int .i64 xv.s)).setCell ⟨(wb + 1), 5, none⟩ (.slice xv.ma xv.mn xv.mc)).setCell ⟨(wb + 1), 6, none⟩ (.slice xv.la xv.ln xv.lc)).setCell ⟨(wb + 1), 7, none⟩ (.slice xv.ha xv.hn xv.hc)).setCell ⟨(wb + 1), 8, none⟩ (.slice xv.aa xv.an xv.ac)).setCell ⟨(wb + 1), 9, none⟩ (.slice xv.xa xv.xn xv.xc)).setCell ⟨(wb + 1), 10, none⟩ (.bool xv.b))) (wb + 1) xv) := ⟨HXB.out.put xv⟩
 have HWB6 : Hk (Bx ((((((((((((World.setCell z ⟨(wb + 1), 0, none⟩ (.int .i64 xv.i)).setCell ⟨(wb + 1), 1, none⟩ (.int .i64 xv.n)).setCell ⟨(wb + 1), 2, none⟩ (.int .i64 xv.d)).setCell ⟨(wb + 1), 3, none⟩ (.int .i64 xv.t)).setCell ⟨(wb + 1), 4, none⟩ (.int .i64 xv.s)).setCell ⟨(wb + 1), 5, none⟩ (.slice xv.ma xv.mn xv.mc)).setCell ⟨(wb + 1), 6, none⟩ (.slice xv.la xv.ln xv.lc)).setCell ⟨(wb + 1), 7, none⟩ (.slice xv.ha xv.hn xv.hc)).setCell ⟨(wb + 1), 8, none⟩ (.slice xv.aa xv.an xv.ac)).setCell ⟨(wb + 1), 9, none⟩ (.slice xv.xa xv.xn xv.xc)).setCell ⟨(wb + 1), 10, none⟩ (.bool xv.b))) wb wo) := ⟨HWB.out.fr (fr_put xv) (by omega)⟩
 have HV6 : Hk (Below V2.heap.size V2 ((((((((((((World.setCell z ⟨(wb + 1), 0, none⟩ (.int .i64 xv.i)).setCell ⟨(wb + 1), 1, none⟩ (.int .i64 xv.n)).setCell ⟨(wb + 1), 2, none⟩ (.int .i64 xv.d)).setCell ⟨(wb + 1), 3, none⟩ (.int .i64 xv.t)).setCell ⟨(wb + 1), 4, none⟩ (.int .i64 xv.s)).setCell ⟨(wb + 1), 5, none⟩ (.slice xv.ma xv.mn xv.mc)).setCell ⟨(wb + 1), 6, none⟩ (.slice xv.la xv.ln xv.lc)).setCell ⟨(wb + 1), 7, none⟩ (.slice xv.ha xv.hn xv.hc)).setCell ⟨(wb + 1), 8, none⟩ (.slice xv.aa xv.an xv.ac)).setCell ⟨(wb + 1), 9, none⟩ (.slice xv.xa xv.xn xv.xc)).setCell ⟨(wb + 1), 10, none⟩ (.bool xv.b)))) := ⟨HV.out.trans HKX.out.bl⟩
 have HO6 : Hk (OwC ((((((((((((World.setCell z ⟨(wb + 1), 0, none⟩ (.int .i64 xv.i)).setCell ⟨(wb + 1), 1, none⟩ (.int .i64 xv.n)).setCell ⟨(wb + 1), 2, none⟩ (.int .i64 xv.d)).setCell ⟨(wb + 1), 3, none⟩ (.int .i64 xv.t)).setCell ⟨(wb + 1), 4, none⟩ (.int .i64 xv.s)).setCell ⟨(wb + 1), 5, none⟩ (.slice xv.ma xv.mn xv.mc)).setCell ⟨(wb + 1), 6, none⟩ (.slice xv.la xv.ln xv.lc)).setCell ⟨(wb + 1), 7, none⟩ (.slice xv.ha xv.hn xv.hc)).setCell ⟨(wb + 1), 8, none⟩ (.slice xv.aa xv.an xv.ac)).setCell ⟨(wb + 1), 9, none⟩ (.slice xv.xa xv.xn xv.xc)).setCell ⟨(wb + 1), 10, none⟩ (.bool xv.b))) V2.heap.size (.slice ca q.ln cc) q.ln L) := ⟨HKX.out.owc HOC.out (by decide) (by decide)⟩
 clear HXB HWB HV HOC HKX
 clear y0 y1 y2 y3 y4 y5 y6 y7 y8 y9 y10 d0 d1 d2 d3 d4 d5 d6 d7 d8 d9 d10 a0 a1 a2 a3 a4 a5 a6 a7 a8 a9 a10 a11 yl dl al
 clear x0 x1 x2 x3 x4 x5 x6 x7 x8 x9 x10 xl
 clear j0 j1 j2 j3 j4 j5 j6 j7 j8 j9 j10
 generalize ((((((((((((World.setCell z ⟨(wb + 1), 0, none⟩ (.int .i64 xv.i)).setCell ⟨(wb + 1), 1, none⟩ (.int .i64 xv.n)).setCell ⟨(wb + 1), 2, none⟩ (.int .i64 xv.d)).setCell ⟨(wb + 1), 3, none⟩ (.int .i64 xv.t)).setCell ⟨(wb + 1), 4, none⟩ (.int .i64 xv.s)).setCell ⟨(wb + 1), 5, none⟩ (.slice xv.ma xv.mn xv.mc)).setCell ⟨(wb + 1), 6, none⟩ (.slice xv.la xv.ln xv.lc)).setCell ⟨(wb + 1), 7, none⟩ (.slice xv.ha xv.hn xv.hc)).setCell ⟨(wb + 1), 8, none⟩ (.slice xv.aa xv.an xv.ac)).setCell ⟨(wb + 1), 9, none⟩ (.slice xv.xa xv.xn xv.xc)).setCell ⟨(wb + 1), 10, none⟩ (.bool xv.b))) = V6a at *
 have HV := HV6
 have HOC := HO6
 clear HV6 HO6
 obtain ⟨y0, y1, y2, y3, y4, y5, y6, y7, y8, y9, y10, d0, d1, d2, d3, d4, d5, d6, d7, d8, d9, d10, a0, a1, a2, a3, a4, a5, a6, a7, a8, a9, a10, a11, yl, dl, al⟩ := HVF.out _ HV.out
 go_upto_region 51 with (first | (go_at_call 48; (with_reducible refine (eqcs_as true ca q.la q.ln q.ln cc q.lc L q.ll _ HOC.out.d (HQL.out _ (HTR.out _ HV.out)) HSC.out HSQ.out ⟨⟨fun _ => rfl, fun _ => HAC.out⟩⟩).mono ?_); rintro e z ⟨rfl, hb⟩; replace HOC := Hk.mk (HOC.out.below hb); have HW9 := Hk.mk (HWB6.out.below hb); have HX9 := Hk.mk (HXB6.out.below hb); clear HWB6 HXB6; have HWB6 := HW9; have HXB6 := HX9; clear HW9 HX9; have HV9 := Hk.mk (kw_step HV.out (Nat.le_refl _) hb); clear y0 y1 y2 y3 y4 y5 y6 y7 y8 y9 y10 d0 d1 d2 d3 d4 d5 d6 d7 d8 d9 d10 a0 a1 a2 a3 a4 a5 a6 a7 a8 a9 a10 a11 yl dl al; clear hb; replace HV := HV9; clear HV9; obtain ⟨y0, y1, y2, y3, y4, y5, y6, y7, y8, y9, y10, d0, d1, d2, d3, d4, d5, d6, d7, d8, d9, d10, a0, a1, a2, a3, a4, a5, a6, a7, a8, a9, a10, a11, yl, dl, al⟩ := HVF.out _ HV.out) | (go_at_call 40; (with_reducible refine (cmds_own V2.heap.size q.ln cc ca _ (HOC.out.shc HSC.out) HV.out.size).mono ?_); rintro e z ⟨rfl, hs⟩; have HW9 : Hk (Bx z wb wo) := ⟨⟨hs.ty _ _ _ _ HWB6.out.bl (by decide) (by decide)⟩⟩; have HX9 : Hk (Bx z (wb + 1) xv) := ⟨⟨hs.ty _ _ _ _ HXB6.out.bl (by decide) (by decide)⟩⟩; have HV9 := Hk.mk (HV.out.trans hs.bl); clear hs HOC HWB6 HXB6; have HWB6 := HW9; have HXB6 := HX9; clear HW9 HX9; clear y0 y1 y2 y3 y4 y5 y6 y7 y8 y9 y10 d0 d1 d2 d3 d4 d5 d6 d7 d8 d9 d10 a0 a1 a2 a3 a4 a5 a6 a7 a8 a9 a10 a11 yl dl al; replace HV := HV9; clear HV9; obtain ⟨y0, y1, y2, y3, y4, y5, y6, y7, y8, y9, y10, d0, d1, d2, d3, d4, d5, d6, d7, d8, d9, d10, a0, a1, a2, a3, a4, a5, a6, a7, a8, a9, a10, a11, yl, dl, al⟩ := HVF.out _ HV.out))
 generalize z = V6 at *
 have x0 := HWB6.out.bk.c 0; have x1 := HWB6.out.bk.c 1; have x2 := HWB6.out.bk.c 2; have x3 := HWB6.out.bk.c 3; have x4 := HWB6.out.bk.c 4; have x5 := HWB6.out.bk.c 5; have x6 := HWB6.out.bk.c 6; have x7 := HWB6.out.bk.c 7; have x8 := HWB6.out.bk.c 8; have x9 := HWB6.out.bk.c 9; have x10 := HWB6.out.bk.c 10; have xl := HWB6.out.lt; simp at x0 x1 x2 x3 x4 x5 x6 x7 x8 x9 x10
 have j0 := HWB6.out.bk.f 0; have j1 := HWB6.out.bk.f 1; have j2 := HWB6.out.bk.f 2; have j3 := HWB6.out.bk.f 3; have j4 := HWB6.out.bk.f 4; have j5 := HWB6.out.bk.f 5; have j6 := HWB6.out.bk.f 6; have j7 := HWB6.out.bk.f 7; have j8 := HWB6.out.bk.f 8; have j9 := HWB6.out.bk.f 9; have j10 := HWB6.out.bk.f 10
 go_upto_region 53 with fail
 obtain ⟨wv, hwv⟩ : ∃ x : Pv, x = nilV := ⟨_, rfl⟩
 have HWB7 : Hk (Bx ((((((((((((World.setCell V6 ⟨wb, 0, none⟩ (.int .i64 0)).setCell ⟨wb, 1, none⟩ (.int .i64 0)).setCell ⟨wb, 2, none⟩ (.int .i64 0)).setCell ⟨wb, 3, none⟩ (.int .i64 0)).setCell ⟨wb, 4, none⟩ (.int .i64 0)).setCell ⟨wb, 5, none⟩ (.slice none 0 0)).setCell ⟨wb, 6, none⟩ (.slice none 0 0)).setCell ⟨wb, 7, none⟩ (.slice none 0 0)).setCell ⟨wb, 8, none⟩ (.slice none 0 0)).setCell ⟨wb, 9, none⟩ (.slice none 0 0)).setCell ⟨wb, 10, none⟩ (.bool false))) wb wv) := ⟨by rw [hwv]; exact HWB6.out.put nilV⟩
 have HXB7 : Hk (Bx ((((((((((((World.setCell V6 ⟨wb, 0, none⟩ (.int .i64 0)).setCell ⟨wb, 1, none⟩ (.int .i64 0)).setCell ⟨wb, 2, none⟩ (.int .i64 0)).setCell ⟨wb, 3, none⟩ (.int .i64 0)).setCell ⟨wb, 4, none⟩ (.int .i64 0)).setCell ⟨wb, 5, none⟩ (.slice none 0 0)).setCell ⟨wb, 6, none⟩ (.slice none 0 0)).setCell ⟨wb, 7, none⟩ (.slice none 0 0)).setCell ⟨wb, 8, none⟩ (.slice none 0 0)).setCell ⟨wb, 9, none⟩ (.slice none 0 0)).setCell ⟨wb, 10, none⟩ (.bool false))) (wb + 1) xv) := ⟨HXB6.out.fr (show Fr (fun j => j = wb) V6 ((((((((((((World.setCell V6 ⟨wb, 0, none⟩ (.int .i64 0)).setCell ⟨wb, 1, none⟩ (.int .i64 0)).setCell ⟨wb, 2, none⟩ (.int .i64 0)).setCell ⟨wb, 3, none⟩ (.int .i64 0)).setCell ⟨wb, 4, none⟩ (.int .i64 0)).setCell ⟨wb, 5, none⟩ (.slice none 0 0)).setCell ⟨wb, 6, none⟩ (.slice none 0 0)).setCell ⟨wb, 7, none⟩ (.slice none 0 0)).setCell ⟨wb, 8, none⟩ (.slice none 0 0)).setCell ⟨wb, 9, none⟩ (.slice none 0 0)).setCell ⟨wb, 10, none⟩ (.bool false))) from fr_put nilV) (by omega)⟩
 have HV7 : Hk (Below V2.heap.size V2 ((((((((((((World.setCell V6 ⟨wb, 0, none⟩ (.int .i64 0)).setCell ⟨wb, 1, none⟩ (.int .i64 0)).setCell ⟨wb, 2, none⟩ (.int .i64 0)).setCell ⟨wb, 3, none⟩ (.int .i64 0)).setCell ⟨wb, 4, none⟩ (.int .i64 0)).setCell ⟨wb, 5, none⟩ (.slice none 0 0)).setCell ⟨wb, 6, none⟩ (.slice none 0 0)).setCell ⟨wb, 7, none⟩ (.slice none 0 0)).setCell ⟨wb, 8, none⟩ (.slice none 0 0)).setCell ⟨wb, 9, none⟩ (.slice none 0 0)).setCell ⟨wb, 10, none⟩ (.bool false)))) := ⟨HV.out.trans (show Below V2.heap.size V6 ((((((((((((World.setCell V6 ⟨wb, 0, none⟩ (.int .i64 0)).setCell ⟨wb, 1, none⟩ (.int .i64 0)).setCell ⟨wb, 2, none⟩ (.int .i64 0)).setCell ⟨wb, 3, none⟩ (.int .i64 0)).setCell ⟨wb, 4, none⟩ (.int .i64 0)).setCell ⟨wb, 5, none⟩ (.slice none 0 0)).setCell ⟨wb, 6, none⟩ (.slice none 0 0)).setCell ⟨wb, 7, none⟩ (.slice none 0 0)).setCell ⟨wb, 8, none⟩ (.slice none 0 0)).setCell ⟨wb, 9, none⟩ (.slice none 0 0)).setCell ⟨wb, 10, none⟩ (.bool false))) from (Kt.put (B := V2.heap.size) HWB6.out HNB.out nilV).bl)⟩
 have HDX : Hk (∀ X : World, PvD X X.heap.size xv) := ⟨fun X => by rw [HXV.out]; exact nil_d X⟩
 have HOX : Hk (∀ X : World, PvO X X.heap.size xv) := ⟨fun X => by rw [HXV.out]; exact nil_o X _⟩
 have HDW : Hk (∀ X : World, PvD X X.heap.size wv) := ⟨fun X => by rw [hwv]; exact nil_d X⟩
 have HSX : Hk (PvS xv) := ⟨by rw [HXV.out]; exact nil_s⟩
 have HSW : Hk (PvS wv) := ⟨by rw [hwv]; exact nil_s⟩
 have HXE : Hk (xv.ab = wv.ab) := ⟨by rw [HXV.out, hwv]⟩
 clear HXV
 clear HV HXB6 HWB6 hwv
 clear y0 y1 y2 y3 y4 y5 y6 y7 y8 y9 y10 d0 d1 d2 d3 d4 d5 d6 d7 d8 d9 d10 a0 a1 a2 a3 a4 a5 a6 a7 a8 a9 a10 a11 yl dl al
 clear x0 x1 x2 x3 x4 x5 x6 x7 x8 x9 x10 xl
 clear j0 j1 j2 j3 j4 j5 j6 j7 j8 j9 j10
 generalize ((((((((((((World.setCell V6 ⟨wb, 0, none⟩ (.int .i64 0)).setCell ⟨wb, 1, none⟩ (.int .i64 0)).setCell ⟨wb, 2, none⟩ (.int .i64 0)).setCell ⟨wb, 3, none⟩ (.int .i64 0)).setCell ⟨wb, 4, none⟩ (.int .i64 0)).setCell ⟨wb, 5, none⟩ (.slice none 0 0)).setCell ⟨wb, 6, none⟩ (.slice none 0 0)).setCell ⟨wb, 7, none⟩ (.slice none 0 0)).setCell ⟨wb, 8, none⟩ (.slice none 0 0)).setCell ⟨wb, 9, none⟩ (.slice none 0 0)).setCell ⟨wb, 10, none⟩ (.bool false))) = V7 at *
 have HV := HV7
 have HWB := HWB7
 have HXB := HXB7
 clear HV7 HWB7 HXB7
 obtain ⟨y0, y1, y2, y3, y4, y5, y6, y7, y8, y9, y10, d0, d1, d2, d3, d4, d5, d6, d7, d8, d9, d10, a0, a1, a2, a3, a4, a5, a6, a7, a8, a9, a10, a11, yl, dl, al⟩ := HVF.out _ HV.out
 have x0 := HWB.out.bk.c 0; have x1 := HWB.out.bk.c 1; have x2 := HWB.out.bk.c 2; have x3 := HWB.out.bk.c 3; have x4 := HWB.out.bk.c 4; have x5 := HWB.out.bk.c 5; have x6 := HWB.out.bk.c 6; have x7 := HWB.out.bk.c 7; have x8 := HWB.out.bk.c 8; have x9 := HWB.out.bk.c 9; have x10 := HWB.out.bk.c 10; have xl := HWB.out.lt; simp at x0 x1 x2 x3 x4 x5 x6 x7 x8 x9 x10
 have j0 := HXB.out.bk.c 0; have j1 := HXB.out.bk.c 1; have j2 := HXB.out.bk.c 2; have j3 := HXB.out.bk.c 3; have j4 := HXB.out.bk.c 4; have j5 := HXB.out.bk.c 5; have j6 := HXB.out.bk.c 6; have j7 := HXB.out.bk.c 7; have j8 := HXB.out.bk.c 8; have j9 := HXB.out.bk.c 9; have j10 := HXB.out.bk.c 10; have jl := HXB.out.lt; simp at j0 j1 j2 j3 j4 j5 j6 j7 j8 j9 j10
 go_upto_region 56 with (first | (go_at_call 13; (with_reducible refine (num28_any _ _).mono ?_); rintro e z9 ⟨rfl, hz⟩; rw [hz]; clear hz z9) | (go_at_call 44; (with_reducible refine (eqp_as true xv wv _ (HDX.out _) (HDW.out _) HSX.out HSW.out ⟨⟨fun _ => rfl, fun _ => HXE.out⟩⟩).mono ?_); rintro e z ⟨rfl, hb⟩; have HWB9 := Hk.mk (HWB.out.below hb); have HXB9 := Hk.mk (HXB.out.below hb); clear HWB HXB; have HWB := HWB9; have HXB := HXB9; clear HWB9 HXB9; clear x0 x1 x2 x3 x4 x5 x6 x7 x8 x9 x10 xl; clear j0 j1 j2 j3 j4 j5 j6 j7 j8 j9 j10 jl; have HV9 := Hk.mk (kw_step HV.out (Nat.le_refl _) hb); clear y0 y1 y2 y3 y4 y5 y6 y7 y8 y9 y10 d0 d1 d2 d3 d4 d5 d6 d7 d8 d9 d10 a0 a1 a2 a3 a4 a5 a6 a7 a8 a9 a10 a11 yl dl al; clear hb; replace HV := HV9; clear HV9; obtain ⟨y0, y1, y2, y3, y4, y5, y6, y7, y8, y9, y10, d0, d1, d2, d3, d4, d5, d6, d7, d8, d9, d10, a0, a1, a2, a3, a4, a5, a6, a7, a8, a9, a10, a11, yl, dl, al⟩ := HVF.out _ HV.out; have x0 := HWB.out.bk.c 0; have x1 := HWB.out.bk.c 1; have x2 := HWB.out.bk.c 2; have x3 := HWB.out.bk.c 3; have x4 := HWB.out.bk.c 4; have x5 := HWB.out.bk.c 5; have x6 := HWB.out.bk.c 6; have x7 := HWB.out.bk.c 7; have x8 := HWB.out.bk.c 8; have x9 := HWB.out.bk.c 9; have x10 := HWB.out.bk.c 10; have xl := HWB.out.lt; simp at x0 x1 x2 x3 x4 x5 x6 x7 x8 x9 x10; have j0 := HXB.out.bk.c 0; have j1 := HXB.out.bk.c 1; have j2 := HXB.out.bk.c 2; have j3 := HXB.out.bk.c 3; have j4 := HXB.out.bk.c 4; have j5 := HXB.out.bk.c 5; have j6 := HXB.out.bk.c 6; have j7 := HXB.out.bk.c 7; have j8 := HXB.out.bk.c 8; have j9 := HXB.out.bk.c 9; have j10 := HXB.out.bk.c 10; have jl := HXB.out.lt; simp at j0 j1 j2 j3 j4 j5 j6 j7 j8 j9 j10) | (go_at_call 44; (with_reducible refine (eqp_as true u p _ (HDU.out _ HV.out) (HDP.out _ (HTR.out _ HV.out)) HSU.out HS.out ⟨⟨fun _ => rfl, fun _ => HAU.out⟩⟩).mono ?_); rintro e z ⟨rfl, hb⟩; have HWB9 := Hk.mk (HWB.out.below hb); have HXB9 := Hk.mk (HXB.out.below hb); clear HWB HXB; have HWB := HWB9; have HXB := HXB9; clear HWB9 HXB9; clear x0 x1 x2 x3 x4 x5 x6 x7 x8 x9 x10 xl; clear j0 j1 j2 j3 j4 j5 j6 j7 j8 j9 j10 jl; have HV9 := Hk.mk (kw_step HV.out (Nat.le_refl _) hb); clear y0 y1 y2 y3 y4 y5 y6 y7 y8 y9 y10 d0 d1 d2 d3 d4 d5 d6 d7 d8 d9 d10 a0 a1 a2 a3 a4 a5 a6 a7 a8 a9 a10 a11 yl dl al; clear hb; replace HV := HV9; clear HV9; obtain ⟨y0, y1, y2, y3, y4, y5, y6, y7, y8, y9, y10, d0, d1, d2, d3, d4, d5, d6, d7, d8, d9, d10, a0, a1, a2, a3, a4, a5, a6, a7, a8, a9, a10, a11, yl, dl, al⟩ := HVF.out _ HV.out; have x0 := HWB.out.bk.c 0; have x1 := HWB.out.bk.c 1; have x2 := HWB.out.bk.c 2; have x3 := HWB.out.bk.c 3; have x4 := HWB.out.bk.c 4; have x5 := HWB.out.bk.c 5; have x6 := HWB.out.bk.c 6; have x7 := HWB.out.bk.c 7; have x8 := HWB.out.bk.c 8; have x9 := HWB.out.bk.c 9; have x10 := HWB.out.bk.c 10; have xl := HWB.out.lt; simp at x0 x1 x2 x3 x4 x5 x6 x7 x8 x9 x10; have j0 := HXB.out.bk.c 0; have j1 := HXB.out.bk.c 1; have j2 := HXB.out.bk.c 2; have j3 := HXB.out.bk.c 3; have j4 := HXB.out.bk.c 4; have j5 := HXB.out.bk.c 5; have j6 := HXB.out.bk.c 6; have j7 := HXB.out.bk.c 7; have j8 := HXB.out.bk.c 8; have j9 := HXB.out.bk.c 9; have j10 := HXB.out.bk.c 10; have jl := HXB.out.lt; simp at j0 j1 j2 j3 j4 j5 j6 j7 j8 j9 j10) | (go_at_call 52; (with_reducible refine (spoilp_any _ xv _ (HOX.out _) HSX.out (Nat.le_refl _)).mono ?_); rintro e z ⟨rfl, hb⟩; have HWB9 := Hk.mk (HWB.out.below hb); have HXB9 := Hk.mk (HXB.out.below hb); clear HWB HXB; have HWB := HWB9; have HXB := HXB9; clear HWB9 HXB9; clear x0 x1 x2 x3 x4 x5 x6 x7 x8 x9 x10 xl; clear j0 j1 j2 j3 j4 j5 j6 j7 j8 j9 j10 jl; have HV9 := Hk.mk (kw_step HV.out (Nat.le_refl _) hb); clear y0 y1 y2 y3 y4 y5 y6 y7 y8 y9 y10 d0 d1 d2 d3 d4 d5 d6 d7 d8 d9 d10 a0 a1 a2 a3 a4 a5 a6 a7 a8 a9 a10 a11 yl dl al; clear hb; replace HV := HV9; clear HV9; obtain ⟨y0, y1, y2, y3, y4, y5, y6, y7, y8, y9, y10, d0, d1, d2, d3, d4, d5, d6, d7, d8, d9, d10, a0, a1, a2, a3, a4, a5, a6, a7, a8, a9, a10, a11, yl, dl, al⟩ := HVF.out _ HV.out; have x0 := HWB.out.bk.c 0; have x1 := HWB.out.bk.c 1; have x2 := HWB.out.bk.c 2; have x3 := HWB.out.bk.c 3; have x4 := HWB.out.bk.c 4; have x5 := HWB.out.bk.c 5; have x6 := HWB.out.bk.c 6; have x7 := HWB.out.bk.c 7; have x8 := HWB.out.bk.c 8; have x9 := HWB.out.bk.c 9; have x10 := HWB.out.bk.c 10; have xl := HWB.out.lt; simp at x0 x1 x2 x3 x4 x5 x6 x7 x8 x9 x10; have j0 := HXB.out.bk.c 0; have j1 := HXB.out.bk.c 1; have j2 := HXB.out.bk.c 2; have j3 := HXB.out.bk.c 3; have j4 := HXB.out.bk.c 4; have j5 := HXB.out.bk.c 5; have j6 := HXB.out.bk.c 6; have j7 := HXB.out.bk.c 7; have j8 := HXB.out.bk.c 8; have j9 := HXB.out.bk.c 9; have j10 := HXB.out.bk.c 10; have jl := HXB.out.lt; simp at j0 j1 j2 j3 j4 j5 j6 j7 j8 j9 j10))
 clear x0 x1 x2 x3 x4 x5 x6 x7 x8 x9 x10 xl
 clear j0 j1 j2 j3 j4 j5 j6 j7 j8 j9 j10 jl
 have HR4 : Hk (Bk z (w.heap.size + 2) jjZ) := ⟨HR2.out.below HV.out⟩
 have HRB : Hk (Bx z (w.heap.size + 2) nilV) := ⟨HRX.out.below HV.out⟩
 have HRP := Hk.mk (Kt.put (B := w.heap.size) HRB.out (by omega) p)
 have HB4 := Hk.mk (HTR.out _ HV.out)
 have m0 := HR4.out.c 0; have k0 := HR4.out.f 0; have m1 := HR4.out.c 1; have k1 := HR4.out.f 1; have m2 := HR4.out.c 2; have k2 := HR4.out.f 2; have m3 := HR4.out.c 3; have k3 := HR4.out.f 3; have m4 := HR4.out.c 4; have k4 := HR4.out.f 4; have m5 := HR4.out.c 5; have k5 := HR4.out.f 5; have m6 := HR4.out.c 6; have k6 := HR4.out.f 6; have m7 := HR4.out.c 7; have k7 := HR4.out.f 7; have m8 := HR4.out.c 8; have k8 := HR4.out.f 8; have m9 := HR4.out.c 9; have k9 := HR4.out.f 9; have m10 := HR4.out.c 10; have k10 := HR4.out.f 10; simp at m0 m1 m2 m3 m4 m5 m6 m7 m8 m9 m10
 go_wp2_with fail
 refine bodyPost_ret (v := .tuple #[.agg (jjP p), .bool true]) (by simp [results, Tryz.results15, go_sem, m0, m1, m2, m3, m4, m5, m6, m7, m8, m9, m10, k0, k1, k2, k3, k4, k5, k6, k7, k8, k9, k10]) rfl ⟨⟨p, rfl⟩, HB4.out.trans HRP.out.bl⟩
end Go.Proofs.YtdpblimhfmfbnaaGreat
namespace Go.Proofs.YtdpblimhfmfbnaaGreat
open Go.ChangeShapes Go.WideShapes Go.ChangeAt Go.RowKit Go.Deep
def LtN (N : Nat) (a : Option Addr) (c : Nat) : Prop := 0 < c → ∀ g, a = some ⟨g, 0, none⟩ → g < N
def ShU (w : World) (B N : Nat) (a : Option Addr) (n c : Nat) : Prop := n ≤ 1048576 ∧ LtN N a c ∧ ((∃ l, Ow shC 95 w B (.slice a n c) n l ∧ (∀ x, x ∈ l → ShN w B x.a x.m x.c) ∧ ∀ x, x ∈ l → LtN N x.a x.c) ∨ (n = 0 ∧ c = 0))
theorem ShU.shc {w : World} {B N n c : Nat} {a : Option Addr} (h : ShU w B N a n c) : ShC w B a n c := ⟨h.1, h.2.2.imp (fun ⟨l, h1, h2, _⟩ => ⟨l, h1, h2⟩) id⟩
theorem Sc.shu {B N n c : Nat} {w z : World} {a : Option Addr} (k : Sc B w z) (h : ShU w B N a n c) : ShU z B N a n c := ⟨h.1, h.2.1, by
 rcases h.2.2 with ⟨l, ho, hu, hv⟩ | h
 ·obtain ⟨l', ho', hl⟩ := k.q _ _ _ _ ho
  refine .inl ⟨l', ho', fun x hx => ?_, fun x hx => ?_⟩
  ·rcases hl x hx with h | ⟨y, rfl⟩
   ·exact k.shn (hu x h)
   ·exact ShN.zr _ _
  ·rcases hl x hx with h | ⟨y, rfl⟩
   ·exact hv x h
   ·exact fun h0 => absurd h0 (Nat.lt_irrefl 0)
 ·exact .inr h⟩
theorem OwE.ltn {w : World} {B n c : Nat} {a : Option Addr} {u : List Int} (h : OwE w B a n c u) : LtN w.heap.size a c := fun h0 g e => by
 rcases h with h | ⟨_, h1, _⟩
 ·rcases h.blk with ⟨_, _, h1⟩ | ⟨g', e', _, h2, _⟩
  ·omega
  ·rw [e] at e'
   injection e' with e'
   injection e' with e1
   omega
 ·omega
theorem OwC.ltn {w : World} {B n c : Nat} {a : Option Addr} {l : List Cv} (h : OwC w B (.slice a n c) n l) : LtN w.heap.size a c := fun h0 g e => by
 rcases h.o.blk with ⟨_, _, h1⟩ | ⟨g', e', _, h2, _⟩
 ·omega
 ·rw [e] at e'
  injection e' with e'
  injection e' with e1
  omega
theorem LtN.mono {N N' : Nat} {a : Option Addr} {c : Nat} (h : LtN N a c) (hN : N ≤ N') : LtN N' a c := fun h0 g e => Nat.lt_of_lt_of_le (h h0 g e) hN
theorem OwC.shu {w z : World} {B N n c : Nat} {a : Option Addr} {l : List Cv} (h : OwC w B (.slice a n c) n l) (hs : SmC l) (hN : w.heap.size ≤ N) (hb : Below w.heap.size w z) : ShU z B N a n c := ⟨(h.shc hs).1, h.ltn.mono hN, .inl ⟨l, h.o.below hb, fun x hx => ⟨hs.m x hx, x.u, (h.u x hx).below hb⟩, fun x hx => (h.u x hx).ltn.mono hN⟩⟩
set_option maxRecDepth 100000 in
set_option maxHeartbeats 800000 in
theorem nums_up (B N n c : Nat) (a : Option Addr) (w : World) (h : ShN w B a n c) (hB : B ≤ w.heap.size) (hN : LtN N a c) :
  Calls Tryz.prog 70 #[.slice a n c] w fun e z => e = .returned (.tuple #[]) ∧ Sn B w z ∧ Fr (fun j => j < N) w z := by
 obtain ⟨ii, hii, hiz0, hiz1, hiz2⟩ := info_parts info_i
 have HO := Hk.mk h
 have hn := h.1
 clear h
 go_enter Tryz.func70, Tryz.ntmps70
 go_wp2
 go_loopw [2] (fun i wr => ∃ (k : Nat), i = .int .i64 k ∧ k ≤ n ∧ Hk (ShN wr B a n c) ∧ Hk (Sn B w wr) ∧ Hk (Fr (fun j => j < N) w wr)) (fun i _ => n - (intOf i).toNat)
 case atStart => exact ⟨0, rfl, by omega, HO, ⟨Sn.refl _ _⟩, ⟨Fr.refl _ _⟩⟩
 case round =>
  clear HO
  obtain ⟨k, rfl, hk, HO, HS, HF⟩ := hrel
  obtain ⟨u, hu⟩ := HO.out.2
  by_cases hlt : k < n
  ·rcases hu with hu | ⟨h0, _⟩
   ·obtain ⟨g, rfl, hg1, hg2, hg3⟩ := hu.blk.resolve_left (fun h => by omega)
    have hl := hu.1
    have hcx : wr.cell? ⟨g, k, none⟩ = some (.int .i64 (u[k]'(by omega))) := by rw [hu.2.cellAt k (by omega), List.getElem?_map, List.getElem?_eq_getElem (by omega)]; rfl
    have hfz := hu.2.frozenAt k
    have j1 : (0 : Int) ≤ (k : Int) := by omega
    have j2 : (k : Int) < (n : Int) := by omega
    have H1 := Sn.setI hu k (-99)
    have H3 := Hk.mk (H1.shn HO.out)
    have H4 := Hk.mk (HS.out.trans H1)
    have hgN : g < N := hN (by omega) g rfl
    have H5 : Hk (Fr (fun j => j < N) w (wr.setCell ⟨g, k, none⟩ (.int .i64 (-99)))) := ⟨HF.out.trans (Fr.setCell (p := ⟨g, k, none⟩) (Fr.refl (fun j => j < N) wr) (fun _ => hgN) _)⟩
    have HLT := Hk.mk hlt
    generalize u[k]'(by omega) = y at *
    clear H1 hu hl HO HS HF hgN hg3
    as_aux_lemma =>
     go_wp2
     exact ⟨⟨k + 1, by go_num, HLT.out, H3, H4, H5⟩, by first | exact nx_ms HLT.out | exact nx_ms' HLT.out⟩
   ·omega
  ·obtain rfl : k = n := by omega
   have HAL := Hk.mk (Sn.of_all (Nat.le_trans hB HS.out.bl.size) (below_al wr (.cells #[.int .i64 5] 3)))
   obtain ⟨hl, hkc, hnone, hcs, hroom⟩ := (hu.below (below_al wr (.cells #[.int .i64 5] 3))).fin
   have HLO : Hk ((u.map (Value.int .i64)).length = k * 1) := ⟨by rw [List.length_map]; omega⟩
   have HCS := Hk.mk hcs
   have HNN := Hk.mk hnone
   clear hcs hnone hl
   by_cases hc : k < c
   ·obtain ⟨g, rfl, ho⟩ := hroom hc
    have HSP := Hk.mk (own_spare ho.2 1 hc)
    have HHO := Hk.mk (own_holds ho.2)
    have H4 : Hk (Sn B w ((wr.alloc (.cells #[.int .i64 5] 3)).setCells g k [.int .i64 5])) := ⟨ (HS.out.trans HAL.out).trans (Sn.setI ho k 5)⟩
    have hgN : g < N := hN (by omega) g rfl
    have H5 : Hk (Fr (fun j => j < N) w ((wr.alloc (.cells #[.int .i64 5] 3)).setCells g k [.int .i64 5])) := ⟨HF.out.trans ((Fr.of_all (M := fun j => j < N) (below_al wr (.cells #[.int .i64 5] 3))).trans (Fr.setCells (M := fun j => j < N) hgN _ _ (Fr.refl _ _)))⟩
    clear hroom ho hu HO HS HAL HF hgN
    as_aux_lemma =>
     go_wp2_with (at_builtin; go_must (refine wpList_append_arg _ rfl _ _ 23 rfl 3 ii (.int .i64 0) 1 8 Tryz.underlying23 hii hiz0 hiz1 hiz2 rfl (by decide) g 0 k c (u.map (Value.int .i64)) rfl HLO.out HHO.out ⟨wr.heap.size, 0, none⟩ 1 1 [.int .i64 5] rfl rfl (one_new wr _ _) (fun v hv => by simp at hv; subst hv; rfl) (fun _ => HSP.out) (by unfold maxLen; omega) (by omega) (fun _ => ?_) (fun h => absurd h (by omega))))
     go_end0
     exact ⟨rfl, H4.out, H5.out⟩
   ·have hcn : c < k + 1 := by omega
    clear hroom hu HO
    as_aux_lemma =>
     go_wp2_with (at_builtin; go_must (refine wpList_append_grows _ rfl _ _ 23 rfl 3 ii (.int .i64 0) 1 8 Tryz.underlying23 hii hiz0 hiz1 hiz2 rfl (by decide) a k c (u.map (Value.int .i64)) rfl HNN.out HLO.out HCS.out ⟨wr.heap.size, 0, none⟩ 1 1 [.int .i64 5] rfl rfl (one_new wr _ _) (fun v hv => by simp at hv; subst hv; rfl) hcn (by unfold maxLen; omega) (by omega) ?_); intro v8 z8 hown hgrow; have H8 := Hk.mk (HS.out.trans (Sn.of_all (Nat.le_trans hB HS.out.bl.size) (below_gr hgrow))); have H9 := Hk.mk (HF.out.trans (Fr.of_all (M := fun j => j < N) (below_gr hgrow))); clear hown hgrow)
     go_end0
     exact ⟨rfl, H8.out, H9.out⟩
set_option maxRecDepth 100000 in
set_option maxHeartbeats 12800000 in
theorem cmds_up (B N n c : Nat) (a : Option Addr) (w : World) (h : ShU w B N a n c) (hB : B ≤ w.heap.size) :
  Calls Tryz.prog 40 #[.slice a n c] w fun e z => e = .returned (.tuple #[]) ∧ Sc B w z ∧ Fr (fun j => j < N) w z := by
 obtain ⟨ii, hii, hiz0, hiz1, hiz2⟩ := info_parts info_cm
 have infoz : (Tryz.prog.info? 95).map (·.size) = some (zrC (-9)).cs.toArray.size := by kernel_rfl
 have HO := Hk.mk h
 have hn := h.1
 have HGN := Hk.mk h.2.1
 clear h
 go_enter Tryz.func40, Tryz.ntmps40
 go_wp2
 go_loopw [2] (fun i wr => ∃ (k : Nat), i = .int .i64 k ∧ k ≤ n ∧ Hk (ShU wr B N a n c) ∧ Hk (Sc B w wr) ∧ Hk (Fr (fun j => j < N) w wr)) (fun i _ => n - (intOf i).toNat)
 case atStart => exact ⟨0, rfl, by omega, HO, ⟨Sc.refl _ _⟩, ⟨Fr.refl _ _⟩⟩
 case round =>
  clear HO
  obtain ⟨k, rfl, hk, HO, HS, HF⟩ := hrel
  by_cases hlt : k < n
  ·rcases HO.out.2.2 with ⟨l, ho, hu, hv⟩ | ⟨h0, _⟩
   ·obtain ⟨g, rfl, hg1, hg2, hg3⟩ := ho.blk.resolve_left (fun h => by omega)
    have hkl : k < l.length := by have := ho.len; omega
    have HOW := Hk.mk ho
    have HOH := Hk.mk HO.out
    have HNU := Hk.mk (hu _ (List.getElem_mem hkl))
    have HNV := Hk.mk (hv _ (List.getElem_mem hkl))
    have HgN : Hk (g < N) := ⟨HGN.out (by omega) g rfl⟩
    have hcc : ∀ X : World, Ow shC 95 X B (.slice (some ⟨g, 0, none⟩) n c) n l → X.cell? ⟨g, k * 10, none⟩ = some (.int .i64 l[k].p) ∧ X.cell? ⟨g, k * 10 + 1, none⟩ = some (.int .i64 l[k].s) ∧ X.cell? ⟨g, k * 10 + 2, none⟩ = some (.int .i64 l[k].k) ∧ X.cell? ⟨g, k * 10 + 3, none⟩ = some (.int .i64 l[k].n) ∧ X.cell? ⟨g, k * 10 + 4, none⟩ = some (.slice l[k].a l[k].m l[k].c) ∧ X.cell? ⟨g, k * 10 + 5, none⟩ = some (.int .i64 l[k].t) ∧ X.cell? ⟨g, k * 10 + 6, none⟩ = some (.int .i64 l[k].w) ∧ X.cell? ⟨g, k * 10 + 7, none⟩ = some (.int .i64 l[k].h) ∧ X.cell? ⟨g, k * 10 + 8, none⟩ = some (.int .i64 l[k].x) ∧ X.cell? ⟨g, k * 10 + 9, none⟩ = some (.int .i64 l[k].y) := fun X hX => by
     obtain ⟨b', off', e, _, hc⟩ := hX.qv.rd (by omega)
     injection e with e
     injection e with e1 e2
     subst e1 e2
     have h := hc k hkl
     rw [Nat.zero_add] at h
     exact ⟨h 0 (by decide), h 1 (by decide), h 2 (by decide), h 3 (by decide), h 4 (by decide), h 5 (by decide), h 6 (by decide), h 7 (by decide), h 8 (by decide), h 9 (by decide)⟩
    generalize l[k] = q at *
    have HCC := Hk.mk hcc
    obtain ⟨p0, p1, p2, p3, p4, p5, p6, p7, p8, p9⟩ := hcc wr ho
    have j1 : (0 : Int) ≤ (k : Int) := by omega
    have j2 : (k : Int) < (n : Int) := by omega
    have HLT := Hk.mk hlt
    have HBW := Hk.mk (Nat.le_trans hB HS.out.bl.size)
    clear hcc hu hv ho hkl HO p0 p1 p2 p3 p5 p6 p7 p8 p9
    focus
     go_wp2_with (go_at_call 70; (with_reducible refine (nums_up B N q.m q.c q.a _ HNU.out HBW.out HNV.out).mono ?_); rintro e z ⟨rfl, hs, hf⟩; have HFZ := Hk.mk (HF.out.trans hf); clear hf HF; have HSN := Hk.mk hs; have hoz := hs.ow HOW.out (by decide); obtain ⟨p0, p1, p2, p3, p4z, p5, p6, p7, p8, p9⟩ := HCC.out z hoz; have hgz := World.block_lt_of_cell? _ _ p0; have f0 := hoz.row.frozenAt (k * 10); have f1 := hoz.row.frozenAt (k * 10 + 1); have f2 := hoz.row.frozenAt (k * 10 + 2); have f3 := hoz.row.frozenAt (k * 10 + 3); have f4 := hoz.row.frozenAt (k * 10 + 4); have f5 := hoz.row.frozenAt (k * 10 + 5); have f6 := hoz.row.frozenAt (k * 10 + 6); have f7 := hoz.row.frozenAt (k * 10 + 7); have f8 := hoz.row.frozenAt (k * 10 + 8); have f9 := hoz.row.frozenAt (k * 10 + 9); have HOZ := Hk.mk hoz; clear hs hoz)
     have H1 : Hk (Sc B wr ((((((((((z.setCell ⟨g, k * 10, none⟩ (.int .i64 0)).setCell ⟨g, k * 10 + 1, none⟩ (.int .i64 0)).setCell ⟨g, k * 10 + 2, none⟩ (.int .i64 (-9))).setCell ⟨g, k * 10 + 3, none⟩ (.int .i64 0)).setCell ⟨g, k * 10 + 4, none⟩ (.slice none 0 0)).setCell ⟨g, k * 10 + 5, none⟩ (.int .i64 0)).setCell ⟨g, k * 10 + 6, none⟩ (.int .i64 0)).setCell ⟨g, k * 10 + 7, none⟩ (.int .i64 0)).setCell ⟨g, k * 10 + 8, none⟩ (.int .i64 0)).setCell ⟨g, k * 10 + 9, none⟩ (.int .i64 0))) := ⟨(Sc.of_sn HSN.out).trans (Sc.setC HOZ.out k (-9))⟩
     have H4 := Hk.mk (HS.out.trans H1.out)
     have H3 := Hk.mk (H1.out.shu HOH.out)
     have H5 : Hk (Fr (fun j => j < N) w ((((((((((z.setCell ⟨g, k * 10, none⟩ (.int .i64 0)).setCell ⟨g, k * 10 + 1, none⟩ (.int .i64 0)).setCell ⟨g, k * 10 + 2, none⟩ (.int .i64 (-9))).setCell ⟨g, k * 10 + 3, none⟩ (.int .i64 0)).setCell ⟨g, k * 10 + 4, none⟩ (.slice none 0 0)).setCell ⟨g, k * 10 + 5, none⟩ (.int .i64 0)).setCell ⟨g, k * 10 + 6, none⟩ (.int .i64 0)).setCell ⟨g, k * 10 + 7, none⟩ (.int .i64 0)).setCell ⟨g, k * 10 + 8, none⟩ (.int .i64 0)).setCell ⟨g, k * 10 + 9, none⟩ (.int .i64 0))) := ⟨HFZ.out.trans (show Fr (fun j => j < N) z (z.setCells g (k * 10) (zrC (-9)).cs) from Fr.setCells (M := fun j => j < N) HgN.out _ _ (Fr.refl _ _))⟩
     exact ⟨⟨k + 1, by go_num, HLT.out, H3, H4, H5⟩, by first | exact nx_ms HLT.out | exact nx_ms' HLT.out⟩
   ·omega
  ·obtain rfl : k = n := by omega
   have HAL := Hk.mk (Sc.of_all (Nat.le_trans hB HS.out.bl.size) (below_al wr (.cells (jkC 0 0 0 0 none 0 0 0 0 0 0 0) 95)))
   obtain ⟨hkc, hnone, olds, hlo, hcs, hroom⟩ := (HAL.out.shc HO.out.shc).fin
   have HLO := Hk.mk hlo
   have HCS := Hk.mk hcs
   have HNN := Hk.mk hnone
   clear hcs hnone hlo
   by_cases hc : k < c
   ·obtain ⟨g, l, rfl, ho, rfl⟩ := hroom hc
    have HSP := Hk.mk (own_spare ho.row 1 hc)
    have HHO := Hk.mk (own_holds ho.row)
    have H4 : Hk (Sc B w ((wr.alloc (.cells (jkC 0 0 0 0 none 0 0 0 0 0 0 0) 95)).setCells g (k * 10) (zrC 0).cs)) := ⟨ (HS.out.trans HAL.out).trans (Sc.setC ho k 0)⟩
    have hgN : g < N := HGN.out (by omega) g rfl
    have H5 : Hk (Fr (fun j => j < N) w ((wr.alloc (.cells (jkC 0 0 0 0 none 0 0 0 0 0 0 0) 95)).setCells g (k * 10) (zrC 0).cs)) := ⟨HF.out.trans ((Fr.of_all (M := fun j => j < N) (below_al wr (.cells (jkC 0 0 0 0 none 0 0 0 0 0 0 0) 95))).trans (Fr.setCells (M := fun j => j < N) hgN _ _ (Fr.refl _ _)))⟩
    clear hroom ho HO HS HAL HF hgN
    focus
     go_wp2_with (at_builtin; go_must (refine wpList_append_arg _ rfl _ _ 38 rfl 95 ii (.agg (jkC 0 0 0 0 none 0 0 0 0 0 0 0)) 10 96 Tryz.underlying38 hii hiz0 hiz1 hiz2 rfl (by decide) g 0 k c (flt shC l) rfl HLO.out HHO.out ⟨wr.heap.size, 0, none⟩ 1 1 [.int .i64 0, .int .i64 0, .int .i64 0, .int .i64 0, .slice none 0 0, .int .i64 0, .int .i64 0, .int .i64 0, .int .i64 0, .int .i64 0] rfl rfl (lit_at wr _ _) (cs_one (zrC 0)) (fun _ => HSP.out) (by unfold maxLen; omega) (by omega) (fun _ => ?_) (fun h => absurd h (by omega))); generalize hW : World.setCells (wr.alloc (.cells (jkC 0 0 0 0 none 0 0 0 0 0 0 0) 95)) g _ _ = W9; have H9 : Hk (Sc B w W9) := ⟨by rw [← hW, Nat.zero_add]; exact H4.out⟩; have H8 : Hk (Fr (fun j => j < N) w W9) := ⟨by rw [← hW, Nat.zero_add]; exact H5.out⟩; clear hW H4 H5)
     go_end0
     exact ⟨rfl, H9.out, H8.out⟩
   ·have hcn : c < k + 1 := by omega
    clear hroom HO
    focus
     go_wp2_with (at_builtin; go_must (refine wpList_append_grows _ rfl _ _ 38 rfl 95 ii (.agg (jkC 0 0 0 0 none 0 0 0 0 0 0 0)) 10 96 Tryz.underlying38 hii hiz0 hiz1 hiz2 rfl (by decide) a k c olds rfl HNN.out HLO.out HCS.out ⟨wr.heap.size, 0, none⟩ 1 1 [.int .i64 0, .int .i64 0, .int .i64 0, .int .i64 0, .slice none 0 0, .int .i64 0, .int .i64 0, .int .i64 0, .int .i64 0, .int .i64 0] rfl rfl (lit_at wr _ _) (cs_one (zrC 0)) hcn (by unfold maxLen; omega) (by omega) ?_); intro v8 z8 hown hgrow; have H8 := Hk.mk (HS.out.trans (Sc.of_all (Nat.le_trans hB HS.out.bl.size) (below_gr hgrow))); have H9 := Hk.mk (HF.out.trans (Fr.of_all (M := fun j => j < N) (below_gr hgrow))); clear hown hgrow)
     go_end0
     exact ⟨rfl, H8.out, H9.out⟩
end Go.Proofs.YtdpblimhfmfbnaaGreat
