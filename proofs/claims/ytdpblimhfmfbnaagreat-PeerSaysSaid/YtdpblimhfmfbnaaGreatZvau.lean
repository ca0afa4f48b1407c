import Derived.Deep.QuietTactic
import Derived.BigQuiet
import Derived.Deep.RegionWith
import Derived.Deep.RegionHeld3
import Derived.Deep.DeepCutAuto
import Derived.Deep.DeepFit
import Derived.Outline
import Derived.Test.YtdpblimhfmfbnaaGreatZvat
import Derived.Test.YtdpblimhfmfbnaaGreatZva
import Derived.Test.YtdpblimhfmfbnaaGreatZval
import Derived.Test.YtdpblimhfmfbnaaGreatZvap
set_option linter.unusedVariables false
set_option linter.unusedSimpArgs false
namespace Go.Proofs.YtdpblimhfmfbnaaGreat
open List renaming getElem_toArray → jjA, getElem_cons_succ → jjB, getElem_cons_zero → jjC, setIfInBounds_toArray → jjD, set_cons_zero → jjE, set_cons_succ → jjF
open Go.ChangeShapes Go.WideShapes Go.ChangeAt Go.RowKit Go.Deep
theorem OwC.shu2 {z : World} {B N n c : Nat} {a : Option Addr} {l : List Cv} (h : OwC z B (.slice a n c) n l) (hs : SmC l) (h1 : LtN N a c) (h2 : ∀ x, x ∈ l → LtN N x.a x.c) : ShU z B N a n c := ⟨(h.shc hs).1, h1, .inl ⟨l, h.o, fun x hx => ⟨hs.m x hx, x.u, h.u x hx⟩, h2⟩⟩
set_option maxRecDepth 100000 in
set_option maxHeartbeats 3200000 in
theorem step0_yes (p : Pv) (q : Av) (M : List In) (w : World) (hw : (∀ w, Calls Tryz.prog 18 #[.int .i64 q.o, .int .i64 9] w fun e w' => e = .returned (.int .i64 0) ∧ ∃ m, w' = w.drewN m)) (h : PvD w w.heap.size p) (hs : PvS p) (hk : OkP p.ab) (hq : AvD w w.heap.size q) (hsq : SmC q.ll) (E : ¬ (p.s = p.t + p.d - 1 ∨ p.s = 1099511627776)) (EM : okN (sayI p.ab (abC q.ll)) = true) (EP : putN (sayI p.ab (abC q.ll)) p.ab.l = some M) (hmn : p.mn + 1 ≤ 1048576) (hln : p.ln + 1 ≤ 1048576) :
  Calls Tryz.prog 15 #[.agg (jjP p), .agg (jjQ q)] w fun e z => (∃ u : Pv, e = .returned (.tuple #[.agg (jjP u), .bool true])) ∧ Below w.heap.size w z := by
 have HWI := Hk.mk hw
 have HOK := Hk.mk hk
 have HE := Hk.mk E
 have HM := Hk.mk EM
 have HP := Hk.mk EP
 have HMN := Hk.mk hmn
 have HLN := Hk.mk hln
 have HSQ := Hk.mk hsq
 have HQL : Hk (∀ X, Below w.heap.size w X → CmD X X.heap.size q.la q.ln q.ll) := ⟨fun X hX => hq.l.later hX⟩
 clear hw hsq hq hk E EM EP hmn hln
 have HBW : Hk (Below w.heap.size w (((w.alloc (.cells (jjP p) 26)).alloc (.cells (jjQ q) 45)).alloc (.cells jjZ 26))) := ⟨(((Below.refl _ _).alloc (Nat.le_refl _) _).alloc (by simp) _).alloc (by simp <;> omega) _⟩
 have e1 : (w.alloc (.cells (jjP p) 26)).heap.size = w.heap.size + 1 := by simp
 have e2 : ((w.alloc (.cells (jjP p) 26)).alloc (.cells (jjQ q) 45)).heap.size = w.heap.size + 2 := by simp
 have HPB : Hk (Bk (((w.alloc (.cells (jjP p) 26)).alloc (.cells (jjQ q) 45)).alloc (.cells jjZ 26)) w.heap.size (jjP p)) := ⟨((Bk.new w (jjP p) 26).al _).al _⟩
 have HAB : Hk (Bk (((w.alloc (.cells (jjP p) 26)).alloc (.cells (jjQ q) 45)).alloc (.cells jjZ 26)) (w.heap.size + 1) (jjQ q)) := ⟨by rw [← e1]; exact (Bk.new (w.alloc (.cells (jjP p) 26)) (jjQ q) 45).al _⟩
 have HRB : Hk (Bk (((w.alloc (.cells (jjP p) 26)).alloc (.cells (jjQ q) 45)).alloc (.cells jjZ 26)) (w.heap.size + 2) jjZ) := ⟨by rw [← e2]; exact Bk.new ((w.alloc (.cells (jjP p) 26)).alloc (.cells (jjQ q) 45)) jjZ 26⟩
 have HRBX : Hk (Bx (((w.alloc (.cells (jjP p) 26)).alloc (.cells (jjQ q) 45)).alloc (.cells jjZ 26)) (w.heap.size + 2) nilV) := ⟨by rw [← e2]; exact Bx.new ((w.alloc (.cells (jjP p) 26)).alloc (.cells (jjQ q) 45)) nilV⟩
 have HDP : Hk (∀ X, Below w.heap.size w X → PvD X X.heap.size p) := ⟨fun X hX => h.later hX⟩
 have HS := Hk.mk hs
 clear e1 e2 h hs
 go_enter Tryz.func15, Tryz.ntmps15
 go_upto_region 1 with fail
 generalize (((w.alloc (.cells (jjP p) 26)).alloc (.cells (jjQ q) 45)).alloc (.cells jjZ 26)) = V at *
 have c0 := HPB.out.c 0; have c1 := HPB.out.c 1; have c2 := HPB.out.c 2; have c3 := HPB.out.c 3; have c4 := HPB.out.c 4; have c5 := HPB.out.c 5; have c6 := HPB.out.c 6; have c7 := HPB.out.c 7; have c8 := HPB.out.c 8; have c9 := HPB.out.c 9; have c10 := HPB.out.c 10; have cl := HPB.out.lt; simp at c0 c1 c2 c3 c4 c5 c6 c7 c8 c9 c10
 go_upto_region 2 with (go_at_call 11; (with_reducible refine (copyp_any p _ (HDP.out _ HBW.out) HS.out).mono ?_); rintro e z ⟨u, rfl, ho, hab, g1, g2, g3, g4, g5, hb⟩; have HO := Hk.mk ho; have HAU := Hk.mk hab; have HSU := Hk.mk (HS.out.like (HDP.out _ HBW.out) ho.d hab g1 g2 g3 g4 g5); have HB2 := Hk.mk hb; clear ho hab g1 g2 g3 g4 g5 hb)
 clear c0 c1 c2 c3 c4 c5 c6 c7 c8 c9 c10 cl
 have HO2 : Hk (PvO (z.alloc (.cells (jjP u) 26)) V.heap.size u) := ⟨HO.out.below ((Below.refl _ _).alloc (Nat.le_refl _) _)⟩
 have HP2 : Hk (Bk (z.alloc (.cells (jjP u) 26)) w.heap.size (jjP p)) := ⟨(HPB.out.below HB2.out).al _⟩
 have HA2 : Hk (Bk (z.alloc (.cells (jjP u) 26)) (w.heap.size + 1) (jjQ q)) := ⟨(HAB.out.below HB2.out).al _⟩
 have HR2 : Hk (Bk (z.alloc (.cells (jjP u) 26)) (w.heap.size + 2) jjZ) := ⟨(HRB.out.below HB2.out).al _⟩
 have HRX : Hk (Bx (z.alloc (.cells (jjP u) 26)) (w.heap.size + 2) nilV) := ⟨(HRBX.out.below HB2.out).al _⟩
 have HQ2 : Hk (Bk (z.alloc (.cells (jjP u) 26)) z.heap.size (jjP u)) := ⟨Bk.new z (jjP u) 26⟩
 have HBV : Hk (Below w.heap.size w (z.alloc (.cells (jjP u) 26))) := ⟨kw_al (HBW.out.trans (HB2.out.mono HBW.out.size)) (Nat.le_refl _) _⟩
 have HRV : Hk ((w.heap.size + 2) < V.heap.size) := ⟨HRB.out.lt⟩
 have NPR : ¬ w.heap.size = (w.heap.size + 2) := by omega
 have NQR : ¬ z.heap.size = (w.heap.size + 2) := by have h1 := HRB.out.lt; have h2 := HB2.out.size; omega
 clear HO HB2 HPB HAB HRB HRBX HBW
 generalize V.heap.size = B0 at *
 generalize z.heap.size = Q at *
 generalize (z.alloc (.cells (jjP u) 26)) = V2 at *
 have HVF : Hk (∀ X, Below V2.heap.size V2 X → X.cell? ⟨w.heap.size, 0, none⟩ = some (.int .i64 p.i) ∧ X.cell? ⟨w.heap.size, 1, none⟩ = some (.int .i64 p.n) ∧ X.cell? ⟨w.heap.size, 2, none⟩ = some (.int .i64 p.d) ∧ X.cell? ⟨w.heap.size, 3, none⟩ = some (.int .i64 p.t) ∧ X.cell? ⟨w.heap.size, 4, none⟩ = some (.int .i64 p.s) ∧ X.cell? ⟨w.heap.size, 5, none⟩ = some (.slice p.ma p.mn p.mc) ∧ X.cell? ⟨w.heap.size, 6, none⟩ = some (.slice p.la p.ln p.lc) ∧ X.cell? ⟨w.heap.size, 7, none⟩ = some (.slice p.ha p.hn p.hc) ∧ X.cell? ⟨w.heap.size, 8, none⟩ = some (.slice p.aa p.an p.ac) ∧ X.cell? ⟨w.heap.size, 9, none⟩ = some (.slice p.xa p.xn p.xc) ∧ X.cell? ⟨w.heap.size, 10, none⟩ = some (.bool p.b) ∧ X.cell? ⟨Q, 0, none⟩ = some (.int .i64 u.i) ∧ X.cell? ⟨Q, 1, none⟩ = some (.int .i64 u.n) ∧ X.cell? ⟨Q, 2, none⟩ = some (.int .i64 u.d) ∧ X.cell? ⟨Q, 3, none⟩ = some (.int .i64 u.t) ∧ X.cell? ⟨Q, 4, none⟩ = some (.int .i64 u.s) ∧ X.cell? ⟨Q, 5, none⟩ = some (.slice u.ma u.mn u.mc) ∧ X.cell? ⟨Q, 6, none⟩ = some (.slice u.la u.ln u.lc) ∧ X.cell? ⟨Q, 7, none⟩ = some (.slice u.ha u.hn u.hc) ∧ X.cell? ⟨Q, 8, none⟩ = some (.slice u.aa u.an u.ac) ∧ X.cell? ⟨Q, 9, none⟩ = some (.slice u.xa u.xn u.xc) ∧ X.cell? ⟨Q, 10, none⟩ = some (.bool u.b) ∧ X.cell? ⟨w.heap.size + 1, 0, none⟩ = some (.int .i64 q.o) ∧ X.cell? ⟨w.heap.size + 1, 1, none⟩ = some (.slice q.la q.ln q.lc) ∧ X.cell? ⟨w.heap.size + 1, 2, none⟩ = some (.int .i64 q.e.f) ∧ X.cell? ⟨w.heap.size + 1, 3, none⟩ = some (.int .i64 q.e.t) ∧ X.cell? ⟨w.heap.size + 1, 4, none⟩ = some (.int .i64 q.e.q.t) ∧ X.cell? ⟨w.heap.size + 1, 5, none⟩ = some (.int .i64 q.e.q.p) ∧ X.cell? ⟨w.heap.size + 1, 6, none⟩ = some (.slice q.e.q.a q.e.q.n q.e.q.c) ∧ X.cell? ⟨w.heap.size + 1, 7, none⟩ = some (.int .i64 q.e.d) ∧ X.cell? ⟨w.heap.size + 1, 8, none⟩ = some (.int .u64 q.e.h) ∧ X.cell? ⟨w.heap.size + 1, 9, none⟩ = some (.int .i64 q.e.v) ∧ X.cell? ⟨w.heap.size + 1, 10, none⟩ = some (.bool q.b) ∧ X.cell? ⟨w.heap.size + 1, 11, none⟩ = some (.int .u64 q.h) ∧ w.heap.size < X.heap.size ∧ Q < X.heap.size ∧ w.heap.size + 1 < X.heap.size) := ⟨fun X hX => by
  have hp := HP2.out.below hX
  have hu := HQ2.out.below hX
  have ha := HA2.out.below hX
  exact ⟨hp.c 0, hp.c 1, hp.c 2, hp.c 3, hp.c 4, hp.c 5, hp.c 6, hp.c 7, hp.c 8, hp.c 9, hp.c 10, hu.c 0, hu.c 1, hu.c 2, hu.c 3, hu.c 4, hu.c 5, hu.c 6, hu.c 7, hu.c 8, hu.c 9, hu.c 10, ha.c 0, ha.c 1, ha.c 2, ha.c 3, ha.c 4, ha.c 5, ha.c 6, ha.c 7, ha.c 8, ha.c 9, ha.c 10, ha.c 11, hp.lt, hu.lt, ha.lt⟩⟩
 have HTR : Hk (∀ X, Below V2.heap.size V2 X → Below w.heap.size w X) := ⟨fun X hX => HBV.out.trans (hX.mono HBV.out.size)⟩
 have HDU : Hk (∀ X, Below V2.heap.size V2 X → PvD X X.heap.size u) := ⟨fun X hX => (HO2.out.below hX).d⟩
 have HV : Hk (Below V2.heap.size V2 V2) := ⟨Below.refl _ _⟩
 clear HP2 HA2 HQ2 HBV
 obtain ⟨y0, y1, y2, y3, y4, y5, y6, y7, y8, y9, y10, d0, d1, d2, d3, d4, d5, d6, d7, d8, d9, d10, a0, a1, a2, a3, a4, a5, a6, a7, a8, a9, a10, a11, yl, dl, al⟩ := HVF.out _ HV.out
 have HKU : Hk (OkP u.ab) := ⟨by rw [HAU.out]; exact HOK.out⟩
 have HEU : Hk (¬ (u.s = u.t + u.d - 1 ∨ u.s = 1099511627776)) := ⟨by obtain ⟨-, -, b3, b4, b5, -⟩ := (ab_iff u p).1 HAU.out; rw [b3, b4, b5]; exact HE.out⟩
 have HMNU : Hk (u.mn + 1 ≤ 1048576) := ⟨by obtain ⟨-, -, -, -, -, a6, a7, -⟩ := (ab_iff u p).1 HAU.out; have l1 := congrArg List.length a6; rw [abI_len, abI_len] at l1; have h1 := (HDU.out _ HV.out).m.q.len; have h2 := (HDP.out _ (HTR.out _ HV.out)).m.q.len; have h3 := HMN.out; omega⟩
 have HLNU : Hk (u.ln + 1 ≤ 1048576) := ⟨by obtain ⟨-, -, -, -, -, a6, a7, -⟩ := (ab_iff u p).1 HAU.out; have l1 := congrArg List.length a7; rw [abI_len, abI_len] at l1; have h1 := (HDU.out _ HV.out).l.q.len; have h2 := (HDP.out _ (HTR.out _ HV.out)).l.q.len; have h3 := HLN.out; omega⟩
 go_upto_region 3 with (go_at_call 12; (with_reducible refine (rpeer_as true p _ (HDP.out _ (HTR.out _ HV.out)) HS.out ⟨⟨fun _ => rfl, fun _ => HOK.out⟩⟩).mono ?_); rintro e z ⟨rfl, hb⟩; have HV9 := Hk.mk (kw_step HV.out (Nat.le_refl _) hb); clear y0 y1 y2 y3 y4 y5 y6 y7 y8 y9 y10 d0 d1 d2 d3 d4 d5 d6 d7 d8 d9 d10 a0 a1 a2 a3 a4 a5 a6 a7 a8 a9 a10 a11 yl dl al; clear hb; replace HV := HV9; clear HV9; obtain ⟨y0, y1, y2, y3, y4, y5, y6, y7, y8, y9, y10, d0, d1, d2, d3, d4, d5, d6, d7, d8, d9, d10, a0, a1, a2, a3, a4, a5, a6, a7, a8, a9, a10, a11, yl, dl, al⟩ := HVF.out _ HV.out)
 go_upto_region 6 with fail
 have HV9 : Hk (Below V2.heap.size V2 ((z.alloc (.cells jjZ 26)).alloc (.cells jjZ 26))) := ⟨kw_al (kw_al HV.out (Nat.le_refl _) _) (Nat.le_refl _) _⟩
 have HWB : Hk (Bx ((z.alloc (.cells jjZ 26)).alloc (.cells jjZ 26)) z.heap.size nilV) := ⟨(Bx.new z nilV).al _⟩
 have e9 : (z.alloc (.cells jjZ 26)).heap.size = z.heap.size + 1 := by simp
 have HXB : Hk (Bx ((z.alloc (.cells jjZ 26)).alloc (.cells jjZ 26)) (z.heap.size + 1) nilV) := ⟨by rw [← e9]; exact Bx.new (z.alloc (.cells jjZ 26)) nilV⟩
 have HNB : Hk (V2.heap.size ≤ z.heap.size) := ⟨HV.out.size⟩
 have HRW : Hk (¬ (w.heap.size + 2) = z.heap.size ∧ ¬ (w.heap.size + 2) = z.heap.size + 1) := ⟨by have h1 := HR2.out.lt; have h2 := HV.out.size; omega⟩
 clear e9
 clear y0 y1 y2 y3 y4 y5 y6 y7 y8 y9 y10 d0 d1 d2 d3 d4 d5 d6 d7 d8 d9 d10 a0 a1 a2 a3 a4 a5 a6 a7 a8 a9 a10 a11 yl dl al
 replace HV := HV9
 clear HV9
 generalize z.heap.size = wb at *
 generalize ((z.alloc (.cells jjZ 26)).alloc (.cells jjZ 26)) = V3 at *
 obtain ⟨y0, y1, y2, y3, y4, y5, y6, y7, y8, y9, y10, d0, d1, d2, d3, d4, d5, d6, d7, d8, d9, d10, a0, a1, a2, a3, a4, a5, a6, a7, a8, a9, a10, a11, yl, dl, al⟩ := HVF.out _ HV.out
 go_upto_region 9 with (first | (go_at_call 18; (with_reducible refine (HWI.out _).mono ?_); rintro e z ⟨rfl, hz⟩; have hb := below_m hz; clear hz; have HWB9 := Hk.mk (HWB.out.below hb); have HXB9 := Hk.mk (HXB.out.below hb); clear HWB HXB; have HWB := HWB9; have HXB := HXB9; clear HWB9 HXB9; have HV9 := Hk.mk (kw_step HV.out (Nat.le_refl _) hb); clear y0 y1 y2 y3 y4 y5 y6 y7 y8 y9 y10 d0 d1 d2 d3 d4 d5 d6 d7 d8 d9 d10 a0 a1 a2 a3 a4 a5 a6 a7 a8 a9 a10 a11 yl dl al; clear hb; replace HV := HV9; clear HV9; obtain ⟨y0, y1, y2, y3, y4, y5, y6, y7, y8, y9, y10, d0, d1, d2, d3, d4, d5, d6, d7, d8, d9, d10, a0, a1, a2, a3, a4, a5, a6, a7, a8, a9, a10, a11, yl, dl, al⟩ := HVF.out _ HV.out) | (go_at_call 50; (with_reducible refine (rsay_yes p q.la q.ln q.lc q.ll M _ (HDP.out _ (HTR.out _ HV.out)) HS.out HOK.out (HQL.out _ (HTR.out _ HV.out)) HSQ.out HE.out HM.out HP.out HMN.out HLN.out).mono ?_); rintro e z ⟨wv, rfl, ho, hwa, hws, hb⟩; have HWO := Hk.mk (ho.weak HV.out.size); have HWA := Hk.mk hwa; have HWS := Hk.mk hws; clear ho hwa hws; have HWB9 := Hk.mk (HWB.out.below hb); have HXB9 := Hk.mk (HXB.out.below hb); clear HWB HXB; have HWB := HWB9; have HXB := HXB9; clear HWB9 HXB9; have HV9 := Hk.mk (kw_step HV.out (Nat.le_refl _) hb); clear y0 y1 y2 y3 y4 y5 y6 y7 y8 y9 y10 d0 d1 d2 d3 d4 d5 d6 d7 d8 d9 d10 a0 a1 a2 a3 a4 a5 a6 a7 a8 a9 a10 a11 yl dl al; clear hb; replace HV := HV9; clear HV9; obtain ⟨y0, y1, y2, y3, y4, y5, y6, y7, y8, y9, y10, d0, d1, d2, d3, d4, d5, d6, d7, d8, d9, d10, a0, a1, a2, a3, a4, a5, a6, a7, a8, a9, a10, a11, yl, dl, al⟩ := HVF.out _ HV.out; have x0 := HWB.out.bk.c 0; have x1 := HWB.out.bk.c 1; have x2 := HWB.out.bk.c 2; have x3 := HWB.out.bk.c 3; have x4 := HWB.out.bk.c 4; have x5 := HWB.out.bk.c 5; have x6 := HWB.out.bk.c 6; have x7 := HWB.out.bk.c 7; have x8 := HWB.out.bk.c 8; have x9 := HWB.out.bk.c 9; have x10 := HWB.out.bk.c 10; have xl := HWB.out.lt; simp at x0 x1 x2 x3 x4 x5 x6 x7 x8 x9 x10; have j0 := HWB.out.bk.f 0; have j1 := HWB.out.bk.f 1; have j2 := HWB.out.bk.f 2; have j3 := HWB.out.bk.f 3; have j4 := HWB.out.bk.f 4; have j5 := HWB.out.bk.f 5; have j6 := HWB.out.bk.f 6; have j7 := HWB.out.bk.f 7; have j8 := HWB.out.bk.f 8; have j9 := HWB.out.bk.f 9; have j10 := HWB.out.bk.f 10))
 have HKW := Hk.mk (Kt.put (B := V2.heap.size) HWB.out HNB.out wv)
 have HWO6 : Hk (PvO ((((((((((((World.setCell z ⟨wb, 0, none⟩ (.int .i64 wv.i)).setCell ⟨wb, 1, none⟩ (.int .i64 wv.n)).setCell ⟨wb, 2, none⟩ (.int .i64 wv.d)).setCell ⟨wb, 3, none⟩ (.int .i64 wv.t)).setCell ⟨wb, 4, none⟩ (.int .i64 wv.s)).setCell ⟨wb, 5, none⟩ (.slice wv.ma wv.mn wv.mc)).setCell ⟨wb, 6, none⟩ (.slice wv.la wv.ln wv.lc)).setCell ⟨wb, 7, none⟩ (.slice wv.ha wv.hn wv.hc)).setCell ⟨wb, 8, none⟩ (.slice wv.aa wv.an wv.ac)).setCell ⟨wb, 9, none⟩ (.slice wv.xa wv.xn wv.xc)).setCell ⟨wb, 10, none⟩ (.bool wv.b))) V2.heap.size wv) := ⟨HKW.out.pvo HWO.out⟩
 have HWB6 : Hk (Bx ((((((((((((World.setCell z ⟨wb, 0, none⟩ (.int .i64 wv.i)).setCell ⟨wb, 1, none⟩ (.int .i64 wv.n)).setCell ⟨wb, 2, none⟩ (.int .i64 wv.d)).setCell ⟨wb, 3, none⟩ (.int .i64 wv.t)).setCell ⟨wb, 4, none⟩ (.int .i64 wv.s)).setCell ⟨wb, 5, none⟩ (.slice wv.ma wv.mn wv.mc)).setCell ⟨wb, 6, none⟩ (.slice wv.la wv.ln wv.lc)).setCell ⟨wb, 7, none⟩ (.slice wv.ha wv.hn wv.hc)).setCell ⟨wb, 8, none⟩ (.slice wv.aa wv.an wv.ac)).setCell ⟨wb, 9, none⟩ (.slice wv.xa wv.xn wv.xc)).setCell ⟨wb, 10, none⟩ (.bool wv.b))) wb wv) := ⟨HWB.out.put wv⟩
 have HXB6 : Hk (Bx ((((((((((((World.setCell z ⟨wb, 0, none⟩ (.int .i64 wv.i)).setCell ⟨wb, 1, none⟩ (.int .i64 wv.n)).setCell ⟨wb, 2, none⟩ (.int .i64 wv.d)).setCell ⟨wb, 3, none⟩ (.int .i64 wv.t)).setCell ⟨wb, 4, none⟩ (.int .i64 wv.s)).setCell ⟨wb, 5, none⟩ (.slice wv.ma wv.mn wv.mc)).setCell ⟨wb, 6, none⟩ (.slice wv.la wv.ln wv.lc)).setCell ⟨wb, 7, none⟩ (.slice wv.ha wv.hn wv.hc)).setCell ⟨wb, 8, none⟩ (.slice wv.aa wv.an wv.ac)).setCell ⟨wb, 9, none⟩ (.slice wv.xa wv.xn wv.xc)).setCell ⟨wb, 10, none⟩ (.bool wv.b))) (wb + 1) nilV) := ⟨HXB.out.fr (fr_put wv) (by omega)⟩
 have HV6 : Hk (Below V2.heap.size V2 ((((((((((((World.setCell z ⟨wb, 0, none⟩ (.int .i64 wv.i)).setCell ⟨wb, 1, none⟩ (.int .i64 wv.n)).setCell ⟨wb, 2, none⟩ (.int .i64 wv.d)).setCell ⟨wb, 3, none⟩ (.int .i64 wv.t)).setCell ⟨wb, 4, none⟩ (.int .i64 wv.s)).setCell ⟨wb, 5, none⟩ (.slice wv.ma wv.mn wv.mc)).setCell ⟨wb, 6, none⟩ (.slice wv.la wv.ln wv.lc)).setCell ⟨wb, 7, none⟩ (.slice wv.ha wv.hn wv.hc)).setCell ⟨wb, 8, none⟩ (.slice wv.aa wv.an wv.ac)).setCell ⟨wb, 9, none⟩ (.slice wv.xa wv.xn wv.xc)).setCell ⟨wb, 10, none⟩ (.bool wv.b)))) := ⟨HV.out.trans HKW.out.bl⟩
 clear HWB HXB HV HKW HWO
 clear y0 y1 y2 y3 y4 y5 y6 y7 y8 y9 y10 d0 d1 d2 d3 d4 d5 d6 d7 d8 d9 d10 a0 a1 a2 a3 a4 a5 a6 a7 a8 a9 a10 a11 yl dl al
 clear x0 x1 x2 x3 x4 x5 x6 x7 x8 x9 x10 xl
 clear j0 j1 j2 j3 j4 j5 j6 j7 j8 j9 j10
 generalize ((((((((((((World.setCell z ⟨wb, 0, none⟩ (.int .i64 wv.i)).setCell ⟨wb, 1, none⟩ (.int .i64 wv.n)).setCell ⟨wb, 2, none⟩ (.int .i64 wv.d)).setCell ⟨wb, 3, none⟩ (.int .i64 wv.t)).setCell ⟨wb, 4, none⟩ (.int .i64 wv.s)).setCell ⟨wb, 5, none⟩ (.slice wv.ma wv.mn wv.mc)).setCell ⟨wb, 6, none⟩ (.slice wv.la wv.ln wv.lc)).setCell ⟨wb, 7, none⟩ (.slice wv.ha wv.hn wv.hc)).setCell ⟨wb, 8, none⟩ (.slice wv.aa wv.an wv.ac)).setCell ⟨wb, 9, none⟩ (.slice wv.xa wv.xn wv.xc)).setCell ⟨wb, 10, none⟩ (.bool wv.b))) = Vy at *
 have HV := HV6
 have HWB := HWB6
 have HWB5 := HWB6
 have HXB := HXB6
 have HWO := HWO6
 have HB5 : Hk (V2.heap.size ≤ Vy.heap.size) := ⟨HV6.out.size⟩
 have HL5 : Hk (V2.heap.size ≤ Vy.heap.size) := ⟨HV6.out.size⟩
 have HT5 : Hk (∀ j cur T fr, Vy.heap[j]? = some (Obj.cells cur T fr) → j = wb + 1 → T = 26) := ⟨fun j cur T fr e hj => by
  subst hj
  rw [HXB6.out.bl] at e
  injection e with e
  injection e with _ e
  exact e.symm⟩
 have HXL5 : Hk (wb + 1 < Vy.heap.size) := ⟨HXB6.out.lt⟩
 clear HV6 HWB6 HXB6 HWO6
 obtain ⟨y0, y1, y2, y3, y4, y5, y6, y7, y8, y9, y10, d0, d1, d2, d3, d4, d5, d6, d7, d8, d9, d10, a0, a1, a2, a3, a4, a5, a6, a7, a8, a9, a10, a11, yl, dl, al⟩ := HVF.out _ HV.out
 go_upto_region 10 with (go_at_call 51; (with_reducible refine (copycs_any q.la q.ln q.lc q.ll _ (HQL.out _ (HTR.out _ HV.out)) HSQ.out).mono ?_); rintro e z ⟨v, L, rfl, ho, hab2, hb⟩; obtain ⟨ca, cc, rfl⟩ := ho.form; have HOC := Hk.mk ho; have HAC := Hk.mk hab2; have HSC : Hk (SmC L) := ⟨smC_like hab2 (fun x hx => (ho.u x hx).nq.len) (fun x hx => ((HQL.out _ (HTR.out _ HV.out)).u x hx).len) HSQ.out⟩; have HFX := Hk.mk (Fr.of_all (M := fun j => j = wb + 1) hb); clear ho hab2; have HWB9 := Hk.mk (HWB.out.below hb); have HXB9 := Hk.mk (HXB.out.below hb); clear HWB HXB; have HWB := HWB9; have HXB := HXB9; clear HWB9 HXB9; have HV9 := Hk.mk (kw_step HV.out (Nat.le_refl _) hb); clear y0 y1 y2 y3 y4 y5 y6 y7 y8 y9 y10 d0 d1 d2 d3 d4 d5 d6 d7 d8 d9 d10 a0 a1 a2 a3 a4 a5 a6 a7 a8 a9 a10 a11 yl dl al; clear hb; replace HV := HV9; clear HV9; obtain ⟨y0, y1, y2, y3, y4, y5, y6, y7, y8, y9, y10, d0, d1, d2, d3, d4, d5, d6, d7, d8, d9, d10, a0, a1, a2, a3, a4, a5, a6, a7, a8, a9, a10, a11, yl, dl, al⟩ := HVF.out _ HV.out)
 have HLT : Hk (LtN z.heap.size ca cc ∧ ∀ x, x ∈ L → LtN z.heap.size x.a x.c) := ⟨HOC.out.ltn, fun x hx => (HOC.out.u x hx).ltn⟩
 have HCY : Hk (Vy.heap.size ≤ z.heap.size) := ⟨HFX.out.size⟩
 have HMU : Hk (okN (sayI u.ab (abC L)) = true) := ⟨by rw [HAU.out, HAC.out]; exact HM.out⟩
 have HPU : Hk (putN (sayI u.ab (abC L)) u.ab.l = some M) := ⟨by rw [HAU.out, HAC.out]; exact HP.out⟩
 generalize z = Vc at *
 go_upto_region 11 with (go_at_call 22; (with_reducible refine (psay_yes u ca q.ln cc L M _ (HDU.out _ HV.out) HSU.out HKU.out HOC.out.d HSC.out HEU.out HMU.out HPU.out HMNU.out HLNU.out).mono ?_); rintro e z ⟨xv, rfl, ho, hxa, hxs, hb⟩; have HXO := Hk.mk ho; have HXA := Hk.mk hxa; have HXS := Hk.mk hxs; replace HOC := Hk.mk (HOC.out.below hb); replace HFX := Hk.mk (HFX.out.trans (Fr.of_all hb)); clear ho hxa hxs; have HWB9 := Hk.mk (HWB.out.below hb); have HXB9 := Hk.mk (HXB.out.below hb); clear HWB HXB; have HWB := HWB9; have HXB := HXB9; clear HWB9 HXB9; have HV9 := Hk.mk (kw_step HV.out (Nat.le_refl _) hb); clear y0 y1 y2 y3 y4 y5 y6 y7 y8 y9 y10 d0 d1 d2 d3 d4 d5 d6 d7 d8 d9 d10 a0 a1 a2 a3 a4 a5 a6 a7 a8 a9 a10 a11 yl dl al; clear hb; replace HV := HV9; clear HV9; obtain ⟨y0, y1, y2, y3, y4, y5, y6, y7, y8, y9, y10, d0, d1, d2, d3, d4, d5, d6, d7, d8, d9, d10, a0, a1, a2, a3, a4, a5, a6, a7, a8, a9, a10, a11, yl, dl, al⟩ := HVF.out _ HV.out; have x0 := HXB.out.bk.c 0; have x1 := HXB.out.bk.c 1; have x2 := HXB.out.bk.c 2; have x3 := HXB.out.bk.c 3; have x4 := HXB.out.bk.c 4; have x5 := HXB.out.bk.c 5; have x6 := HXB.out.bk.c 6; have x7 := HXB.out.bk.c 7; have x8 := HXB.out.bk.c 8; have x9 := HXB.out.bk.c 9; have x10 := HXB.out.bk.c 10; have xl := HXB.out.lt; simp at x0 x1 x2 x3 x4 x5 x6 x7 x8 x9 x10; have j0 := HXB.out.bk.f 0; have j1 := HXB.out.bk.f 1; have j2 := HXB.out.bk.f 2; have j3 := HXB.out.bk.f 3; have j4 := HXB.out.bk.f 4; have j5 := HXB.out.bk.f 5; have j6 := HXB.out.bk.f 6; have j7 := HXB.out.bk.f 7; have j8 := HXB.out.bk.f 8; have j9 := HXB.out.bk.f 9; have j10 := HXB.out.bk.f 10)
 have HXB6 : Hk (Bx ((((((((((((World.setCell z ⟨(wb + 1), 0, none⟩ (.int .i64 xv.i)).setCell ⟨(wb + 1), 1, none⟩ (.int .i64 xv.n)).setCell ⟨(wb + 1), 2, none⟩ (.int .i64 xv.d)).setCell ⟨(wb + 1), 3, none⟩ (.int .i64 xv.t)).setCell ⟨(wb + 1), 4, none⟩ (.int .i64 xv.s)).setCell ⟨(wb + 1), 5, none⟩ (.slice xv.ma xv.mn xv.mc)).setCell ⟨(wb + 1), 6, none⟩ (.slice xv.la xv.ln xv.lc)).setCell ⟨(wb + 1), 7, none⟩ (.slice xv.ha xv.hn xv.hc)).setCell ⟨(wb + 1), 8, none⟩ (.slice xv.aa xv.an xv.ac)).setCell ⟨(wb + 1), 9, none⟩ (.slice xv.xa xv.xn xv.xc)).setCell ⟨(wb + 1), 10, none⟩ (.bool xv.b))) (wb + 1) xv) := ⟨HXB.out.put xv⟩
 have HWB6 : Hk (Bx ((((((((((((World.setCell z ⟨(wb + 1), 0, none⟩ (.int .i64 xv.i)).setCell ⟨(wb + 1), 1, none⟩ (.int .i64 xv.n)).setCell ⟨(wb + 1), 2, none⟩ (.int .i64 xv.d)).setCell ⟨(wb + 1), 3, none⟩ (.int .i64 xv.t)).setCell ⟨(wb + 1), 4, none⟩ (.int .i64 xv.s)).setCell ⟨(wb + 1), 5, none⟩ (.slice xv.ma xv.mn xv.mc)).setCell ⟨(wb + 1), 6, none⟩ (.slice xv.la xv.ln xv.lc)).setCell ⟨(wb + 1), 7, none⟩ (.slice xv.ha xv.hn xv.hc)).setCell ⟨(wb + 1), 8, none⟩ (.slice xv.aa xv.an xv.ac)).setCell ⟨(wb + 1), 9, none⟩ (.slice xv.xa xv.xn xv.xc)).setCell ⟨(wb + 1), 10, none⟩ (.bool xv.b))) wb wv) := ⟨HWB.out.fr (fr_put xv) (by omega)⟩
 have HV6 : Hk (Below V2.heap.size V2 ((((((((((((World.setCell z ⟨(wb + 1), 0, none⟩ (.int .i64 xv.i)).setCell ⟨(wb + 1), 1, none⟩ (.int .i64 xv.n)).setCell ⟨(wb + 1), 2, none⟩ (.int .i64 xv.d)).setCell ⟨(wb + 1), 3, none⟩ (.int .i64 xv.t)).setCell ⟨(wb + 1), 4, none⟩ (.int .i64 xv.s)).setCell ⟨(wb + 1), 5, none⟩ (.slice xv.ma xv.mn xv.mc)).setCell ⟨(wb + 1), 6, none⟩ (.slice xv.la xv.ln xv.lc)).setCell ⟨(wb + 1), 7, none⟩ (.slice xv.ha xv.hn xv.hc)).setCell ⟨(wb + 1), 8, none⟩ (.slice xv.aa xv.an xv.ac)).setCell ⟨(wb + 1), 9, none⟩ (.slice xv.xa xv.xn xv.xc)).setCell ⟨(wb + 1), 10, none⟩ (.bool xv.b)))) := ⟨HV.out.trans (Kt.put (B := V2.heap.size) HXB.out (by have := HNB.out; omega) xv).bl⟩
 have HFX6 : Hk (Fr (fun j => j = wb + 1) Vy ((((((((((((World.setCell z ⟨(wb + 1), 0, none⟩ (.int .i64 xv.i)).setCell ⟨(wb + 1), 1, none⟩ (.int .i64 xv.n)).setCell ⟨(wb + 1), 2, none⟩ (.int .i64 xv.d)).setCell ⟨(wb + 1), 3, none⟩ (.int .i64 xv.t)).setCell ⟨(wb + 1), 4, none⟩ (.int .i64 xv.s)).setCell ⟨(wb + 1), 5, none⟩ (.slice xv.ma xv.mn xv.mc)).setCell ⟨(wb + 1), 6, none⟩ (.slice xv.la xv.ln xv.lc)).setCell ⟨(wb + 1), 7, none⟩ (.slice xv.ha xv.hn xv.hc)).setCell ⟨(wb + 1), 8, none⟩ (.slice xv.aa xv.an xv.ac)).setCell ⟨(wb + 1), 9, none⟩ (.slice xv.xa xv.xn xv.xc)).setCell ⟨(wb + 1), 10, none⟩ (.bool xv.b)))) := ⟨HFX.out.trans (fr_put xv)⟩
 have HXO6 : Hk (PvO ((((((((((((World.setCell z ⟨(wb + 1), 0, none⟩ (.int .i64 xv.i)).setCell ⟨(wb + 1), 1, none⟩ (.int .i64 xv.n)).setCell ⟨(wb + 1), 2, none⟩ (.int .i64 xv.d)).setCell ⟨(wb + 1), 3, none⟩ (.int .i64 xv.t)).setCell ⟨(wb + 1), 4, none⟩ (.int .i64 xv.s)).setCell ⟨(wb + 1), 5, none⟩ (.slice xv.ma xv.mn xv.mc)).setCell ⟨(wb + 1), 6, none⟩ (.slice xv.la xv.ln xv.lc)).setCell ⟨(wb + 1), 7, none⟩ (.slice xv.ha xv.hn xv.hc)).setCell ⟨(wb + 1), 8, none⟩ (.slice xv.aa xv.an xv.ac)).setCell ⟨(wb + 1), 9, none⟩ (.slice xv.xa xv.xn xv.xc)).setCell ⟨(wb + 1), 10, none⟩ (.bool xv.b))) Vc.heap.size xv) := ⟨HXO.out.fr (fr_put xv) (fun j hj e => by have := HXL5.out; have := HCY.out; omega)⟩
 have HOC6 : Hk (OwC ((((((((((((World.setCell z ⟨(wb + 1), 0, none⟩ (.int .i64 xv.i)).setCell ⟨(wb + 1), 1, none⟩ (.int .i64 xv.n)).setCell ⟨(wb + 1), 2, none⟩ (.int .i64 xv.d)).setCell ⟨(wb + 1), 3, none⟩ (.int .i64 xv.t)).setCell ⟨(wb + 1), 4, none⟩ (.int .i64 xv.s)).setCell ⟨(wb + 1), 5, none⟩ (.slice xv.ma xv.mn xv.mc)).setCell ⟨(wb + 1), 6, none⟩ (.slice xv.la xv.ln xv.lc)).setCell ⟨(wb + 1), 7, none⟩ (.slice xv.ha xv.hn xv.hc)).setCell ⟨(wb + 1), 8, none⟩ (.slice xv.aa xv.an xv.ac)).setCell ⟨(wb + 1), 9, none⟩ (.slice xv.xa xv.xn xv.xc)).setCell ⟨(wb + 1), 10, none⟩ (.bool xv.b))) Vy.heap.size (.slice ca q.ln cc) q.ln L) := ⟨HOC.out.up (fr_put xv) (fun j hj e => by have := HXL5.out; omega)⟩
 clear HXB HWB HV HFX HXO HOC
 clear y0 y1 y2 y3 y4 y5 y6 y7 y8 y9 y10 d0 d1 d2 d3 d4 d5 d6 d7 d8 d9 d10 a0 a1 a2 a3 a4 a5 a6 a7 a8 a9 a10 a11 yl dl al
 clear x0 x1 x2 x3 x4 x5 x6 x7 x8 x9 x10 xl
 clear j0 j1 j2 j3 j4 j5 j6 j7 j8 j9 j10
 generalize ((((((((((((World.setCell z ⟨(wb + 1), 0, none⟩ (.int .i64 xv.i)).setCell ⟨(wb + 1), 1, none⟩ (.int .i64 xv.n)).setCell ⟨(wb + 1), 2, none⟩ (.int .i64 xv.d)).setCell ⟨(wb + 1), 3, none⟩ (.int .i64 xv.t)).setCell ⟨(wb + 1), 4, none⟩ (.int .i64 xv.s)).setCell ⟨(wb + 1), 5, none⟩ (.slice xv.ma xv.mn xv.mc)).setCell ⟨(wb + 1), 6, none⟩ (.slice xv.la xv.ln xv.lc)).setCell ⟨(wb + 1), 7, none⟩ (.slice xv.ha xv.hn xv.hc)).setCell ⟨(wb + 1), 8, none⟩ (.slice xv.aa xv.an xv.ac)).setCell ⟨(wb + 1), 9, none⟩ (.slice xv.xa xv.xn xv.xc)).setCell ⟨(wb + 1), 10, none⟩ (.bool xv.b))) = V7 at *
 have HV := HV6
 have HWB := HWB6
 have HXB := HXB6
 have HFX := HFX6
 have HXO := HXO6
 have HOC := HOC6
 clear HV6 HWB6 HXB6 HFX6 HXO6 HOC6
 obtain ⟨y0, y1, y2, y3, y4, y5, y6, y7, y8, y9, y10, d0, d1, d2, d3, d4, d5, d6, d7, d8, d9, d10, a0, a1, a2, a3, a4, a5, a6, a7, a8, a9, a10, a11, yl, dl, al⟩ := HVF.out _ HV.out
 have x0 := HWB.out.bk.c 0; have x1 := HWB.out.bk.c 1; have x2 := HWB.out.bk.c 2; have x3 := HWB.out.bk.c 3; have x4 := HWB.out.bk.c 4; have x5 := HWB.out.bk.c 5; have x6 := HWB.out.bk.c 6; have x7 := HWB.out.bk.c 7; have x8 := HWB.out.bk.c 8; have x9 := HWB.out.bk.c 9; have x10 := HWB.out.bk.c 10; have xl := HWB.out.lt; simp at x0 x1 x2 x3 x4 x5 x6 x7 x8 x9 x10
 have j0 := HXB.out.bk.c 0; have j1 := HXB.out.bk.c 1; have j2 := HXB.out.bk.c 2; have j3 := HXB.out.bk.c 3; have j4 := HXB.out.bk.c 4; have j5 := HXB.out.bk.c 5; have j6 := HXB.out.bk.c 6; have j7 := HXB.out.bk.c 7; have j8 := HXB.out.bk.c 8; have j9 := HXB.out.bk.c 9; have j10 := HXB.out.bk.c 10; have jl := HXB.out.lt; simp at j0 j1 j2 j3 j4 j5 j6 j7 j8 j9 j10
 go_upto_region 57 with (first | (go_at_call 13; (with_reducible refine (num28_any _ _).mono ?_); rintro e z9 ⟨rfl, hz⟩; rw [hz]; clear hz z9) | (go_at_call 48; (with_reducible refine (eqcs_as true ca q.la q.ln q.ln cc q.lc L q.ll _ HOC.out.d (HQL.out _ (HTR.out _ HV.out)) HSC.out HSQ.out ⟨⟨fun _ => rfl, fun _ => HAC.out⟩⟩).mono ?_); rintro e z ⟨rfl, hb⟩; replace HOC := Hk.mk (HOC.out.below hb); replace HXO := Hk.mk (HXO.out.below hb); have HFX9 := Hk.mk (HFX.out.trans (Fr.of_all hb)); clear HFX; have HFX := HFX9; clear HFX9; have HWB9 := Hk.mk (HWB.out.below hb); have HXB9 := Hk.mk (HXB.out.below hb); clear HWB HXB; have HWB := HWB9; have HXB := HXB9; clear HWB9 HXB9; clear x0 x1 x2 x3 x4 x5 x6 x7 x8 x9 x10 xl; clear j0 j1 j2 j3 j4 j5 j6 j7 j8 j9 j10 jl; have HV9 := Hk.mk (kw_step HV.out (Nat.le_refl _) hb); clear y0 y1 y2 y3 y4 y5 y6 y7 y8 y9 y10 d0 d1 d2 d3 d4 d5 d6 d7 d8 d9 d10 a0 a1 a2 a3 a4 a5 a6 a7 a8 a9 a10 a11 yl dl al; clear hb; replace HV := HV9; clear HV9; obtain ⟨y0, y1, y2, y3, y4, y5, y6, y7, y8, y9, y10, d0, d1, d2, d3, d4, d5, d6, d7, d8, d9, d10, a0, a1, a2, a3, a4, a5, a6, a7, a8, a9, a10, a11, yl, dl, al⟩ := HVF.out _ HV.out; have x0 := HWB.out.bk.c 0; have x1 := HWB.out.bk.c 1; have x2 := HWB.out.bk.c 2; have x3 := HWB.out.bk.c 3; have x4 := HWB.out.bk.c 4; have x5 := HWB.out.bk.c 5; have x6 := HWB.out.bk.c 6; have x7 := HWB.out.bk.c 7; have x8 := HWB.out.bk.c 8; have x9 := HWB.out.bk.c 9; have x10 := HWB.out.bk.c 10; have xl := HWB.out.lt; simp at x0 x1 x2 x3 x4 x5 x6 x7 x8 x9 x10; have j0 := HXB.out.bk.c 0; have j1 := HXB.out.bk.c 1; have j2 := HXB.out.bk.c 2; have j3 := HXB.out.bk.c 3; have j4 := HXB.out.bk.c 4; have j5 := HXB.out.bk.c 5; have j6 := HXB.out.bk.c 6; have j7 := HXB.out.bk.c 7; have j8 := HXB.out.bk.c 8; have j9 := HXB.out.bk.c 9; have j10 := HXB.out.bk.c 10; have jl := HXB.out.lt; simp at j0 j1 j2 j3 j4 j5 j6 j7 j8 j9 j10) | (go_at_call 40; (with_reducible refine (cmds_up Vy.heap.size Vc.heap.size q.ln cc ca _ (HOC.out.shu2 HSC.out HLT.out.1 HLT.out.2) HFX.out.size).mono ?_); rintro e z ⟨rfl, hs, hf⟩; have HXO9 : Hk (PvO z Vy.heap.size xv) := ⟨(HXO.out.fr hf (fun j hj e => by omega)).weak HCY.out⟩; have HFX9 := Hk.mk (HFX.out.andThen (Fr.of_below hs.bl) (fun j hj hj2 => by omega)); have HWB9 : Hk (Bx z wb wv) := ⟨⟨hs.ty _ _ _ _ HWB.out.bl (by decide) (by decide)⟩⟩; have HXB9 : Hk (Bx z (wb + 1) xv) := ⟨⟨hs.ty _ _ _ _ HXB.out.bl (by decide) (by decide)⟩⟩; have HV9 := Hk.mk (HV.out.trans (hs.bl.mono HL5.out)); clear hs hf HXO HFX HWB HXB HOC; have HXO := HXO9; have HFX := HFX9; have HWB := HWB9; have HXB := HXB9; clear HXO9 HFX9 HWB9 HXB9; clear x0 x1 x2 x3 x4 x5 x6 x7 x8 x9 x10 xl; clear j0 j1 j2 j3 j4 j5 j6 j7 j8 j9 j10 jl; clear y0 y1 y2 y3 y4 y5 y6 y7 y8 y9 y10 d0 d1 d2 d3 d4 d5 d6 d7 d8 d9 d10 a0 a1 a2 a3 a4 a5 a6 a7 a8 a9 a10 a11 yl dl al; replace HV := HV9; clear HV9; obtain ⟨y0, y1, y2, y3, y4, y5, y6, y7, y8, y9, y10, d0, d1, d2, d3, d4, d5, d6, d7, d8, d9, d10, a0, a1, a2, a3, a4, a5, a6, a7, a8, a9, a10, a11, yl, dl, al⟩ := HVF.out _ HV.out; have x0 := HWB.out.bk.c 0; have x1 := HWB.out.bk.c 1; have x2 := HWB.out.bk.c 2; have x3 := HWB.out.bk.c 3; have x4 := HWB.out.bk.c 4; have x5 := HWB.out.bk.c 5; have x6 := HWB.out.bk.c 6; have x7 := HWB.out.bk.c 7; have x8 := HWB.out.bk.c 8; have x9 := HWB.out.bk.c 9; have x10 := HWB.out.bk.c 10; have xl := HWB.out.lt; simp at x0 x1 x2 x3 x4 x5 x6 x7 x8 x9 x10; have j0 := HXB.out.bk.c 0; have j1 := HXB.out.bk.c 1; have j2 := HXB.out.bk.c 2; have j3 := HXB.out.bk.c 3; have j4 := HXB.out.bk.c 4; have j5 := HXB.out.bk.c 5; have j6 := HXB.out.bk.c 6; have j7 := HXB.out.bk.c 7; have j8 := HXB.out.bk.c 8; have j9 := HXB.out.bk.c 9; have j10 := HXB.out.bk.c 10; have jl := HXB.out.lt; simp at j0 j1 j2 j3 j4 j5 j6 j7 j8 j9 j10) | (go_at_call 44; (with_reducible refine (eqp_as true xv wv _ HXO.out.d ((Kt.of_fr (M := fun j => j = wb + 1) HB5.out HFX.out (fun j _ e => by have := HNB.out; omega) HT5.out).pvo HWO.out).d HXS.out HWS.out ⟨⟨fun _ => rfl, fun _ => by rw [HXA.out, HWA.out, HAU.out, HAC.out]⟩⟩).mono ?_); rintro e z ⟨rfl, hb⟩; have HXO9 := Hk.mk (HXO.out.below hb); clear HXO; have HXO := HXO9; clear HXO9; have HFX9 := Hk.mk (HFX.out.trans (Fr.of_all hb)); clear HFX; have HFX := HFX9; clear HFX9; have HWB9 := Hk.mk (HWB.out.below hb); have HXB9 := Hk.mk (HXB.out.below hb); clear HWB HXB; have HWB := HWB9; have HXB := HXB9; clear HWB9 HXB9; clear x0 x1 x2 x3 x4 x5 x6 x7 x8 x9 x10 xl; clear j0 j1 j2 j3 j4 j5 j6 j7 j8 j9 j10 jl; have HV9 := Hk.mk (kw_step HV.out (Nat.le_refl _) hb); clear y0 y1 y2 y3 y4 y5 y6 y7 y8 y9 y10 d0 d1 d2 d3 d4 d5 d6 d7 d8 d9 d10 a0 a1 a2 a3 a4 a5 a6 a7 a8 a9 a10 a11 yl dl al; clear hb; replace HV := HV9; clear HV9; obtain ⟨y0, y1, y2, y3, y4, y5, y6, y7, y8, y9, y10, d0, d1, d2, d3, d4, d5, d6, d7, d8, d9, d10, a0, a1, a2, a3, a4, a5, a6, a7, a8, a9, a10, a11, yl, dl, al⟩ := HVF.out _ HV.out; have x0 := HWB.out.bk.c 0; have x1 := HWB.out.bk.c 1; have x2 := HWB.out.bk.c 2; have x3 := HWB.out.bk.c 3; have x4 := HWB.out.bk.c 4; have x5 := HWB.out.bk.c 5; have x6 := HWB.out.bk.c 6; have x7 := HWB.out.bk.c 7; have x8 := HWB.out.bk.c 8; have x9 := HWB.out.bk.c 9; have x10 := HWB.out.bk.c 10; have xl := HWB.out.lt; simp at x0 x1 x2 x3 x4 x5 x6 x7 x8 x9 x10; have j0 := HXB.out.bk.c 0; have j1 := HXB.out.bk.c 1; have j2 := HXB.out.bk.c 2; have j3 := HXB.out.bk.c 3; have j4 := HXB.out.bk.c 4; have j5 := HXB.out.bk.c 5; have j6 := HXB.out.bk.c 6; have j7 := HXB.out.bk.c 7; have j8 := HXB.out.bk.c 8; have j9 := HXB.out.bk.c 9; have j10 := HXB.out.bk.c 10; have jl := HXB.out.lt; simp at j0 j1 j2 j3 j4 j5 j6 j7 j8 j9 j10) | (go_at_call 44; (with_reducible refine (eqp_as true u p _ (HDU.out _ HV.out) (HDP.out _ (HTR.out _ HV.out)) HSU.out HS.out ⟨⟨fun _ => rfl, fun _ => HAU.out⟩⟩).mono ?_); rintro e z ⟨rfl, hb⟩; have HXO9 := Hk.mk (HXO.out.below hb); clear HXO; have HXO := HXO9; clear HXO9; have HFX9 := Hk.mk (HFX.out.trans (Fr.of_all hb)); clear HFX; have HFX := HFX9; clear HFX9; have HWB9 := Hk.mk (HWB.out.below hb); have HXB9 := Hk.mk (HXB.out.below hb); clear HWB HXB; have HWB := HWB9; have HXB := HXB9; clear HWB9 HXB9; clear x0 x1 x2 x3 x4 x5 x6 x7 x8 x9 x10 xl; clear j0 j1 j2 j3 j4 j5 j6 j7 j8 j9 j10 jl; have HV9 := Hk.mk (kw_step HV.out (Nat.le_refl _) hb); clear y0 y1 y2 y3 y4 y5 y6 y7 y8 y9 y10 d0 d1 d2 d3 d4 d5 d6 d7 d8 d9 d10 a0 a1 a2 a3 a4 a5 a6 a7 a8 a9 a10 a11 yl dl al; clear hb; replace HV := HV9; clear HV9; obtain ⟨y0, y1, y2, y3, y4, y5, y6, y7, y8, y9, y10, d0, d1, d2, d3, d4, d5, d6, d7, d8, d9, d10, a0, a1, a2, a3, a4, a5, a6, a7, a8, a9, a10, a11, yl, dl, al⟩ := HVF.out _ HV.out; have x0 := HWB.out.bk.c 0; have x1 := HWB.out.bk.c 1; have x2 := HWB.out.bk.c 2; have x3 := HWB.out.bk.c 3; have x4 := HWB.out.bk.c 4; have x5 := HWB.out.bk.c 5; have x6 := HWB.out.bk.c 6; have x7 := HWB.out.bk.c 7; have x8 := HWB.out.bk.c 8; have x9 := HWB.out.bk.c 9; have x10 := HWB.out.bk.c 10; have xl := HWB.out.lt; simp at x0 x1 x2 x3 x4 x5 x6 x7 x8 x9 x10; have j0 := HXB.out.bk.c 0; have j1 := HXB.out.bk.c 1; have j2 := HXB.out.bk.c 2; have j3 := HXB.out.bk.c 3; have j4 := HXB.out.bk.c 4; have j5 := HXB.out.bk.c 5; have j6 := HXB.out.bk.c 6; have j7 := HXB.out.bk.c 7; have j8 := HXB.out.bk.c 8; have j9 := HXB.out.bk.c 9; have j10 := HXB.out.bk.c 10; have jl := HXB.out.lt; simp at j0 j1 j2 j3 j4 j5 j6 j7 j8 j9 j10) | (go_at_call 52; (with_reducible refine (spoilp_any Vy.heap.size xv _ HXO.out HXS.out HFX.out.size).mono ?_); rintro e z ⟨rfl, hb⟩; have HWB9 : Hk (Bx z wb wv) := ⟨HWB5.out.fr (HFX.out.andThen (Fr.of_below hb) (fun j hj hj2 => by omega)) (by omega)⟩; have HV9 := Hk.mk (HV.out.trans (hb.mono HL5.out)); clear hb HXO HFX HWB HXB; clear x0 x1 x2 x3 x4 x5 x6 x7 x8 x9 x10 xl; clear j0 j1 j2 j3 j4 j5 j6 j7 j8 j9 j10 jl; clear y0 y1 y2 y3 y4 y5 y6 y7 y8 y9 y10 d0 d1 d2 d3 d4 d5 d6 d7 d8 d9 d10 a0 a1 a2 a3 a4 a5 a6 a7 a8 a9 a10 a11 yl dl al; replace HV := HV9; clear HV9; obtain ⟨y0, y1, y2, y3, y4, y5, y6, y7, y8, y9, y10, d0, d1, d2, d3, d4, d5, d6, d7, d8, d9, d10, a0, a1, a2, a3, a4, a5, a6, a7, a8, a9, a10, a11, yl, dl, al⟩ := HVF.out _ HV.out; have x0 := HWB9.out.bk.c 0; have x1 := HWB9.out.bk.c 1; have x2 := HWB9.out.bk.c 2; have x3 := HWB9.out.bk.c 3; have x4 := HWB9.out.bk.c 4; have x5 := HWB9.out.bk.c 5; have x6 := HWB9.out.bk.c 6; have x7 := HWB9.out.bk.c 7; have x8 := HWB9.out.bk.c 8; have x9 := HWB9.out.bk.c 9; have x10 := HWB9.out.bk.c 10; have xl := HWB9.out.lt; simp at x0 x1 x2 x3 x4 x5 x6 x7 x8 x9 x10))
 generalize z = V4 at *
 have HO4 := Hk.mk (HO2.out.below HV.out)
 have HR4 := Hk.mk (HR2.out.below HV.out).drew
 have HB4 := Hk.mk (HTR.out _ HV.out)
 have hRw : w.heap.size ≤ (w.heap.size + 2) := by omega
 have NWR : ¬ wb = (w.heap.size + 2) := by have := HRW.out.1; omega
 clear HO2 HR2 HDU HVF HTR
 have r0 := HR4.out.c 0; have f0 := HR4.out.f 0; have r1 := HR4.out.c 1; have f1 := HR4.out.f 1; have r2 := HR4.out.c 2; have f2 := HR4.out.f 2; have r3 := HR4.out.c 3; have f3 := HR4.out.f 3; have r4 := HR4.out.c 4; have f4 := HR4.out.f 4; have r5 := HR4.out.c 5; have f5 := HR4.out.f 5; have r6 := HR4.out.c 6; have f6 := HR4.out.f 6; have r7 := HR4.out.c 7; have f7 := HR4.out.f 7; have r8 := HR4.out.c 8; have f8 := HR4.out.f 8; have r9 := HR4.out.c 9; have f9 := HR4.out.f 9; have r10 := HR4.out.c 10; have f10 := HR4.out.f 10; simp at r0 r1 r2 r3 r4 r5 r6 r7 r8 r9 r10
 refine wp_region_held_drew (S := (fun X => (∀ b o, b < V4.heap.size → ¬ b = (w.heap.size + 2) → X.cell? ⟨b, o, none⟩ = V4.cell? ⟨b, o, none⟩) ∧ StR w V4 (w.heap.size + 2) X)) (by kernel_rfl) ?_ (fun hHeld => ?_)
 ·exact (StR.start HB4.out).s
 have HI : Ix [0, 1, 2, 3, 4] := trivial
 iterate 5 (refine tkA HI (v := ?_) rfl (by kernel_rfl) (fun _ _ _ h => h) (.inl ⟨by rfl, fun wX hSw => ?_⟩) hHeld (fun HJ => ?_); rotate_left; (focus ((try dsimp only at hSw); go_simp; try with_reducible rfl)); clear HI; have HI := HJ; clear HJ; try simp only [Act.put, jjA, jjB, jjC, jjD, jjE, jjF])
 clear HI
 refine wpAnyH_ready (rs := [5]) (by kernel_rfl) (by simp) ?_
 refine AllReadyH.cons rfl (fun K hK => ?_) (AllReadyH.nil)
 go_simp
 ((go_at_call 44; (with_reducible refine (eqp_as true u p _ (hHeld.2.pd HO4.out HRV.out) (HDP.out _ hHeld.2.bw) HSU.out HS.out ⟨⟨fun _ => rfl, fun _ => HAU.out⟩⟩).mono ?_); rintro e zz ⟨rfl, hb⟩; first | (have HRz := Hk.mk (HR4.out.below hb); have m0 := HRz.out.c 0; have k0 := HRz.out.f 0; have m1 := HRz.out.c 1; have k1 := HRz.out.f 1; have m2 := HRz.out.c 2; have k2 := HRz.out.f 2; have m3 := HRz.out.c 3; have k3 := HRz.out.f 3; have m4 := HRz.out.c 4; have k4 := HRz.out.f 4; have m5 := HRz.out.c 5; have k5 := HRz.out.f 5; have m6 := HRz.out.c 6; have k6 := HRz.out.f 6; have m7 := HRz.out.c 7; have k7 := HRz.out.f 7; have m8 := HRz.out.c 8; have k8 := HRz.out.f 8; have m9 := HRz.out.c 9; have k9 := HRz.out.f 9; have m10 := HRz.out.c 10; have k10 := HRz.out.f 10; simp at m0 m1 m2 m3 m4 m5 m6 m7 m8 m9 m10) | (have HRz := Hk.mk ((((((((((((HR4.out.set 0 (.int .i64 wv.i)).set 1 (.int .i64 wv.n)).set 2 (.int .i64 wv.d)).set 3 (.int .i64 wv.t)).set 4 (.int .i64 wv.s)).set 5 (.slice wv.ma wv.mn wv.mc)).set 6 (.slice wv.la wv.ln wv.lc)).set 7 (.slice wv.ha wv.hn wv.hc)).set 8 (.slice wv.aa wv.an wv.ac)).set 9 (.slice wv.xa wv.xn wv.xc)).set 10 (.bool wv.b)).below hb); have m0 := HRz.out.c 0; have k0 := HRz.out.f 0; have m1 := HRz.out.c 1; have k1 := HRz.out.f 1; have m2 := HRz.out.c 2; have k2 := HRz.out.f 2; have m3 := HRz.out.c 3; have k3 := HRz.out.f 3; have m4 := HRz.out.c 4; have k4 := HRz.out.f 4; have m5 := HRz.out.c 5; have k5 := HRz.out.f 5; have m6 := HRz.out.c 6; have k6 := HRz.out.f 6; have m7 := HRz.out.c 7; have k7 := HRz.out.f 7; have m8 := HRz.out.c 8; have k8 := HRz.out.f 8; have m9 := HRz.out.c 9; have k9 := HRz.out.f 9; have m10 := HRz.out.c 10; have k10 := HRz.out.f 10; simp at m0 m1 m2 m3 m4 m5 m6 m7 m8 m9 m10)))
 refine hK.out _ _ ?_ (fun hHeld => ?_)
 ·first | exact (hHeld.2.call hb).s | exact ((((((((((((hHeld.2.set hRw 0 _).set hRw 1 _).set hRw 2 _).set hRw 3 _).set hRw 4 _).set hRw 5 _).set hRw 6 _).set hRw 7 _).set hRw 8 _).set hRw 9 _).set hRw 10 _)).s
 clear hK K
 (try simp only [Act.put, jjA, jjB, jjC, jjD, jjE, jjF])
 have HI : Ix [6] := trivial
 (refine tkA HI (v := ?_) rfl (by kernel_rfl) (fun _ _ _ h => h) (.inl ⟨by rfl, fun wX hSw => ?_⟩) hHeld (fun HJ => ?_); rotate_left; (focus ((try dsimp only at hSw); go_simp; try with_reducible rfl)); clear HI; have HI := HJ; clear HJ; try simp only [Act.put, jjA, jjB, jjC, jjD, jjE, jjF])
 clear HI
 refine wpAnyH_ready (rs := [7]) (by kernel_rfl) (by simp) ?_
 refine AllReadyH.cons rfl (fun K hK => ?_) (AllReadyH.nil)
 go_simp
 refine hK.out _ _ ?_ (fun hHeld => ?_)
 ·first | exact (hHeld.2.call hb).s | exact ((((((((((((hHeld.2.set hRw 0 _).set hRw 1 _).set hRw 2 _).set hRw 3 _).set hRw 4 _).set hRw 5 _).set hRw 6 _).set hRw 7 _).set hRw 8 _).set hRw 9 _).set hRw 10 _)).s
 clear hK K
 (try simp only [Act.put, jjA, jjB, jjC, jjD, jjE, jjF])
 have HI : Ix [8] := trivial
 (refine tkA HI (v := ?_) rfl (by kernel_rfl) (fun _ _ _ h => h) (.inl ⟨by rfl, fun wX hSw => ?_⟩) hHeld (fun HJ => ?_); rotate_left; (focus ((try dsimp only at hSw); go_simp; try with_reducible rfl)); clear HI; have HI := HJ; clear HJ; try simp only [Act.put, jjA, jjB, jjC, jjD, jjE, jjF])
 clear HI
 refine wpAnyH_done (by kernel_rfl) ?_ _
 all_goals
  go_wp2_with fail
 all_goals
  refine bodyPost_ret (v := .tuple #[.agg (jjP wv), .bool true]) (by simp [results, Tryz.results15, go_sem, m0, m1, m2, m3, m4, m5, m6, m7, m8, m9, m10, k0, k1, k2, k3, k4, k5, k6, k7, k8, k9, k10]) rfl ⟨⟨wv, rfl⟩, hHeld.2.bw⟩
end Go.Proofs.YtdpblimhfmfbnaaGreat
namespace Go.Proofs.YtdpblimhfmfbnaaGreat
open Go.ChangeShapes Go.WideShapes Go.ChangeAt Go.RowKit Go.Deep
def StepD (p : Pv) (r : Int) : Prop := ∀ (q : Av) (X : World), PvD X X.heap.size p → PvS p → AvD X X.heap.size q → SmC q.ll → SmC q.e.q.l → Calls Tryz.prog 15 #[.agg (jjP p), .agg #[.int .i64 r, .slice q.la q.ln q.lc, .int .i64 q.e.f, .int .i64 q.e.t, .int .i64 q.e.q.t, .int .i64 q.e.q.p, .slice q.e.q.a q.e.q.n q.e.q.c, .int .i64 q.e.d, .int .u64 q.e.h, .int .i64 q.e.v, .bool q.b, .int .u64 q.h]] X fun e z => (∃ u : Pv, e = .returned (.tuple #[.agg (jjP u), .bool true])) ∧ Below X.heap.size X z
theorem AsD.act {w : World} {B : Nat} {a : Option Addr} {n : Nat} {l : List Av} (h : AsD w B a n l) {k : Nat} (hk : k < n) {q : Av} (hq : l.getD k default = q) : AvD w B q ∧ q ∈ l ∧ ∃ b off, a = some ⟨b, off, none⟩ ∧ b < B ∧ ∀ j, j < 12 → w.cell? ⟨b, off + k * 12 + j, none⟩ = q.cs[j]? := by
 obtain ⟨b, off, e, hlt, hc⟩ := h.q.rd (by omega)
 have hk' : k < l.length := by rw [h.q.len]; exact hk
 have hg : l.getD k default = l[k] := by simp [List.getD, hk']
 rw [hg] at hq
 subst hq
 exact ⟨h.u _ (List.getElem_mem hk'), List.getElem_mem hk', b, off, e, hlt, fun j hj => hc k hk' j hj⟩
end Go.Proofs.YtdpblimhfmfbnaaGreat
namespace Go.Proofs.YtdpblimhfmfbnaaGreat
open List renaming getElem_toArray → jjA, getElem_cons_succ → jjB, getElem_cons_zero → jjC, setIfInBounds_toArray → jjD, set_cons_zero → jjE, set_cons_succ → jjF
open Go.ChangeShapes Go.WideShapes Go.ChangeAt Go.RowKit Go.Deep
def HvyY (p : Pv) (l : List Av) (w : World) (e : Ending) (w' : World) : Prop := ∃ r, e = .returned (.bool r) ∧ Below w.heap.size w w' ∧ Hk (r = false → PvS p ∧ (p.mn ≤ 2000 ∧ p.ln ≤ 2000) ∧ ∀ x, x ∈ l → SmC x.ll ∧ SmC x.e.q.l)
set_option maxRecDepth 100000 in
set_option maxHeartbeats 3200000 in
theorem heavy28s_any (p : Pv) (la : Option Addr) (ln lc : Nat) (l : List Av) (w : World) (h : PvD w w.heap.size p) (hp : BdP p) (hl : ln ≤ 17592186044416) (ha : AsD w w.heap.size la ln l) :
  Calls Tryz.prog 10 #[.agg #[.int .i64 p.i, .int .i64 p.n, .int .i64 p.d, .int .i64 p.t, .int .i64 p.s, .slice p.ma p.mn p.mc, .slice p.la p.ln p.lc, .slice p.ha p.hn p.hc, .slice p.aa p.an p.ac, .slice p.xa p.xn p.xc, .bool p.b, .slice la ln lc]] w (HvyY p l w) := by
 have HBW : Hk (Below w.heap.size w (w.alloc (.cells #[.int .i64 p.i, .int .i64 p.n, .int .i64 p.d, .int .i64 p.t, .int .i64 p.s, .slice p.ma p.mn p.mc, .slice p.la p.ln p.lc, .slice p.ha p.hn p.hc, .slice p.aa p.an p.ac, .slice p.xa p.xn p.xc, .bool p.b, .slice la ln lc] 29))) := ⟨(Below.refl _ _).alloc (Nat.le_refl _) _⟩
 have HPX := Hk.mk (Bk.new w #[.int .i64 p.i, .int .i64 p.n, .int .i64 p.d, .int .i64 p.t, .int .i64 p.s, .slice p.ma p.mn p.mc, .slice p.la p.ln p.lc, .slice p.ha p.hn p.hc, .slice p.aa p.an p.ac, .slice p.xa p.xn p.xc, .bool p.b, .slice la ln lc] 29)
 have HDD : Hk (∀ X, Below (w.alloc (.cells #[.int .i64 p.i, .int .i64 p.n, .int .i64 p.d, .int .i64 p.t, .int .i64 p.s, .slice p.ma p.mn p.mc, .slice p.la p.ln p.lc, .slice p.ha p.hn p.hc, .slice p.aa p.an p.ac, .slice p.xa p.xn p.xc, .bool p.b, .slice la ln lc] 29)).heap.size (w.alloc (.cells #[.int .i64 p.i, .int .i64 p.n, .int .i64 p.d, .int .i64 p.t, .int .i64 p.s, .slice p.ma p.mn p.mc, .slice p.la p.ln p.lc, .slice p.ha p.hn p.hc, .slice p.aa p.an p.ac, .slice p.xa p.xn p.xc, .bool p.b, .slice la ln lc] 29)) X → PvD X X.heap.size p) := ⟨fun X hX => h.later (HBW.out.trans (hX.mono HBW.out.size))⟩
 have HP := Hk.mk hp
 have HLM9 : Hk (p.ml.length = p.mn ∧ p.ll.length = p.ln) := ⟨⟨h.m.q.len, h.l.q.len⟩⟩
 have p1 := hp.h
 have p2 := hp.a
 have p3 := hp.x
 clear h hp
 go_enter Tryz.func10, Tryz.ntmps10
 go_upto_region 1 with fail
 generalize hV : (w.alloc (.cells #[.int .i64 p.i, .int .i64 p.n, .int .i64 p.d, .int .i64 p.t, .int .i64 p.s, .slice p.ma p.mn p.mc, .slice p.la p.ln p.lc, .slice p.ha p.hn p.hc, .slice p.aa p.an p.ac, .slice p.xa p.xn p.xc, .bool p.b, .slice la ln lc] 29)) = V at *
 have c5 : V.cell? ⟨w.heap.size, 5, none⟩ = some (.slice p.ma p.mn p.mc) := HPX.out.c 5
 have c6 : V.cell? ⟨w.heap.size, 6, none⟩ = some (.slice p.la p.ln p.lc) := HPX.out.c 6
 have c7 : V.cell? ⟨w.heap.size, 7, none⟩ = some (.slice p.ha p.hn p.hc) := HPX.out.c 7
 have c8 : V.cell? ⟨w.heap.size, 8, none⟩ = some (.slice p.aa p.an p.ac) := HPX.out.c 8
 have c9 : V.cell? ⟨w.heap.size, 9, none⟩ = some (.slice p.xa p.xn p.xc) := HPX.out.c 9
 have c11 : V.cell? ⟨w.heap.size, 11, none⟩ = some (.slice la ln lc) := HPX.out.c 11
 have HV : Hk (Below V.heap.size V V) := ⟨Below.refl _ _⟩
 have bl : w.heap.size < V.heap.size := HPX.out.lt
 refine wp_region_held_drew (S := (fun X => (∀ b o, b < V.heap.size → X.cell? ⟨b, o, none⟩ = V.cell? ⟨b, o, none⟩) ∧ Below V.heap.size V X)) (by kernel_rfl) ?_ (fun hHeld => ?_)
 ·exact kw_S (kw_drew HV.out)
 have HI : Ix [0, 1, 2, 4, 5, 6, 9, 10, 11, 12, 14, 15, 16, 17, 19, 20, 21, 22] := trivial
 iterate 18 (refine tkA HI (v := ?_) rfl (by kernel_rfl) (fun _ _ _ h => h) (.inl ⟨by rfl, fun wX hSw => ?_⟩) hHeld (fun HJ => ?_); rotate_left; (focus ((try dsimp only at hSw); go_simp; try with_reducible rfl)); clear HI; have HI := HJ; clear HJ; try simp only [Act.put, jjA, jjB, jjC, jjD, jjE, jjF])
 clear HI
 refine wpAnyH_ready (rs := [3]) (by kernel_rfl) (by simp) ?_
 refine AllReadyH.cons rfl (fun K hK => ?_) (AllReadyH.nil)
 go_simp
 (first | (go_at_call 24; (with_reducible refine (iw_any p.ma p.mn p.mc p.ml _ (by first | exact (HDD.out _ HV.out).m | exact (HDD.out _ HV.out.drew).m) HP.out.m HP.out.mb).mono ?_); rintro e z ⟨⟨r1, rfl, hr⟩, hz⟩; have H1 := Hk.mk hr; have hb := below_eqz hz; clear hr hz; have hB2 : Hk (Below V.heap.size V z) := ⟨by first | exact kw_step HV.out (Nat.le_refl _) hb | exact kw_step HV.out.drew (Nat.le_refl _) hb⟩; clear hb; replace HV := hB2; clear hB2) | (go_at_call 24; (with_reducible refine (iw_any p.la p.ln p.lc p.ll _ (by first | exact (HDD.out _ HV.out).l | exact (HDD.out _ HV.out.drew).l) HP.out.l HP.out.lb).mono ?_); rintro e z ⟨⟨r2, rfl, hr⟩, hz⟩; have H2 := Hk.mk hr; have hb := below_eqz hz; clear hr hz; have hB2 : Hk (Below V.heap.size V z) := ⟨by first | exact kw_step HV.out (Nat.le_refl _) hb | exact kw_step HV.out.drew (Nat.le_refl _) hb⟩; clear hb; replace HV := hB2; clear hB2))
 refine hK.out _ _ ?_ (fun hHeld => ?_)
 ·exact kw_S HV.out
 clear hK K
 (try simp only [Act.put, jjA, jjB, jjC, jjD, jjE, jjF])
 refine wpAnyH_ready (rs := [7]) (by kernel_rfl) (by simp) ?_
 refine AllReadyH.cons rfl (fun K hK => ?_) (AllReadyH.nil)
 go_simp
 (first | (go_at_call 24; (with_reducible refine (iw_any p.ma p.mn p.mc p.ml _ (by first | exact (HDD.out _ HV.out).m | exact (HDD.out _ HV.out.drew).m) HP.out.m HP.out.mb).mono ?_); rintro e z ⟨⟨r1, rfl, hr⟩, hz⟩; have H1 := Hk.mk hr; have hb := below_eqz hz; clear hr hz; have hB2 : Hk (Below V.heap.size V z) := ⟨by first | exact kw_step HV.out (Nat.le_refl _) hb | exact kw_step HV.out.drew (Nat.le_refl _) hb⟩; clear hb; replace HV := hB2; clear hB2) | (go_at_call 24; (with_reducible refine (iw_any p.la p.ln p.lc p.ll _ (by first | exact (HDD.out _ HV.out).l | exact (HDD.out _ HV.out.drew).l) HP.out.l HP.out.lb).mono ?_); rintro e z ⟨⟨r2, rfl, hr⟩, hz⟩; have H2 := Hk.mk hr; have hb := below_eqz hz; clear hr hz; have hB2 : Hk (Below V.heap.size V z) := ⟨by first | exact kw_step HV.out (Nat.le_refl _) hb | exact kw_step HV.out.drew (Nat.le_refl _) hb⟩; clear hb; replace HV := hB2; clear hB2))
 refine hK.out _ _ ?_ (fun hHeld => ?_)
 ·exact kw_S HV.out
 clear hK K
 (try simp only [Act.put, jjA, jjB, jjC, jjD, jjE, jjF])
 have HI : Ix [8, 13, 18, 23, 24] := trivial
 iterate 5 (refine tkA HI (v := ?_) rfl (by kernel_rfl) (fun _ _ _ h => h) (.inl ⟨by rfl, fun wX hSw => ?_⟩) hHeld (fun HJ => ?_); rotate_left; (focus ((try dsimp only at hSw); go_simp; try with_reducible rfl)); clear HI; have HI := HJ; clear HJ; try simp only [Act.put, jjA, jjB, jjC, jjD, jjE, jjF])
 clear HI
 refine wpAnyH_done (by kernel_rfl) ?_ _
 have b1 := H1.out.le
 have b2 := H2.out.le
 have g1 : IntKind.i64.wrap ((r1 : Int) + (r2 : Int)) = ((r1 + r2 : Nat) : Int) := by push_cast; exact wr27 (by omega) (by omega)
 have g2 : IntKind.i64.wrap (((r1 + r2 : Nat) : Int) + (p.hn : Int)) = ((r1 + r2 + p.hn : Nat) : Int) := by push_cast; exact wr27 (by omega) (by omega)
 have g3 : IntKind.i64.wrap (((r1 + r2 + p.hn : Nat) : Int) + (p.an : Int)) = ((r1 + r2 + p.hn + p.an : Nat) : Int) := by push_cast; exact wr27 (by omega) (by omega)
 have g4 : IntKind.i64.wrap (((r1 + r2 + p.hn + p.an : Nat) : Int) + (p.xn : Int)) = ((r1 + r2 + p.hn + p.an + p.xn : Nat) : Int) := by push_cast; exact wr27 (by omega) (by omega)
 rw [g1, g2, g3, g4]
 obtain ⟨r0, hr0⟩ : ∃ r0, r1 + r2 + p.hn + p.an + p.xn = r0 := ⟨_, rfl⟩
 rw [hr0]
 generalize ((r1 + r2 : Nat) : Int) = v1
 generalize ((r1 + r2 + p.hn : Nat) : Int) = v2
 generalize ((r1 + r2 + p.hn + p.an : Nat) : Int) = v3
 have HPS : Hk (r0 < 1048576 → mxI r0 p.ml ∧ mxI r0 p.ll ∧ p.hn ≤ r0 ∧ p.an ≤ r0 ∧ p.xn ≤ r0) := ⟨fun hlt => ⟨⟨Nat.le_trans (H1.out.mx (by omega)).1 (by omega), fun i hi => ((H1.out.mx (by omega)).2 i hi).mono (by omega)⟩, ⟨Nat.le_trans (H2.out.mx (by omega)).1 (by omega), fun i hi => ((H2.out.mx (by omega)).2 i hi).mono (by omega)⟩, by omega, by omega, by omega⟩⟩
 have hrb : r0 ≤ 87960942985216 := by omega
 have HLE := Hk.mk ha.q.len
 have HAD : Hk (∀ X, Below V.heap.size V X → AsD X X.heap.size la ln l) := ⟨fun X hX => ha.later (HBW.out.trans (hX.mono HBW.out.size))⟩
 have HC11 := Hk.mk c11
 clear hHeld g1 g2 g3 g4 b1 b2 p1 p2 p3 H1 H2 c5 c6 c7 c8 c9 c11 HP HDD ha HPX hV hr0
 have HLP := Hk.mk bl
 clear bl
 go_wp2
 go_loopw [3, 4] (fun s x wr => ∃ j r : Nat, s = .int .i64 (r : Nat) ∧ x = .int .i64 (j : Nat) ∧ j ≤ ln ∧ r0 ≤ r ∧ r ≤ 87960942985216 ∧ Hk (r < 1048576 → ∀ k, k < j → mxC r (l.getD k default).ll ∧ mxC r (l.getD k default).e.q.l) ∧ Hk (Below V.heap.size V wr)) (fun _ x _ => ln - (intOf x).toNat)
 case atStart => exact ⟨0, r0, rfl, rfl, Nat.zero_le _, Nat.le_refl _, hrb, ⟨fun _ k hk => absurd hk (by omega)⟩, HV⟩
 case round =>
  clear HV
  obtain ⟨j, r, rfl, rfl, hj, hr1, hr2, HR, HV⟩ := hrel
  have c11 : wr.cell? ⟨w.heap.size, 11, none⟩ = some (.slice la ln lc) := (HV.out.cell (p := ⟨w.heap.size, 11, none⟩) HLP.out).trans HC11.out
  have bl : w.heap.size < wr.heap.size := Nat.lt_of_lt_of_le HLP.out HV.out.size
  by_cases hlt : j < ln
  ·have t1 : (j : Int) < (ln : Int) := by omega
   by_cases hr : r < 1048576
   ·have d1 := d20y hr
    have t0 : (0 : Int) ≤ (j : Int) := by omega
    obtain ⟨b, off, rfl, hb, k1, k6, hd⟩ := (HAD.out wr HV.out).at_ hlt
    generalize hq : l.getD j default = q at *
    have HDD : Hk (∀ X, Below wr.heap.size wr X → AvD X X.heap.size q) := ⟨fun X hX => hd.later hX⟩
    have gj : IntKind.i64.wrap ((j : Int) + 1) = ((j + 1 : Nat) : Int) := by push_cast; exact wr27 (by omega) (by omega)
    have HRT : Hk (r < 1048576) := ⟨hr⟩
    have HW : Hk (Below wr.heap.size wr wr) := ⟨Below.refl _ _⟩
    clear hd hr
    go_upto_region 5 with fail
    refine wp_region_held_drew (S := (fun X => (∀ b o, b < wr.heap.size → X.cell? ⟨b, o, none⟩ = wr.cell? ⟨b, o, none⟩) ∧ Below wr.heap.size wr X)) (by kernel_rfl) ?_ (fun hHeld => ?_)
    ·exact kw_S (kw_drew HW.out)
    have HI : Ix [0, 1, 2, 3, 4, 5, 6, 9, 10, 11, 12, 13, 14, 15, 16] := trivial
    iterate 15 (refine tkA HI (v := ?_) rfl (by kernel_rfl) (fun _ _ _ h => h) (.inl ⟨by rfl, fun wX hSw => ?_⟩) hHeld (fun HJ => ?_); rotate_left; (focus ((try dsimp only at hSw); go_simp; try with_reducible rfl)); clear HI; have HI := HJ; clear HJ; try simp only [Act.put, jjA, jjB, jjC, jjD, jjE, jjF])
    clear HI
    refine wpAnyH_ready (rs := [7]) (by kernel_rfl) (by simp) ?_
    refine AllReadyH.cons rfl (fun K hK => ?_) (AllReadyH.nil)
    go_simp
    (first | (go_at_call 25; (with_reducible refine (cw_any q.la q.ln q.lc q.ll _ (by first | exact (HDD.out _ HW.out).l | exact (HDD.out _ HW.out.drew).l) (HDD.out _ HW.out).l1 (HDD.out _ HW.out).l2).mono ?_); rintro e z ⟨⟨s1, rfl, hr⟩, hz⟩; have H3 := Hk.mk hr; have hb := below_eqz hz; clear hr hz; have hB2 : Hk (Below wr.heap.size wr z) := ⟨by first | exact kw_step HW.out (Nat.le_refl _) hb | exact kw_step HW.out.drew (Nat.le_refl _) hb⟩; clear hb; replace HW := hB2; clear hB2) | (go_at_call 25; (with_reducible refine (cw_any q.e.q.a q.e.q.n q.e.q.c q.e.q.l _ (by first | exact (HDD.out _ HW.out).n | exact (HDD.out _ HW.out.drew).n) (HDD.out _ HW.out).n1 (HDD.out _ HW.out).n2).mono ?_); rintro e z ⟨⟨s2, rfl, hr⟩, hz⟩; have H4 := Hk.mk hr; have hb := below_eqz hz; clear hr hz; have hB2 : Hk (Below wr.heap.size wr z) := ⟨by first | exact kw_step HW.out (Nat.le_refl _) hb | exact kw_step HW.out.drew (Nat.le_refl _) hb⟩; clear hb; replace HW := hB2; clear hB2))
    refine hK.out _ _ ?_ (fun hHeld => ?_)
    ·exact kw_S HW.out
    clear hK K
    (try simp only [Act.put, jjA, jjB, jjC, jjD, jjE, jjF])
    have HI : Ix [8] := trivial
    (refine tkA HI (v := ?_) rfl (by kernel_rfl) (fun _ _ _ h => h) (.inl ⟨by rfl, fun wX hSw => ?_⟩) hHeld (fun HJ => ?_); rotate_left; (focus ((try dsimp only at hSw); go_simp; try with_reducible rfl)); clear HI; have HI := HJ; clear HJ; try simp only [Act.put, jjA, jjB, jjC, jjD, jjE, jjF])
    clear HI
    refine wpAnyH_ready (rs := [17]) (by kernel_rfl) (by simp) ?_
    refine AllReadyH.cons rfl (fun K hK => ?_) (AllReadyH.nil)
    go_simp
    (first | (go_at_call 25; (with_reducible refine (cw_any q.la q.ln q.lc q.ll _ (by first | exact (HDD.out _ HW.out).l | exact (HDD.out _ HW.out.drew).l) (HDD.out _ HW.out).l1 (HDD.out _ HW.out).l2).mono ?_); rintro e z ⟨⟨s1, rfl, hr⟩, hz⟩; have H3 := Hk.mk hr; have hb := below_eqz hz; clear hr hz; have hB2 : Hk (Below wr.heap.size wr z) := ⟨by first | exact kw_step HW.out (Nat.le_refl _) hb | exact kw_step HW.out.drew (Nat.le_refl _) hb⟩; clear hb; replace HW := hB2; clear hB2) | (go_at_call 25; (with_reducible refine (cw_any q.e.q.a q.e.q.n q.e.q.c q.e.q.l _ (by first | exact (HDD.out _ HW.out).n | exact (HDD.out _ HW.out.drew).n) (HDD.out _ HW.out).n1 (HDD.out _ HW.out).n2).mono ?_); rintro e z ⟨⟨s2, rfl, hr⟩, hz⟩; have H4 := Hk.mk hr; have hb := below_eqz hz; clear hr hz; have hB2 : Hk (Below wr.heap.size wr z) := ⟨by first | exact kw_step HW.out (Nat.le_refl _) hb | exact kw_step HW.out.drew (Nat.le_refl _) hb⟩; clear hb; replace HW := hB2; clear hB2))
    refine hK.out _ _ ?_ (fun hHeld => ?_)
    ·exact kw_S HW.out
    clear hK K
    (try simp only [Act.put, jjA, jjB, jjC, jjD, jjE, jjF])
    have HI : Ix [18, 19] := trivial
    iterate 2 (refine tkA HI (v := ?_) rfl (by kernel_rfl) (fun _ _ _ h => h) (.inl ⟨by rfl, fun wX hSw => ?_⟩) hHeld (fun HJ => ?_); rotate_left; (focus ((try dsimp only at hSw); go_simp; try with_reducible rfl)); clear HI; have HI := HJ; clear HJ; try simp only [Act.put, jjA, jjB, jjC, jjD, jjE, jjF])
    clear HI
    refine wpAnyH_done (by kernel_rfl) ?_ _
    have b3 := H3.out.le
    have b4 := H4.out.le
    have hr := HRT.out
    have g1 : IntKind.i64.wrap ((r : Int) + (s1 : Int)) = ((r + s1 : Nat) : Int) := by push_cast; exact wr27 (by omega) (by omega)
    have g2 : IntKind.i64.wrap (((r + s1 : Nat) : Int) + (s2 : Int)) = ((r + s1 + s2 : Nat) : Int) := by push_cast; exact wr27 (by omega) (by omega)
    rw [g1, g2]
    clear g1 g2
    have hle : r + s1 + s2 ≤ 87960942985216 := by omega
    have HR2 : Hk (r + s1 + s2 < 1048576 → ∀ k, k < j + 1 → mxC (r + s1 + s2) (l.getD k default).ll ∧ mxC (r + s1 + s2) (l.getD k default).e.q.l) := ⟨fun hx k hk => by
     by_cases e : k = j
     ·subst e
      rw [hq]
      exact ⟨(H3.out.mx (by omega)).mono (by omega), (H4.out.mx (by omega)).mono (by omega)⟩
     ·have := HR.out hr k (by omega)
      exact ⟨this.1.mono (by omega), this.2.mono (by omega)⟩⟩
    clear hHeld hr HR H3 H4 b3 b4 c11 bl k1 k6
    go_wp2
    exact ⟨⟨j + 1, r + s1 + s2, rfl, rfl, by omega, by omega, hle, HR2, ⟨HV.out.trans (HW.out.mono HV.out.size)⟩⟩, by simp only [intOf]; omega⟩
   ·have d1 := d20n hr
    have d2 : decide ((2000 : Int) < (r : Int)) = true := by rw [decide_eq_true_iff]; omega
    clear hr
    go_wp2
    go_ret
    exact ⟨_, rfl, HBW.out.trans (HV.out.mono HBW.out.size), ⟨fun h => by cases h⟩⟩
  ·obtain rfl : j = ln := by omega
   have t1 : ¬ ((j : Int) < (j : Int)) := by omega
   by_cases hr : 2000 < r
   ·have d2 : decide ((2000 : Int) < (r : Int)) = true := by rw [decide_eq_true_iff]; omega
    clear hr hlt
    go_wp2
    go_ret
    exact ⟨_, rfl, HBW.out.trans (HV.out.mono HBW.out.size), ⟨fun h => by cases h⟩⟩
   ·have d2 : decide ((2000 : Int) < (r : Int)) = false := by rw [decide_eq_false_iff_not]; omega
    have HR2 := Hk.mk hr
    have HR1 := Hk.mk hr1
    clear hr hlt hr1 hr2
    go_wp2
    go_ret
    refine ⟨_, rfl, HBW.out.trans (HV.out.mono HBW.out.size), ⟨fun h => ?_⟩⟩
    have h60 := of_decide_eq_false h
    have hr1 := HR1.out
    have hr2 := HR2.out
    obtain ⟨m1, m2, m3, m4, m5⟩ := HPS.out (by omega)
    have hn := HLE.out
    refine ⟨⟨mxI_sm28 m1 (by omega), mxI_sm28 m2 (by omega), by omega, by omega, by omega⟩, ⟨by have e1 := m1.1; have e2 := HLM9.out.1; omega, by have e1 := m2.1; have e2 := HLM9.out.2; omega⟩, fun x hx => ?_⟩
    obtain ⟨i, hi, rfl⟩ := List.mem_iff_getElem.1 hx
    have := HR.out (by omega) i (by omega)
    rw [show l.getD i default = l[i] by simp [List.getD, hi]] at this
    exact ⟨mxC_sm28 this.1 (by omega), mxC_sm28 this.2 (by omega)⟩
end Go.Proofs.YtdpblimhfmfbnaaGreat
namespace Go.Proofs.YtdpblimhfmfbnaaGreat
open Go.ChangeShapes Go.WideShapes Go.ChangeAt Go.RowKit Go.Deep
set_option maxRecDepth 100000 in
set_option maxHeartbeats 3200000 in
theorem only28s_any (r : Int) (p : Pv) (la : Option Addr) (ln lc : Nat) (l : List Av) (w : World) (h : PvD w w.heap.size p) (hp : BdP p) (hl : ln ≤ 17592186044416) (ha : AsD w w.heap.size la ln l) (hst : Hk (∀ (q : Av) (X : World), PvD X X.heap.size p → PvS p → (p.mn ≤ 2000 ∧ p.ln ≤ 2000) → AvD X X.heap.size q → SmC q.ll → SmC q.e.q.l → Calls Tryz.prog 15 #[.agg (jjP p), .agg #[.int .i64 r, .slice q.la q.ln q.lc, .int .i64 q.e.f, .int .i64 q.e.t, .int .i64 q.e.q.t, .int .i64 q.e.q.p, .slice q.e.q.a q.e.q.n q.e.q.c, .int .i64 q.e.d, .int .u64 q.e.h, .int .i64 q.e.v, .bool q.b, .int .u64 q.h]] X fun e z => (∃ u : Pv, e = .returned (.tuple #[.agg (jjP u), .bool true])) ∧ Below X.heap.size X z)) :
  Calls Tryz.prog 17 #[.agg #[.int .i64 p.i, .int .i64 p.n, .int .i64 p.d, .int .i64 p.t, .int .i64 p.s, .slice p.ma p.mn p.mc, .slice p.la p.ln p.lc, .slice p.ha p.hn p.hc, .slice p.aa p.an p.ac, .slice p.xa p.xn p.xc, .bool p.b, .slice la ln lc], .int .i64 r] w fun e z => e = .returned (.bool true) ∧ Below w.heap.size w z := by
 have HST := hst
 have HBW : Hk (Below w.heap.size w (w.alloc (.cells #[.int .i64 p.i, .int .i64 p.n, .int .i64 p.d, .int .i64 p.t, .int .i64 p.s, .slice p.ma p.mn p.mc, .slice p.la p.ln p.lc, .slice p.ha p.hn p.hc, .slice p.aa p.an p.ac, .slice p.xa p.xn p.xc, .bool p.b, .slice la ln lc] 29))) := ⟨(Below.refl _ _).alloc (Nat.le_refl _) _⟩
 have HPX := Hk.mk (Bk.new w #[.int .i64 p.i, .int .i64 p.n, .int .i64 p.d, .int .i64 p.t, .int .i64 p.s, .slice p.ma p.mn p.mc, .slice p.la p.ln p.lc, .slice p.ha p.hn p.hc, .slice p.aa p.an p.ac, .slice p.xa p.xn p.xc, .bool p.b, .slice la ln lc] 29)
 have HDD : Hk (∀ X, Below w.heap.size w X → PvD X X.heap.size p) := ⟨fun X hX => h.later hX⟩
 have HAA : Hk (∀ X, Below w.heap.size w X → AsD X X.heap.size la ln l) := ⟨fun X hX => ha.later hX⟩
 have HP := Hk.mk hp
 have HLN := Hk.mk hl
 clear h hp hl ha hst
 go_enter Tryz.func17, Tryz.ntmps17
 go_upto_region 1 with fail
 generalize (w.alloc (.cells #[.int .i64 p.i, .int .i64 p.n, .int .i64 p.d, .int .i64 p.t, .int .i64 p.s, .slice p.ma p.mn p.mc, .slice p.la p.ln p.lc, .slice p.ha p.hn p.hc, .slice p.aa p.an p.ac, .slice p.xa p.xn p.xc, .bool p.b, .slice la ln lc] 29)) = V at *
 have c0 := HPX.out.c 0; have c1 := HPX.out.c 1; have c2 := HPX.out.c 2; have c3 := HPX.out.c 3; have c4 := HPX.out.c 4; have c5 := HPX.out.c 5; have c6 := HPX.out.c 6; have c7 := HPX.out.c 7; have c8 := HPX.out.c 8; have c9 := HPX.out.c 9; have c10 := HPX.out.c 10; have c11 := HPX.out.c 11; have cl := HPX.out.lt; simp at c0 c1 c2 c3 c4 c5 c6 c7 c8 c9 c10 c11
 go_upto_if 10 with (go_at_call 10; (with_reducible refine (heavy28s_any p la ln lc l _ (HDD.out _ HBW.out) HP.out HLN.out (HAA.out _ HBW.out)).mono ?_); rintro e z ⟨hvy, rfl, hb, hh⟩; have HB := Hk.mk hb; clear hb)
 clear c0 c1 c2 c3 c4 c5 c6 c7 c8 c9 c10 c11 cl
 have HTR : Hk (∀ X, Below V.heap.size V X → Below w.heap.size w X) := ⟨fun X hX => HBW.out.trans (hX.mono HBW.out.size)⟩
 cases hvy
 ·obtain ⟨hs, hsz, hsm⟩ := hh.out rfl
  have HS := Hk.mk hs
  have HSZ := Hk.mk hsz
  have HSM := Hk.mk hsm
  have HAV := Hk.mk (HAA.out V HBW.out)
  clear hs hsz hsm hh HP HAA
  go_wp2
  go_loopw [5] (fun i wr => ∃ (j : Nat), i = .int .i64 j ∧ j ≤ ln ∧ j ≤ 12 ∧ Hk (Below V.heap.size V wr)) (fun i _ => ln - (intOf i).toNat)
  case atStart => exact ⟨0, rfl, Nat.zero_le _, by omega, HB⟩
  case round =>
   clear HB
   obtain ⟨j, rfl, hj, hj12, HB⟩ := hrel
   have HPY := Hk.mk (HPX.out.below HB.out)
   have c11 := HPY.out.c 11
   have cl := HPY.out.lt
   simp at c11
   by_cases hlt : j < ln
   ·by_cases h12 : j < 12
    ·have d12 : decide ((j : Int) < 12) = true := by rw [decide_eq_true_iff]; omega
     obtain ⟨q, hq⟩ : ∃ q, l.getD j default = q := ⟨_, rfl⟩
     obtain ⟨hqd, hqm, b, off, rfl, hbl, hcc⟩ := HAV.out.act hlt hq
     have HQ : Hk (∀ X, Below V.heap.size V X → AvD X X.heap.size q) := ⟨fun X hX => hqd.later hX⟩
     have HC1 := Hk.mk (HSM.out q hqm).1
     have HC2 := Hk.mk (HSM.out q hqm).2
     have cc := fun i hi => (HB.out.cell (p := ⟨b, off + j * 12 + i, none⟩) hbl).trans (hcc i hi)
     have k0 : wr.cell? ⟨b, off + j * 12, none⟩ = some (.int .i64 q.o) := cc 0 (by decide)
     have k1 : wr.cell? ⟨b, off + j * 12 + 1, none⟩ = some (.slice q.la q.ln q.lc) := cc 1 (by decide)
     have k2 : wr.cell? ⟨b, off + j * 12 + 2, none⟩ = some (.int .i64 q.e.f) := cc 2 (by decide)
     have k3 : wr.cell? ⟨b, off + j * 12 + 3, none⟩ = some (.int .i64 q.e.t) := cc 3 (by decide)
     have k4 : wr.cell? ⟨b, off + j * 12 + 4, none⟩ = some (.int .i64 q.e.q.t) := cc 4 (by decide)
     have k5 : wr.cell? ⟨b, off + j * 12 + 5, none⟩ = some (.int .i64 q.e.q.p) := cc 5 (by decide)
     have k6 : wr.cell? ⟨b, off + j * 12 + 6, none⟩ = some (.slice q.e.q.a q.e.q.n q.e.q.c) := cc 6 (by decide)
     have k7 : wr.cell? ⟨b, off + j * 12 + 7, none⟩ = some (.int .i64 q.e.d) := cc 7 (by decide)
     have k8 : wr.cell? ⟨b, off + j * 12 + 8, none⟩ = some (.int .u64 q.e.h) := cc 8 (by decide)
     have k9 : wr.cell? ⟨b, off + j * 12 + 9, none⟩ = some (.int .i64 q.e.v) := cc 9 (by decide)
     have k10 : wr.cell? ⟨b, off + j * 12 + 10, none⟩ = some (.bool q.b) := cc 10 (by decide)
     have k11 : wr.cell? ⟨b, off + j * 12 + 11, none⟩ = some (.int .u64 q.h) := cc 11 (by decide)
     have bl : b < wr.heap.size := Nat.lt_of_lt_of_le hbl HB.out.size
     have i1 : (0 : Int) ≤ (j : Int) := by omega
     have i2 : (j : Int) < (ln : Int) := by omega
     have HLT : Hk (j < ln ∧ j < 12) := ⟨hlt, h12⟩
     have gj : IntKind.i64.wrap ((j : Int) + 1) = ((j + 1 : Nat) : Int) := by push_cast; exact wr27 (by omega) (by omega)
     clear cc hcc hqd hqm hq hbl hj hj12 hlt h12
     go_upto_region 8 with fail
     have HA8 : Hk (Bk (wr.alloc (.cells #[.int .i64 r, .slice q.la q.ln q.lc, .int .i64 q.e.f, .int .i64 q.e.t, .int .i64 q.e.q.t, .int .i64 q.e.q.p, .slice q.e.q.a q.e.q.n q.e.q.c, .int .i64 q.e.d, .int .u64 q.e.h, .int .i64 q.e.v, .bool q.b, .int .u64 q.h] 45)) wr.heap.size #[.int .i64 r, .slice q.la q.ln q.lc, .int .i64 q.e.f, .int .i64 q.e.t, .int .i64 q.e.q.t, .int .i64 q.e.q.p, .slice q.e.q.a q.e.q.n q.e.q.c, .int .i64 q.e.d, .int .u64 q.e.h, .int .i64 q.e.v, .bool q.b, .int .u64 q.h]) := ⟨Bk.new wr #[.int .i64 r, .slice q.la q.ln q.lc, .int .i64 q.e.f, .int .i64 q.e.t, .int .i64 q.e.q.t, .int .i64 q.e.q.p, .slice q.e.q.a q.e.q.n q.e.q.c, .int .i64 q.e.d, .int .u64 q.e.h, .int .i64 q.e.v, .bool q.b, .int .u64 q.h] 45⟩
     have HB8 : Hk (Below V.heap.size V (wr.alloc (.cells #[.int .i64 r, .slice q.la q.ln q.lc, .int .i64 q.e.f, .int .i64 q.e.t, .int .i64 q.e.q.t, .int .i64 q.e.q.p, .slice q.e.q.a q.e.q.n q.e.q.c, .int .i64 q.e.d, .int .u64 q.e.h, .int .i64 q.e.v, .bool q.b, .int .u64 q.h] 45))) := ⟨kw_al HB.out (Nat.le_refl _) _⟩
     clear k0 k1 k2 k3 k4 k5 k6 k7 k8 k9 k10 k11 c11 cl bl i1 i2 HPY HB
     generalize wr.heap.size = A at *
     generalize (wr.alloc (.cells #[.int .i64 r, .slice q.la q.ln q.lc, .int .i64 q.e.f, .int .i64 q.e.t, .int .i64 q.e.q.t, .int .i64 q.e.q.p, .slice q.e.q.a q.e.q.n q.e.q.c, .int .i64 q.e.d, .int .u64 q.e.h, .int .i64 q.e.v, .bool q.b, .int .u64 q.h] 45)) = V8 at *
     have HPY := Hk.mk (HPX.out.below HB8.out)
     have y0 := HPY.out.c 0; have y1 := HPY.out.c 1; have y2 := HPY.out.c 2; have y3 := HPY.out.c 3; have y4 := HPY.out.c 4; have y5 := HPY.out.c 5; have y6 := HPY.out.c 6; have y7 := HPY.out.c 7; have y8 := HPY.out.c 8; have y9 := HPY.out.c 9; have y10 := HPY.out.c 10; have yl := HPY.out.lt; simp at y0 y1 y2 y3 y4 y5 y6 y7 y8 y9 y10
     have c0 := HA8.out.c 0; have c1 := HA8.out.c 1; have c2 := HA8.out.c 2; have c3 := HA8.out.c 3; have c4 := HA8.out.c 4; have c5 := HA8.out.c 5; have c6 := HA8.out.c 6; have c7 := HA8.out.c 7; have c8 := HA8.out.c 8; have c9 := HA8.out.c 9; have c10 := HA8.out.c 10; have c11 := HA8.out.c 11; have cl := HA8.out.lt; simp at c0 c1 c2 c3 c4 c5 c6 c7 c8 c9 c10 c11
     go_wp2_with (go_at_call 15; (with_reducible refine (HST.out q _ (HDD.out _ (HTR.out _ HB8.out)) HS.out HSZ.out ((HQ.out _ HB8.out)) HC1.out HC2.out).mono ?_); rintro e z9 ⟨⟨u, rfl⟩, hb⟩; have HB9 : Hk (Below V.heap.size V (z9.alloc (.cells (jjP u) 26))) := ⟨kw_al (kw_step HB8.out (Nat.le_refl _) hb) (Nat.le_refl _) _⟩; clear hb)
     exact ⟨⟨j + 1, rfl, by have := HLT.out; omega, by have := HLT.out; omega, HB9⟩, by have := HLT.out; simp only [intOf]; omega⟩
    ·have d12 : decide ((j : Int) < 12) = false := by rw [decide_eq_false_iff_not]; omega
     have i2 : (j : Int) < (ln : Int) := by omega
     go_wp2_with (go_at_call 16; (with_reducible refine (wakes28_any _).mono ?_); rintro e z9 ⟨rfl, hb⟩; replace HB := Hk.mk (kw_step HB.out (Nat.le_refl _) hb); clear hb)
     go_ret
     exact ⟨rfl, HTR.out _ HB.out⟩
   ·obtain rfl : j = ln := by omega
    go_wp2_with (go_at_call 16; (with_reducible refine (wakes28_any _).mono ?_); rintro e z9 ⟨rfl, hb⟩; replace HB := Hk.mk (kw_step HB.out (Nat.le_refl _) hb); clear hb)
    go_ret
    exact ⟨rfl, HTR.out _ HB.out⟩
 ·go_wp2
  go_ret
  exact ⟨rfl, HTR.out _ HB.out⟩
end Go.Proofs.YtdpblimhfmfbnaaGreat
