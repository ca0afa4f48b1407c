import Derived.Deep.QuietTactic
import Derived.BigQuiet
import Derived.Deep.RegionWith
import Derived.Deep.RegionHeld3
import Derived.Deep.DeepCutAuto
import Derived.Deep.DeepFit
import Derived.Outline
import Derived.Test.YtdpblimhfmfbnaaZsam
import Derived.Test.YtdpblimhfmfbnaaZsao
import Derived.Test.YtdpblimhfmfbnaaZsaj
import Derived.Test.YtdpblimhfmfbnaaZsi
import Derived.Maps.AppendAt
set_option linter.unusedVariables false
set_option linter.unusedSimpArgs false
namespace Go.Proofs.Ytdpblimhfmfbnaa
open Go.ChangeShapes Go.WideShapes Go.ChangeAt Go.RowKit Go.Deep
structure TkA (w : World) (B : Nat) (p u : Pv) (q : Nv) (k N4 N5 Q : Nat) (wx : World) (v : Pv) : Prop where
 bx : Bx wx Q v
 o : PvO wx B v
 ll : ∀ x, x ∈ v.ll → (∃ W0, CmD W0 N4 x.a x.n x.l) ∨ OwCE wx N5 x.a x.n x.c x.l
 e : ∃ la ln lc ll hl, v = { u with la := la, ln := ln, lc := lc, ll := ll, hl := hl } ∧ abI ll = (putM p.ab k q.q.ab).l ∧ hl = (putM p.ab k q.q.ab).h ∧ SmI ll
 dj : ∀ j, Value.ownBlock (.slice u.ma u.mn u.mc) = some j → ¬ Value.ownBlock (.slice v.la v.ln v.lc) = some j
 n : Bk wx (w.heap.size + 1) (jjN q)
 r : Bx wx (w.heap.size + 2) nilV
 b : Below w.heap.size w wx
 z : N5 ≤ wx.heap.size
structure TkB (w : World) (B : Nat) (p u : Pv) (q : Nv) (k Q : Nat) (wx : World) (v : Pv) : Prop where
 bx : Bx wx Q v
 o : PvO wx B v
 e : ∃ ma mn mc ml al, v = { u with ma := ma, mn := mn, mc := mc, ml := ml, al := al } ∧ abI ml = (ackM p.ab k q.v).m ∧ al = (ackM p.ab k q.v).a ∧ SmI ml
 n : Bk wx (w.heap.size + 1) (jjN q)
 r : Bx wx (w.heap.size + 2) nilV
 b : Below w.heap.size w wx
theorem putM_no {p : Pv} {q : Nv} {k : Nat} {hv : Int} (e : p.hl.getD k 0 = hv) (h : ¬ q.q.t = hv + 1) : putM p.ab k q.q.ab = p.ab := if_neg (by show ¬ (q.q.t = p.hl.getD k 0 + 1); rw [e]; exact h)
theorem putM_yes {p : Pv} {q : Nv} {k : Nat} {hv : Int} {M : List In} (e : p.hl.getD k 0 = hv) (h : q.q.t = hv + 1) (hM : putN q.q.ab p.ab.l = some M) : putM p.ab k q.q.ab = { p.ab with l := M, h := p.hl.set k (hv + 1) } := by
 unfold putM
 rw [if_pos (show q.q.ab.t = p.ab.h.getD k 0 + 1 from (by show q.q.t = p.hl.getD k 0 + 1; rw [e]; exact h)), hM]
 show ({ p.ab with l := M, h := p.hl.set k (p.hl.getD k 0 + 1) } : Pm) = _
 rw [e]
theorem putM_same (p : Pm) (k : Nat) (x : In) : putM p k x = { p with l := (putM p k x).l, h := (putM p k x).h } := by
 unfold putM
 by_cases c : x.t = p.h.getD k 0 + 1
 ·rw [if_pos c]
 ·rw [if_neg c]
theorem ackM_no {p : Pv} {k : Nat} {v av : Int} (e : p.al.getD k 0 = av) (h : ¬ (av < v ∧ v ≤ p.s)) : ackM p.ab k v = p.ab := if_neg (by show ¬ (p.al.getD k 0 < v ∧ v ≤ p.s); rw [e]; exact h)
theorem ackM_yes {p : Pv} {k : Nat} {v av : Int} (e : p.al.getD k 0 = av) (h : av < v ∧ v ≤ p.s) : ackM p.ab k v = { p.ab with a := p.al.set k v, m := (abI p.ml).filter (fun x => decide (minL (p.al.set k v) < x.t)) } := if_pos (by show p.al.getD k 0 < v ∧ v ≤ p.s; rw [e]; exact h)
theorem ackM_same (p : Pm) (k : Nat) (v : Int) : ackM p k v = { p with m := (ackM p k v).m, a := (ackM p k v).a } := by
 unfold ackM
 by_cases c : p.a.getD k 0 < v ∧ v ≤ p.s
 ·rw [if_pos c]
 ·rw [if_neg c]
theorem SmI.sub {l m : List Iv} (h : SmI l) (hm : ∀ x, x ∈ m → x ∈ l) (hn : m.length ≤ l.length) : SmI m := ⟨Nat.le_trans hn h.n, fun x hx => h.m x (hm x hx)⟩
set_option maxRecDepth 100000 in
set_option maxHeartbeats 6400000 in
theorem ptake_yes (p : Pv) (q : Nv) (w : World) (h : PvD w w.heap.size p) (hs : PvS p) (hq : CmD w w.heap.size q.q.a q.q.n q.q.l) (hsq : SmC q.q.l) (hk : OkP p.ab) (hf : ForP p.ab q.ab) (E : ¬ p.t + 16 < q.q.t) (hln : p.ln + 1 ≤ 1048576) :
  Calls Try.prog 15 #[.agg (jjP p), .agg (jjN q)] w fun e z => ∃ v : Pv, e = .returned (.tuple #[.agg (jjP v), .int .i64 0]) ∧ PvO z w.heap.size v ∧ v.ab = takeM p.ab q.ab ∧ PvS v ∧ Below w.heap.size w z := by
 obtain ⟨kk, ek1, ek2, ek3, ek4, ek8, eh1, eh2, ea1, ea2⟩ := take_kk hk hf
 have hdl : p.hl.length = p.hn := h.h.len
 have hal : p.al.length = p.an := h.a.len
 have hxl : p.xl.length = p.xn := h.x.len
 have HKK : Hk (kk < p.hn ∧ kk < p.an ∧ kk < 8 ∧ q.f = (kk : Int) + 1 ∧ q.f.toNat - 1 = kk) := ⟨by have e1 : p.ab.h.length = p.hl.length := rfl; have e2 : p.ab.a.length = p.al.length := rfl; have e3 : q.ab.f = q.f := rfl; omega⟩
 obtain ⟨hv, ehv⟩ : ∃ x, p.hl.getD kk 0 = x := ⟨_, rfl⟩
 obtain ⟨av, eav⟩ : ∃ x, p.al.getD kk 0 = x := ⟨_, rfl⟩
 have HHV : Hk (p.hl.getD kk 0 = hv ∧ p.al.getD kk 0 = av ∧ 0 ≤ hv + 1 ∧ hv ≤ 1099511627776 ∧ 0 ≤ av) := ⟨by have e1 : p.ab.h.getD kk 0 = p.hl.getD kk 0 := rfl; have e2 : p.ab.a.getD kk 0 = p.al.getD kk 0 := rfl; omega⟩
 have HPUT : Hk (q.q.t = hv + 1 → okN q.q.ab = true ∧ ∃ M, putN q.q.ab p.ab.l = some M) := ⟨fun e => take_put hk hf ek1 (by show q.q.t = p.hl.getD kk 0 + 1; rw [ehv]; exact e)⟩
 have HACK : Hk (av < q.v ∧ q.v ≤ p.s → 0 < p.mn) := ⟨fun hh => by
  have h1 := ack_some hk ek4 (by show p.al.getD kk 0 < p.s; rw [eav]; omega)
  have h2 : p.ab.m.length = p.ml.length := abI_len _
  have h3 := h.m.q.len
  omega⟩
 have HXL : Hk (p.xl.length = p.xn ∧ p.al.length = p.an ∧ p.xn ≤ 16 ∧ (p.xn : Int) ≤ p.t ∧ 0 ≤ p.t ∧ p.t ≤ 1099511627776 ∧ p.ll.length = p.ln) := ⟨by have h1 := hk.x1; have h2 := hk.x2; have h3 := hk.c.t1; have h4 := hk.c.t2; have e1 : p.ab.x.length = p.xl.length := rfl; have e2 : p.ab.t = p.t := rfl; have h5 := h.l.q.len; omega⟩
 have HDN0 : Hk (-1 ≤ q.d ∧ q.d ≤ 1099511627776) := ⟨hf.1.2.2.2.1⟩
 have HOK := Hk.mk hk
 have HON := Hk.mk hf.1
 have HLN2 := Hk.mk hln
 have f1 : (q.t != p.i) = false := by have : q.t = p.i := hf.2.1; rw [this]; simp
 have f2 : decide (p.n < q.f) = false := decide_eq_false (by have : q.f ≤ p.n := hf.2.2; omega)
 have g1 : IntKind.i64.wrap (p.t + 16) = p.t + 16 := wr27 (by have := HXL.out; omega) (by have := HXL.out; omega)
 have f3 : decide (p.t + 16 < q.q.t) = false := decide_eq_false E
 have gi : IntKind.i64.wrap (q.f - 1) = (kk : Int) := by rw [wr27 (by have := HKK.out; omega) (by have := HKK.out; omega)]; have := HKK.out; omega
 have gh : IntKind.i64.wrap (hv + 1) = hv + 1 := wr27 (by have := HHV.out; omega) (by have := HHV.out; omega)
 clear E hk hf hln ek1 ek2 ek3 ek4 ek8 eh1 eh2 ea1 ea2 hdl hal hxl ehv eav
 have HBW : Hk (Below w.heap.size w (((w.alloc (.cells (jjP p) 28)).alloc (.cells (jjN q) 58)).alloc (.cells jjZ 28))) := ⟨(((Below.refl _ _).alloc (Nat.le_refl _) _).alloc (by simp) _).alloc (by simp <;> omega) _⟩
 have e1 : (w.alloc (.cells (jjP p) 28)).heap.size = w.heap.size + 1 := by simp
 have e2 : ((w.alloc (.cells (jjP p) 28)).alloc (.cells (jjN q) 58)).heap.size = w.heap.size + 2 := by simp
 have HPB : Hk (Bx (((w.alloc (.cells (jjP p) 28)).alloc (.cells (jjN q) 58)).alloc (.cells jjZ 28)) w.heap.size p) := ⟨((Bx.new w p).al _).al _⟩
 have HNB : Hk (Bk (((w.alloc (.cells (jjP p) 28)).alloc (.cells (jjN q) 58)).alloc (.cells jjZ 28)) (w.heap.size + 1) (jjN q)) := ⟨by rw [← e1]; exact (Bk.new (w.alloc (.cells (jjP p) 28)) (jjN q) 58).al _⟩
 have HRB : Hk (Bx (((w.alloc (.cells (jjP p) 28)).alloc (.cells (jjN q) 58)).alloc (.cells jjZ 28)) (w.heap.size + 2) nilV) := ⟨by rw [← e2]; exact Bx.new ((w.alloc (.cells (jjP p) 28)).alloc (.cells (jjN q) 58)) nilV⟩
 have HDP : Hk (∀ X, Below w.heap.size w X → PvD X X.heap.size p) := ⟨fun X hX => h.later hX⟩
 have HDN : Hk (∀ X, Below w.heap.size w X → CmD X X.heap.size q.q.a q.q.n q.q.l) := ⟨fun X hX => hq.later hX⟩
 have HS := Hk.mk hs
 have HSQ := Hk.mk hsq
 clear e1 e2 h hs hq hsq
 go_enter Try.func15, Try.ntmps15
 go_upto_region 1 with fail
 generalize (((w.alloc (.cells (jjP p) 28)).alloc (.cells (jjN q) 58)).alloc (.cells jjZ 28)) = V at *
 obtain ⟨y0, y1, y2, y3, y4, y5, y6, y7, y8, y9, y10, yl⟩ := HPB.out.cs
 have nt0 := HNB.out.c 0; have nt1 := HNB.out.c 1; have nt2 := HNB.out.c 2; have nt3 := HNB.out.c 3; have nt4 := HNB.out.c 4; have nt5 := HNB.out.c 5; have nt6 := HNB.out.c 6; have nt7 := HNB.out.c 7; have ntl := HNB.out.lt; simp at nt0 nt1 nt2 nt3 nt4 nt5 nt6 nt7
 go_upto_region 6 with (first | (go_at_call 25; (with_reducible refine (pcheck_as true 0 p _ (HDP.out _ HBW.out) HS.out ⟨⟨fun _ => rfl, fun _ => HOK.out⟩⟩ ⟨rfl⟩).mono ?_); rintro e z ⟨rfl, hb⟩; have HP9 := Hk.mk (HPB.out.below hb); have HN9 := Hk.mk (HNB.out.below hb); have HR9 := Hk.mk (HRB.out.below hb); have HB9 := Hk.mk (HBW.out.trans (hb.mono HBW.out.size)); clear hb HPB HNB HRB HBW; clear y0 y1 y2 y3 y4 y5 y6 y7 y8 y9 y10 yl; clear nt0 nt1 nt2 nt3 nt4 nt5 nt6 nt7 ntl; have HPB := HP9; have HNB := HN9; have HRB := HR9; have HBW := HB9; clear HP9 HN9 HR9 HB9; obtain ⟨y0, y1, y2, y3, y4, y5, y6, y7, y8, y9, y10, yl⟩ := HPB.out.cs; have nt0 := HNB.out.c 0; have nt1 := HNB.out.c 1; have nt2 := HNB.out.c 2; have nt3 := HNB.out.c 3; have nt4 := HNB.out.c 4; have nt5 := HNB.out.c 5; have nt6 := HNB.out.c 6; have nt7 := HNB.out.c 7; have ntl := HNB.out.lt; simp at nt0 nt1 nt2 nt3 nt4 nt5 nt6 nt7) | (go_at_call 30; (with_reducible refine (vnote_as true q _ (HDN.out _ HBW.out) HSQ.out ⟨⟨fun _ => rfl, fun _ => HON.out⟩⟩).mono ?_); rintro e z1 ⟨rfl, hb⟩; have HP9 := Hk.mk (HPB.out.below hb); have HN9 := Hk.mk (HNB.out.below hb); have HR9 := Hk.mk (HRB.out.below hb); have HB9 := Hk.mk (HBW.out.trans (hb.mono HBW.out.size)); clear hb HPB HNB HRB HBW; clear y0 y1 y2 y3 y4 y5 y6 y7 y8 y9 y10 yl; clear nt0 nt1 nt2 nt3 nt4 nt5 nt6 nt7 ntl; have HPB := HP9; have HNB := HN9; have HRB := HR9; have HBW := HB9; clear HP9 HN9 HR9 HB9; obtain ⟨y0, y1, y2, y3, y4, y5, y6, y7, y8, y9, y10, yl⟩ := HPB.out.cs; have nt0 := HNB.out.c 0; have nt1 := HNB.out.c 1; have nt2 := HNB.out.c 2; have nt3 := HNB.out.c 3; have nt4 := HNB.out.c 4; have nt5 := HNB.out.c 5; have nt6 := HNB.out.c 6; have nt7 := HNB.out.c 7; have ntl := HNB.out.lt; simp at nt0 nt1 nt2 nt3 nt4 nt5 nt6 nt7) | (go_at_call 27; (with_reducible refine (cpq_any p _ (HDP.out _ HBW.out) HS.out).mono ?_); rintro e z5 ⟨u, N3, N4, rfl, ho, hlay, hn3, hab, g1', g2', g3', g4', g5', hb⟩; have HO3 := Hk.mk (ho.weak HBW.out.size); have HMLO : Hk (∀ j, Value.ownBlock (.slice u.ma u.mn u.mc) = some j → w.heap.size + 2 < j ∧ j < z5.heap.size) := ⟨fun j hj => ⟨Nat.lt_of_lt_of_le HRB.out.lt (ho.m.o.lt j hj).1, (ho.m.o.lt j hj).2⟩⟩; have HLY := Hk.mk hlay; have HN3 : Hk (w.heap.size + 2 < N3) := ⟨Nat.lt_of_lt_of_le HRB.out.lt hn3⟩; have HAU := Hk.mk hab; have HSU := Hk.mk (HS.out.like (HDP.out _ HBW.out) ho.d hab g1' g2' g3' g4' g5'); have HLN : Hk (u.hn = p.hn ∧ u.an = p.an) := ⟨⟨g3', g4'⟩⟩; have HLM : Hk (u.mn = p.mn ∧ u.ln = p.ln ∧ u.xn = p.xn) := ⟨⟨g1', g2', g5'⟩⟩; have HP3 := Hk.mk (HPB.out.below hb); have HNB3 := Hk.mk (HNB.out.below hb); have HR3 := Hk.mk (HRB.out.below hb); have HB3 := Hk.mk (HBW.out.trans (hb.mono HBW.out.size)); have HPK := Hk.mk HP3.out.bk; clear ho hlay hn3 hab g1' g2' g3' g4' g5' hb; have m0 := HPK.out.c 0; have k0 := HPK.out.f 0; have m1 := HPK.out.c 1; have k1 := HPK.out.f 1; have m2 := HPK.out.c 2; have k2 := HPK.out.f 2; have m3 := HPK.out.c 3; have k3 := HPK.out.f 3; have m4 := HPK.out.c 4; have k4 := HPK.out.f 4; have m5 := HPK.out.c 5; have k5 := HPK.out.f 5; have m6 := HPK.out.c 6; have k6 := HPK.out.f 6; have m7 := HPK.out.c 7; have k7 := HPK.out.f 7; have m8 := HPK.out.c 8; have k8 := HPK.out.f 8; have m9 := HPK.out.c 9; have k9 := HPK.out.f 9; have m10 := HPK.out.c 10; have k10 := HPK.out.f 10; simp at m0 m1 m2 m3 m4 m5 m6 m7 m8 m9 m10))
 clear m0 m1 m2 m3 m4 m5 m6 m7 m8 m9 m10 k0 k1 k2 k3 k4 k5 k6 k7 k8 k9 k10 HPK f1 f2 f3 g1
 have HP5 : Hk (Bx ((((((((((((World.setCell z5 ⟨w.heap.size, 0, none⟩ (.int .i64 u.i)).setCell ⟨w.heap.size, 1, none⟩ (.int .i64 u.n)).setCell ⟨w.heap.size, 2, none⟩ (.int .i64 u.d)).setCell ⟨w.heap.size, 3, none⟩ (.int .i64 u.t)).setCell ⟨w.heap.size, 4, none⟩ (.int .i64 u.s)).setCell ⟨w.heap.size, 5, none⟩ (.slice u.ma u.mn u.mc)).setCell ⟨w.heap.size, 6, none⟩ (.slice u.la u.ln u.lc)).setCell ⟨w.heap.size, 7, none⟩ (.slice u.ha u.hn u.hc)).setCell ⟨w.heap.size, 8, none⟩ (.slice u.aa u.an u.ac)).setCell ⟨w.heap.size, 9, none⟩ (.slice u.xa u.xn u.xc)).setCell ⟨w.heap.size, 10, none⟩ (.bool u.b))) w.heap.size u) := ⟨HP3.out.put u⟩
 have HR5 : Hk (Bx ((((((((((((World.setCell z5 ⟨w.heap.size, 0, none⟩ (.int .i64 u.i)).setCell ⟨w.heap.size, 1, none⟩ (.int .i64 u.n)).setCell ⟨w.heap.size, 2, none⟩ (.int .i64 u.d)).setCell ⟨w.heap.size, 3, none⟩ (.int .i64 u.t)).setCell ⟨w.heap.size, 4, none⟩ (.int .i64 u.s)).setCell ⟨w.heap.size, 5, none⟩ (.slice u.ma u.mn u.mc)).setCell ⟨w.heap.size, 6, none⟩ (.slice u.la u.ln u.lc)).setCell ⟨w.heap.size, 7, none⟩ (.slice u.ha u.hn u.hc)).setCell ⟨w.heap.size, 8, none⟩ (.slice u.aa u.an u.ac)).setCell ⟨w.heap.size, 9, none⟩ (.slice u.xa u.xn u.xc)).setCell ⟨w.heap.size, 10, none⟩ (.bool u.b))) (w.heap.size + 2) nilV) := ⟨HR3.out.fr (fr_put u) (by omega)⟩
 have HNB5 : Hk (Bk ((((((((((((World.setCell z5 ⟨w.heap.size, 0, none⟩ (.int .i64 u.i)).setCell ⟨w.heap.size, 1, none⟩ (.int .i64 u.n)).setCell ⟨w.heap.size, 2, none⟩ (.int .i64 u.d)).setCell ⟨w.heap.size, 3, none⟩ (.int .i64 u.t)).setCell ⟨w.heap.size, 4, none⟩ (.int .i64 u.s)).setCell ⟨w.heap.size, 5, none⟩ (.slice u.ma u.mn u.mc)).setCell ⟨w.heap.size, 6, none⟩ (.slice u.la u.ln u.lc)).setCell ⟨w.heap.size, 7, none⟩ (.slice u.ha u.hn u.hc)).setCell ⟨w.heap.size, 8, none⟩ (.slice u.aa u.an u.ac)).setCell ⟨w.heap.size, 9, none⟩ (.slice u.xa u.xn u.xc)).setCell ⟨w.heap.size, 10, none⟩ (.bool u.b))) (w.heap.size + 1) (jjN q)) := ⟨HNB3.out.frz (fr_put u) (by omega)⟩
 have HKP := Hk.mk (Kt.put HP3.out (Nat.le_refl _) u)
 have HO5 : Hk (PvO ((((((((((((World.setCell z5 ⟨w.heap.size, 0, none⟩ (.int .i64 u.i)).setCell ⟨w.heap.size, 1, none⟩ (.int .i64 u.n)).setCell ⟨w.heap.size, 2, none⟩ (.int .i64 u.d)).setCell ⟨w.heap.size, 3, none⟩ (.int .i64 u.t)).setCell ⟨w.heap.size, 4, none⟩ (.int .i64 u.s)).setCell ⟨w.heap.size, 5, none⟩ (.slice u.ma u.mn u.mc)).setCell ⟨w.heap.size, 6, none⟩ (.slice u.la u.ln u.lc)).setCell ⟨w.heap.size, 7, none⟩ (.slice u.ha u.hn u.hc)).setCell ⟨w.heap.size, 8, none⟩ (.slice u.aa u.an u.ac)).setCell ⟨w.heap.size, 9, none⟩ (.slice u.xa u.xn u.xc)).setCell ⟨w.heap.size, 10, none⟩ (.bool u.b))) w.heap.size u) := ⟨HKP.out.pvo HO3.out⟩
 have HB5 : Hk (Below w.heap.size w ((((((((((((World.setCell z5 ⟨w.heap.size, 0, none⟩ (.int .i64 u.i)).setCell ⟨w.heap.size, 1, none⟩ (.int .i64 u.n)).setCell ⟨w.heap.size, 2, none⟩ (.int .i64 u.d)).setCell ⟨w.heap.size, 3, none⟩ (.int .i64 u.t)).setCell ⟨w.heap.size, 4, none⟩ (.int .i64 u.s)).setCell ⟨w.heap.size, 5, none⟩ (.slice u.ma u.mn u.mc)).setCell ⟨w.heap.size, 6, none⟩ (.slice u.la u.ln u.lc)).setCell ⟨w.heap.size, 7, none⟩ (.slice u.ha u.hn u.hc)).setCell ⟨w.heap.size, 8, none⟩ (.slice u.aa u.an u.ac)).setCell ⟨w.heap.size, 9, none⟩ (.slice u.xa u.xn u.xc)).setCell ⟨w.heap.size, 10, none⟩ (.bool u.b)))) := ⟨HB3.out.trans HKP.out.bl⟩
 have HN5 : Hk (z5.heap.size ≤ (((((((((((((World.setCell z5 ⟨w.heap.size, 0, none⟩ (.int .i64 u.i)).setCell ⟨w.heap.size, 1, none⟩ (.int .i64 u.n)).setCell ⟨w.heap.size, 2, none⟩ (.int .i64 u.d)).setCell ⟨w.heap.size, 3, none⟩ (.int .i64 u.t)).setCell ⟨w.heap.size, 4, none⟩ (.int .i64 u.s)).setCell ⟨w.heap.size, 5, none⟩ (.slice u.ma u.mn u.mc)).setCell ⟨w.heap.size, 6, none⟩ (.slice u.la u.ln u.lc)).setCell ⟨w.heap.size, 7, none⟩ (.slice u.ha u.hn u.hc)).setCell ⟨w.heap.size, 8, none⟩ (.slice u.aa u.an u.ac)).setCell ⟨w.heap.size, 9, none⟩ (.slice u.xa u.xn u.xc)).setCell ⟨w.heap.size, 10, none⟩ (.bool u.b)))).heap.size) := ⟨HKP.out.bl.size⟩
 have HML : Hk (∀ x, x ∈ u.ml → ∃ W0, CmD W0 N3 x.a x.n x.l) := ⟨fun x hx => ⟨_, HLY.out.m.u x hx⟩⟩
 have HLL : Hk (∀ x, x ∈ u.ll → ∃ W0, CmD W0 N3 x.a x.n x.l) := ⟨fun x hx => ⟨_, HLY.out.l.u x hx⟩⟩
 have HHQ : Hk (∃ W0, Nq W0 N4 u.ha u.hn u.hl) := ⟨⟨_, HLY.out.hq⟩⟩
 have HDJ : Hk (∀ j, Value.ownBlock (.slice u.ma u.mn u.mc) = some j → ¬ Value.ownBlock (.slice u.la u.ln u.lc) = some j) := ⟨HLY.out.dj⟩
 obtain ⟨ga, ea, hga1, hga2⟩ : ∃ ga, u.aa = some ⟨ga, 0, none⟩ ∧ N4 ≤ ga ∧ ga < z5.heap.size := by
  rcases HLY.out.a.blk with ⟨_, e, _⟩ | ⟨ga, e, h1, h2, _⟩
  ·have := HKK.out; have := HLN.out; omega
  ·exact ⟨ga, e, h1, h2⟩
 obtain ⟨gh', eh, hgh1, hgh2⟩ : ∃ gh, u.ha = some ⟨gh, 0, none⟩ ∧ N3 ≤ gh ∧ gh < N4 := by
  obtain ⟨b, off, e, hb, _⟩ := HLY.out.hq.rd (by have := HKK.out; have := HLN.out; omega)
  rcases HLY.out.h.blk with ⟨_, e, _⟩ | ⟨gh, e1, h1, h2, _⟩
  ·have := HKK.out; have := HLN.out; omega
  ·rw [e1] at e
   injection e with e
   injection e with e2 e3
   subst e2
   exact ⟨gh, e1, h1, hb⟩
 have HGA : Hk (u.aa = some ⟨ga, 0, none⟩ ∧ N4 ≤ ga ∧ ga < z5.heap.size) := ⟨⟨ea, hga1, hga2⟩⟩
 have HGH : Hk (u.ha = some ⟨gh', 0, none⟩ ∧ N3 ≤ gh' ∧ gh' < N4) := ⟨⟨eh, hgh1, hgh2⟩⟩
 have HN34 : Hk (w.heap.size + 2 < N3 ∧ N3 ≤ N4 ∧ N4 ≤ z5.heap.size) := ⟨⟨HN3.out, HLY.out.le, by omega⟩⟩
 have HUE : Hk (u.hl = p.hl ∧ u.al = p.al ∧ u.xl = p.xl ∧ abI u.ll = abI p.ll ∧ abI u.ml = abI p.ml ∧ u.s = p.s ∧ u.t = p.t) := ⟨by obtain ⟨-, -, -, b4, b5, b6, b7, b8, b9, b10, -⟩ := (ab_iff u p).1 HAU.out; exact ⟨b8, b9, b10, b7, b6, b5, b4⟩⟩
 clear HP3 HR3 HNB3 HO3 HB3 HKP HLY HN3 HPB HRB HNB HBW ea hga1 hga2 eh hgh1 hgh2
 clear y0 y1 y2 y3 y4 y5 y6 y7 y8 y9 y10 yl
 clear nt0 nt1 nt2 nt3 nt4 nt5 nt6 nt7 ntl
 generalize z5.heap.size = N5 at *
 generalize ((((((((((((World.setCell z5 ⟨w.heap.size, 0, none⟩ (.int .i64 u.i)).setCell ⟨w.heap.size, 1, none⟩ (.int .i64 u.n)).setCell ⟨w.heap.size, 2, none⟩ (.int .i64 u.d)).setCell ⟨w.heap.size, 3, none⟩ (.int .i64 u.t)).setCell ⟨w.heap.size, 4, none⟩ (.int .i64 u.s)).setCell ⟨w.heap.size, 5, none⟩ (.slice u.ma u.mn u.mc)).setCell ⟨w.heap.size, 6, none⟩ (.slice u.la u.ln u.lc)).setCell ⟨w.heap.size, 7, none⟩ (.slice u.ha u.hn u.hc)).setCell ⟨w.heap.size, 8, none⟩ (.slice u.aa u.an u.ac)).setCell ⟨w.heap.size, 9, none⟩ (.slice u.xa u.xn u.xc)).setCell ⟨w.heap.size, 10, none⟩ (.bool u.b))) = V5 at *
 have HOH : Hk (OwnI V5 w.heap.size (.slice (some ⟨gh', 0, none⟩) p.hn u.hc) p.hn p.hl) := ⟨by have := HO5.out.h; rw [HGH.out.1, HLN.out.1, HUE.out.1] at this; exact this⟩
 obtain ⟨b8, o8, e8, _, hc8⟩ := HOH.out.nq2.at_ (by have := HKK.out; omega)
 injection e8 with e8
 injection e8 with e81 e82
 subst e81 e82
 have xh : V5.cell? ⟨gh', kk, none⟩ = some (.int .i64 hv) := by have := hc8 kk HKK.out.1; rw [Nat.zero_add, HHV.out.1] at this; exact this
 clear hc8 HOH
 obtain ⟨d0, d1, d2, d3, d4, d5, d6, d7, d8, d9, d10, dl⟩ := HP5.out.cs; obtain ⟨-, -, -, -, -, q5, q6, -, -, -, q10⟩ := HP5.out.fs
 have nt0 := HNB5.out.c 0; have nt1 := HNB5.out.c 1; have nt2 := HNB5.out.c 2; have nt3 := HNB5.out.c 3; have nt4 := HNB5.out.c 4; have nt5 := HNB5.out.c 5; have nt6 := HNB5.out.c 6; have nt7 := HNB5.out.c 7; have ntl := HNB5.out.lt; simp at nt0 nt1 nt2 nt3 nt4 nt5 nt6 nt7
 have t0 : (0 : Int) ≤ (kk : Int) := by omega
 have t1 : (kk : Int) < (p.hn : Int) := by have := HKK.out; omega
 have t2 : kk < p.hn := HKK.out.1
 rw [HGH.out.1, HLN.out.1] at d7
 obtain ⟨bb, fb⟩ : ∃ b, (q.q.t == hv + 1) = b := ⟨_, rfl⟩
 go_upto_region 7 with fail
 go_quiet (fail)
 have HD6 : Hk (Below V5.heap.size V5 (World.drewN V5 nq)) := ⟨below_drewN (Below.refl _ _) nq⟩
 have HP6 := Hk.mk (HP5.out.below HD6.out)
 have HR6 := Hk.mk (HR5.out.below HD6.out)
 have HNB6 := Hk.mk (HNB5.out.below HD6.out)
 have HO6 := Hk.mk (HO5.out.below HD6.out)
 have HB6 := Hk.mk (HB5.out.trans (HD6.out.mono HB5.out.size))
 have HN6 := Hk.mk (Nat.le_trans HN5.out HD6.out.size)
 clear HP5 HR5 HNB5 HO5 HB5 HN5 HD6 xh
 clear d0 d1 d2 d3 d4 d5 d6 d7 d8 d9 d10 dl q5 q6 q10
 clear nt0 nt1 nt2 nt3 nt4 nt5 nt6 nt7 ntl
 generalize World.drewN V5 nq = V6 at *
 have HFB := Hk.mk fb
 clear fb
 go_upto_if 56 with fail
 go_cut [] (fun wx => ∃ v : Pv, Hk (TkA w w.heap.size p u q kk N4 N5 w.heap.size wx v))
 case first =>
  cases bb
  ·have HNE : Hk (¬ q.q.t = hv + 1) := ⟨beq_eq_false_iff_ne.1 HFB.out⟩
   go_wp2
   go_meet
   case rel => exact ⟨u, ⟨⟨HP6.out, HO6.out, fun x hx => .inl (by obtain ⟨W0, h⟩ := HLL.out x hx; exact ⟨W0, h.mono HN34.out.2.1⟩), ⟨u.la, u.ln, u.lc, u.ll, u.hl, rfl, by rw [putM_no HHV.out.1 HNE.out]; exact HUE.out.2.2.2.1, by rw [putM_no HHV.out.1 HNE.out]; exact HUE.out.1, HSU.out.l⟩, HDJ.out, HNB6.out, HR6.out, HB6.out, HN6.out⟩⟩⟩
  ·have HTE : Hk (q.q.t = hv + 1) := ⟨beq_iff_eq.1 HFB.out⟩
   obtain ⟨hok, M, hM⟩ := HPUT.out HTE.out
   have HEA : Hk (Hk (askN q.q.ab (abI u.ll) = true)) := ⟨⟨by rw [HUE.out.2.2.2.1]; unfold askN; rw [hok, show ordN none (abI p.ll) = true from HOK.out.w.o]; rfl⟩⟩
   have HEM : Hk (Hk (putN q.q.ab (abI u.ll) = some M)) := ⟨⟨by rw [HUE.out.2.2.2.1]; exact hM⟩⟩
   have HMM := Hk.mk hM
   clear hok hM
   have HDQ : Hk (CmD V6 V6.heap.size q.q.a q.q.n q.q.l) := ⟨HDN.out _ HB6.out⟩
   have HLLc : Hk (∀ x, x ∈ u.ll → ∀ c, c ∈ x.l → c.u.length = c.m) := ⟨fun x hx c hc => ((HO6.out.d.l.u x hx).u c hc).len⟩
   have HLC : Hk (∀ c, c ∈ q.q.l → c.u.length = c.m) := ⟨fun c hc => (HDQ.out.u c hc).len⟩
   obtain ⟨d0, d1, d2, d3, d4, d5, d6, d7, d8, d9, d10, dl⟩ := HP6.out.cs; obtain ⟨-, -, -, -, -, q5, q6, -, -, -, q10⟩ := HP6.out.fs
   have nt0 := HNB6.out.c 0; have nt1 := HNB6.out.c 1; have nt2 := HNB6.out.c 2; have nt3 := HNB6.out.c 3; have nt4 := HNB6.out.c 4; have nt5 := HNB6.out.c 5; have nt6 := HNB6.out.c 6; have nt7 := HNB6.out.c 7; have ntl := HNB6.out.lt; simp at nt0 nt1 nt2 nt3 nt4 nt5 nt6 nt7
   go_upto_region 9 with (go_at_call 26; (with_reducible refine (tput_yes q.q (some M) u.la u.ln u.lc u.ll _ HO6.out.d.l HSU.out.l HDQ.out HSQ.out HEA.out HEM.out).mono ?_); rintro e z4 hput; obtain ⟨s2, n2, e2, M2, rfl, hm2, ha2⟩ := hput.yes M rfl; have hb := hput.bl; have HM4 := Hk.mk (hm2.weak HN6.out); have HA2 := Hk.mk ha2; have HP7 := Hk.mk (HP6.out.below hb); have HR7 := Hk.mk (HR6.out.below hb); have HNB7 := Hk.mk (HNB6.out.below hb); have HO7 := Hk.mk (HO6.out.below hb); have HB7 := Hk.mk (HB6.out.trans (hb.mono HB6.out.size)); have HN7 := Hk.mk (Nat.le_trans HN6.out hb.size); clear hput hm2 ha2 hb HP6 HR6 HNB6 HO6 HB6 HN6 HDQ; clear d0 d1 d2 d3 d4 d5 d6 d7 d8 d9 d10 dl q5 q6 q10; clear nt0 nt1 nt2 nt3 nt4 nt5 nt6 nt7 ntl; obtain ⟨d0, d1, d2, d3, d4, d5, d6, d7, d8, d9, d10, dl⟩ := HP7.out.cs; obtain ⟨-, -, -, -, -, q5, q6, -, -, -, q10⟩ := HP7.out.fs)
   obtain ⟨u1, hu1⟩ : ∃ x : Pv, x = { u with la := s2, ln := n2, lc := e2, ll := M2 } := ⟨_, rfl⟩
   have HFq : Hk (Fr (fun j => j = w.heap.size) z4 (z4.setCell ⟨w.heap.size, 6, none⟩ (.slice s2 n2 e2))) := ⟨Fr.setCell (M := fun j => j = w.heap.size) (p := ⟨w.heap.size, 6, none⟩) (Fr.refl _ z4) (fun _ => rfl) _⟩
   have HP8 : Hk (Bx (z4.setCell ⟨w.heap.size, 6, none⟩ (.slice s2 n2 e2)) w.heap.size u1) := ⟨by rw [hu1]; exact HP7.out.set 6 _ _ rfl⟩
   have HR8 : Hk (Bx (z4.setCell ⟨w.heap.size, 6, none⟩ (.slice s2 n2 e2)) (w.heap.size + 2) nilV) := ⟨HR7.out.oth (by omega) _ _⟩
   have HNB8 : Hk (Bk (z4.setCell ⟨w.heap.size, 6, none⟩ (.slice s2 n2 e2)) (w.heap.size + 1) (jjN q)) := ⟨HNB7.out.oth (by omega) _ _⟩
   have HK8 := Hk.mk (Kt.set (Nat.le_refl _) HP7.out.bl 6 (.slice s2 n2 e2))
   have HMN : Hk (OwN (z4.setCell ⟨w.heap.size, 6, none⟩ (.slice s2 n2 e2)) N5 (.slice s2 n2 e2) n2 M2) := ⟨HM4.out.up HFq.out (fun j hj e => by have := HN34.out; omega)⟩
   have HO8 : Hk (PvO (z4.setCell ⟨w.heap.size, 6, none⟩ (.slice s2 n2 e2)) w.heap.size u1) := ⟨by rw [hu1]; exact HK8.out.pvo (HO7.out.setl (HM4.out.weak (by have := HN34.out; omega)))⟩
   have HB8 := Hk.mk (HB7.out.trans HK8.out.bl)
   have HN8 : Hk (N5 ≤ ((z4.setCell ⟨w.heap.size, 6, none⟩ (.slice s2 n2 e2))).heap.size) := ⟨Nat.le_trans HN7.out HK8.out.bl.size⟩
   have HU1 : Hk (u1.ha = some ⟨gh', 0, none⟩ ∧ u1.hn = p.hn ∧ u1.hl = p.hl ∧ u1.ma = u.ma ∧ u1.ml = u.ml ∧ u1.ll = M2 ∧ u1.aa = u.aa ∧ u1.an = u.an ∧ u1.ac = u.ac ∧ u1.al = u.al) := ⟨by rw [hu1]; exact ⟨HGH.out.1, HLN.out.1, HUE.out.1, rfl, rfl, rfl, rfl, rfl, rfl, rfl⟩⟩
   have HU1e := Hk.mk hu1
   clear hu1 HFq HP7 HR7 HNB7 HK8 HM4 HO7 HB7 HN7
   clear d0 d1 d2 d3 d4 d5 d6 d7 d8 d9 d10 dl q5 q6 q10
   generalize (z4.setCell ⟨w.heap.size, 6, none⟩ (.slice s2 n2 e2)) = V8 at *
   have HOH : Hk (OwnI V8 w.heap.size (.slice (some ⟨gh', 0, none⟩) p.hn u1.hc) p.hn p.hl) := ⟨by have := HO8.out.h; rw [HU1.out.1, HU1.out.2.1, HU1.out.2.2.1] at this; exact this⟩
   obtain ⟨b8, o8, e8, _, hc8⟩ := HOH.out.nq2.at_ (by have := HKK.out; omega)
   injection e8 with e8
   injection e8 with e81 e82
   subst e81 e82
   have xh : V8.cell? ⟨gh', kk, none⟩ = some (.int .i64 hv) := by have := hc8 kk HKK.out.1; rw [Nat.zero_add, HHV.out.1] at this; exact this
   have fh := HOH.out.2.frozenAt kk
   clear hc8
   obtain ⟨d0, d1, d2, d3, d4, d5, d6, d7, d8, d9, d10, dl⟩ := HP8.out.cs; obtain ⟨-, -, -, -, -, q5, q6, -, -, -, q10⟩ := HP8.out.fs
   rw [HU1.out.1, HU1.out.2.1] at d7
   have HKN := Hk.mk (kt_num HOH.out kk (hv + 1))
   have HFN := Hk.mk (fr_num V8 gh' kk (hv + 1))
   have HAB : Hk (OwnI V8 N4 (.slice u1.aa u1.an u1.ac) u1.an u1.al) := ⟨by have := HO8.out.a; rw [HU1.out.2.2.2.2.2.2.1, HGA.out.1] at this ⊢; exact this.base HGA.out.2.1⟩
   have HO9 := Hk.mk (HO8.out.has (k := kk) (y := hv + 1) HU1.out.1 (fun x hx => .inl (HML.out x (by rw [HU1.out.2.2.2.2.1] at hx; exact hx))) (fun x hx => .inr ((HMN.out.u x (by rw [HU1.out.2.2.2.2.2.1] at hx; exact hx)).weak HN34.out.2.2)) HAB.out HGH.out.2.1 HGH.out.2.2 (by have := HN34.out; omega))
   go_wp2
   go_meet
   case rel => exact ⟨{ u1 with hl := u1.hl.set kk (hv + 1) }, ⟨⟨⟨(HP8.out.kt HKN.out (by decide)).bl⟩, HO9.out, fun x hx => .inr ((HMN.out.u x (by rw [← HU1.out.2.2.2.2.2.1]; exact hx)).up HFN.out (fun j hj e => by have := HGH.out.2.2; have := HN34.out; omega)), ⟨s2, n2, e2, M2, u1.hl.set kk (hv + 1), by rw [HU1e.out], by rw [putM_yes HHV.out.1 HTE.out HMM.out]; exact HA2.out, by rw [putM_yes HHV.out.1 HTE.out HMM.out, HU1.out.2.2.1], smI_put (put_mem HEM.out.out) HA2.out (fun x hx c hc => ((HMN.out.d.u x hx).u c hc).len) HLLc.out HLC.out HSU.out.l HSQ.out (by have h1 := HSU.out.l.n; have h2 := HLM.out.2.1; have h3 := HLN2.out; have h4 := congrArg List.length HUE.out.2.2.2.1; rw [abI_len, abI_len] at h4; have h5 := HXL.out; omega)⟩, fun j hj hj2 => by
    have h1 := (HMLO.out j hj).2
    rw [HU1e.out] at hj2
    have h2 := (HMN.out.o.lt j hj2).1
    omega, HNB8.out.oth (by have := HGH.out.2.1; have := HN34.out; omega) _ _, HR8.out.kt HKN.out (by decide), HB8.out.trans HKN.out.bl, Nat.le_trans HN8.out HKN.out.bl.size⟩⟩⟩
 case rest =>
 obtain ⟨v, HA⟩ := hcut
 obtain ⟨la', ln', lc', ll', hl', hve, hvl, hvh, hvs⟩ := HA.out.e
 have HP7 := Hk.mk HA.out.bx
 have HO7 := Hk.mk HA.out.o
 have HLX := Hk.mk HA.out.ll
 have HDJ2 := Hk.mk HA.out.dj
 have HNB7 := Hk.mk HA.out.n
 have HR7 := Hk.mk HA.out.r
 have HB7 := Hk.mk HA.out.b
 have HN7 := Hk.mk HA.out.z
 have HVE : Hk (v.ma = u.ma ∧ v.mn = p.mn ∧ v.mc = u.mc ∧ v.ml = u.ml ∧ v.aa = some ⟨ga, 0, none⟩ ∧ v.an = p.an ∧ v.al = p.al ∧ v.ha = u.ha ∧ v.hn = u.hn ∧ v.s = p.s ∧ v.t = p.t ∧ v.xn = p.xn ∧ v.xl = p.xl) := ⟨by rw [hve]; exact ⟨rfl, HLM.out.1, rfl, rfl, HGA.out.1, HLN.out.2, HUE.out.2.1, rfl, rfl, HUE.out.2.2.2.2.2.1, HUE.out.2.2.2.2.2.2, HLM.out.2.2, HUE.out.2.2.1⟩⟩
 have HVA : Hk (v.ab = putM p.ab kk q.q.ab) := ⟨by
  rw [putM_same, ← hvl, ← hvh, hve]
  obtain ⟨b1, b2, b3, b4, b5, b6, -, -, b9, b10, b11⟩ := (ab_iff u p).1 HAU.out
  show Pm.mk u.i u.n u.d u.t u.s (abI u.ml) (abI ll') hl' u.al u.xl u.b = Pm.mk p.i p.n p.d p.t p.s (abI p.ml) (abI ll') hl' p.al p.xl p.b
  rw [b1, b2, b3, b4, b5, b6, b9, b10, b11]⟩
 have HVS : Hk (PvS v) := ⟨by rw [hve]; exact ⟨HSU.out.m, hvs, HSU.out.h, HSU.out.a, HSU.out.x⟩⟩
 clear HP6 HR6 HNB6 HO6 HB6 HN6 HA hve hvl hvh hvs HFB HDJ HPUT HLL
 generalize wc = V7 at *
 have HOA : Hk (OwnI V7 w.heap.size (.slice (some ⟨ga, 0, none⟩) p.an v.ac) p.an p.al) := ⟨by have := HO7.out.a; rw [HVE.out.2.2.2.2.1, HVE.out.2.2.2.2.2.1, HVE.out.2.2.2.2.2.2.1] at this; exact this⟩
 obtain ⟨b9, o9, e9, _, hc9⟩ := HOA.out.nq2.at_ (by have := HKK.out; omega)
 injection e9 with e9
 injection e9 with e91 e92
 subst e91 e92
 have xa : V7.cell? ⟨ga, kk, none⟩ = some (.int .i64 av) := by have := hc9 kk HKK.out.2.1; rw [Nat.zero_add, HHV.out.2.1] at this; exact this
 clear hc9 HOA
 obtain ⟨d0, d1, d2, d3, d4, d5, d6, d7, d8, d9, d10, dl⟩ := HP7.out.cs; obtain ⟨-, -, -, -, -, q5, q6, -, -, -, q10⟩ := HP7.out.fs
 have nt0 := HNB7.out.c 0; have nt1 := HNB7.out.c 1; have nt2 := HNB7.out.c 2; have nt3 := HNB7.out.c 3; have nt4 := HNB7.out.c 4; have nt5 := HNB7.out.c 5; have nt6 := HNB7.out.c 6; have nt7 := HNB7.out.c 7; have ntl := HNB7.out.lt; simp at nt0 nt1 nt2 nt3 nt4 nt5 nt6 nt7
 have t3 : (kk : Int) < (p.an : Int) := by have := HKK.out; omega
 have t4 : kk < p.an := HKK.out.2.1
 rw [HVE.out.2.2.2.2.1, HVE.out.2.2.2.2.2.1] at d8
 rw [HVE.out.2.2.2.2.2.2.2.2.2.1] at d4
 obtain ⟨c1, fc1⟩ : ∃ b, decide (av < q.v) = b := ⟨_, rfl⟩
 obtain ⟨c2, fc2⟩ : ∃ b, decide (q.v ≤ p.s) = b := ⟨_, rfl⟩
 obtain ⟨bc, hbc⟩ : ∃ b, (c1 && c2) = b := ⟨_, rfl⟩
 have HBC : Hk (bc = true ↔ (av < q.v ∧ q.v ≤ p.s)) := ⟨by rw [← hbc, ← fc1, ← fc2]; simp⟩
 have HC12 := Hk.mk hbc
 clear hbc
 go_upto_region 10 with fail
 go_cut [87] (fun c wx => c = .bool bc ∧ Hk (Below V7.heap.size V7 wx))
 case first =>
  cases c1
  ·have e0 : bc = false := HC12.out.symm
   go_quiet (fail)
   go_wp2_with fail
   go_meet
   case rel => exact ⟨by rw [e0], ⟨below_drewN (Below.refl _ _) nq⟩⟩
  ·have e0 : bc = c2 := HC12.out.symm
   go_quiet (fail)
   go_wp2_with fail
   go_meet
   case rel => exact ⟨by rw [e0], ⟨below_drewN (Below.refl _ _) nq⟩⟩
 case rest =>
 obtain ⟨rfl, HW8⟩ := hcut
 have HP8 := Hk.mk (HP7.out.below HW8.out)
 have HO8 := Hk.mk (HO7.out.below HW8.out)
 have HLX8 : Hk (∀ x, x ∈ v.ll → (∃ W0, CmD W0 N4 x.a x.n x.l) ∨ OwCE wc N5 x.a x.n x.c x.l) := ⟨fun x hx => (HLX.out x hx).imp id (fun o => o.below HW8.out)⟩
 have HNB8 := Hk.mk (HNB7.out.below HW8.out)
 have HR8 := Hk.mk (HR7.out.below HW8.out)
 have HB8 := Hk.mk (HB7.out.trans (HW8.out.mono HB7.out.size))
 have HN8 := Hk.mk (Nat.le_trans HN7.out HW8.out.size)
 clear HP7 HO7 HLX HNB7 HR7 HB7 HN7 HW8 xa fc1 fc2 HC12
 clear d0 d1 d2 d3 d4 d5 d6 d7 d8 d9 d10 dl q5 q6 q10
 clear nt0 nt1 nt2 nt3 nt4 nt5 nt6 nt7 ntl
 generalize wc = V8 at *
 go_upto_if 87 with fail
 go_cut [] (fun wx => ∃ v2 : Pv, Hk (TkB w w.heap.size v v q kk w.heap.size wx v2))
 case first =>
  cases bc
  ·have HNO : Hk (¬ (av < q.v ∧ q.v ≤ p.s)) := ⟨fun k => by have := HBC.out.2 k; cases this⟩
   go_wp2
   go_meet
   case rel => exact ⟨v, ⟨⟨HP8.out, HO8.out, ⟨v.ma, v.mn, v.mc, v.ml, v.al, rfl, by rw [ackM_no (av := av) (by rw [HVE.out.2.2.2.2.2.2.1]; exact HHV.out.2.1) (by rw [HVE.out.2.2.2.2.2.2.2.2.2.1]; exact HNO.out)]; rfl, by rw [ackM_no (av := av) (by rw [HVE.out.2.2.2.2.2.2.1]; exact HHV.out.2.1) (by rw [HVE.out.2.2.2.2.2.2.2.2.2.1]; exact HNO.out)]; rfl, HVS.out.m⟩, HNB8.out, HR8.out, HB8.out⟩⟩⟩
  ·have HYE : Hk (av < q.v ∧ q.v ≤ p.s) := ⟨HBC.out.1 rfl⟩
   have hmn := HACK.out HYE.out
   obtain ⟨gm, cm, egm, hgm1, hgm2, hgm3⟩ := row_slice HO8.out.m.o.row (by rw [HVE.out.2.1]; exact hmn)
   injection egm with egm1 egm2 egm3
   have HGM : Hk (v.ma = some ⟨gm, 0, none⟩ ∧ gm < N5 ∧ w.heap.size + 2 < gm) := ⟨⟨egm1, (HMLO.out gm (by rw [← HVE.out.1, egm1]; rfl)).2, (HMLO.out gm (by rw [← HVE.out.1, egm1]; rfl)).1⟩⟩
   have HOA : Hk (OwnI V8 w.heap.size (.slice (some ⟨ga, 0, none⟩) p.an v.ac) p.an p.al) := ⟨by have := HO8.out.a; rw [HVE.out.2.2.2.2.1, HVE.out.2.2.2.2.2.1, HVE.out.2.2.2.2.2.2.1] at this; exact this⟩
   obtain ⟨b9, o9, e9, _, hc9⟩ := HOA.out.nq2.at_ (by have := HKK.out; omega)
   injection e9 with e9
   injection e9 with e91 e92
   subst e91 e92
   have xa : V8.cell? ⟨ga, kk, none⟩ = some (.int .i64 av) := by have := hc9 kk HKK.out.2.1; rw [Nat.zero_add, HHV.out.2.1] at this; exact this
   have fa := HOA.out.2.frozenAt kk
   clear hc9 hmn egm1 egm2 egm3 hgm1 hgm2 hgm3
   obtain ⟨d0, d1, d2, d3, d4, d5, d6, d7, d8, d9, d10, dl⟩ := HP8.out.cs; obtain ⟨-, -, -, -, -, q5, q6, -, -, -, q10⟩ := HP8.out.fs
   have nt0 := HNB8.out.c 0; have nt1 := HNB8.out.c 1; have nt2 := HNB8.out.c 2; have nt3 := HNB8.out.c 3; have nt4 := HNB8.out.c 4; have nt5 := HNB8.out.c 5; have nt6 := HNB8.out.c 6; have nt7 := HNB8.out.c 7; have ntl := HNB8.out.lt; simp at nt0 nt1 nt2 nt3 nt4 nt5 nt6 nt7
   rw [HVE.out.2.2.2.2.1, HVE.out.2.2.2.2.2.1] at d8
   go_upto_region 12 with fail
   obtain ⟨v1, hv1⟩ : ∃ x : Pv, x = { v with al := v.al.set kk q.v } := ⟨_, rfl⟩
   have HKN := Hk.mk (kt_num HOA.out kk q.v)
   have HFN := Hk.mk (fr_num V8 ga kk q.v)
   have HP9 : Hk (Bx (V8.setCell ⟨ga, kk, none⟩ (.int .i64 q.v)) w.heap.size v1) := ⟨by rw [hv1]; exact ⟨(HP8.out.kt HKN.out (by decide)).bl⟩⟩
   have HR9 : Hk (Bx (V8.setCell ⟨ga, kk, none⟩ (.int .i64 q.v)) (w.heap.size + 2) nilV) := ⟨HR8.out.kt HKN.out (by decide)⟩
   have HNB9 : Hk (Bk (V8.setCell ⟨ga, kk, none⟩ (.int .i64 q.v)) (w.heap.size + 1) (jjN q)) := ⟨HNB8.out.oth (by have := HGA.out.2.1; have := HN34.out; omega) _ _⟩
   have HO9 : Hk (PvO (V8.setCell ⟨ga, kk, none⟩ (.int .i64 q.v)) w.heap.size v1) := ⟨by
    rw [hv1]
    exact HO8.out.acked (N4 := N4) (N5 := N5) HVE.out.2.2.2.2.1 (fun x hx => .inl (by obtain ⟨W0, h⟩ := HML.out x (by rw [← HVE.out.2.2.2.1]; exact hx); exact ⟨W0, h.mono HN34.out.2.1⟩)) HLX8.out (by rw [HVE.out.2.2.2.2.2.2.2.1, HVE.out.2.2.2.2.2.2.2.2.1]; obtain ⟨W0, h⟩ := HHQ.out; exact ⟨W0, _, h⟩) HGA.out.2.1 HGA.out.2.2 (by have := HN34.out; omega)⟩
   have HB9 := Hk.mk (HB8.out.trans HKN.out.bl)
   have HV1 : Hk (v1.aa = some ⟨ga, 0, none⟩ ∧ v1.an = p.an ∧ v1.ac = v.ac ∧ v1.al = p.al.set kk q.v ∧ v1.ma = some ⟨gm, 0, none⟩ ∧ v1.mn = v.mn ∧ v1.mc = v.mc ∧ v1.ml = v.ml ∧ v1.la = v.la ∧ v1.ln = v.ln ∧ v1.lc = v.lc) := ⟨by rw [hv1]; exact ⟨HVE.out.2.2.2.2.1, HVE.out.2.2.2.2.2.1, rfl, by rw [HVE.out.2.2.2.2.2.2.1], HGM.out.1, rfl, rfl, rfl, rfl, rfl, rfl⟩⟩
   have HV1e := Hk.mk hv1
   clear hv1 HKN HFN HP8 HR8 HNB8 HO8 HB8 HOA xa fa HLX8 HN8
   clear d0 d1 d2 d3 d4 d5 d6 d7 d8 d9 d10 dl q5 q6 q10
   clear nt0 nt1 nt2 nt3 nt4 nt5 nt6 nt7 ntl
   generalize (V8.setCell ⟨ga, kk, none⟩ (.int .i64 q.v)) = V9 at *
   obtain ⟨mm, hmm⟩ : ∃ x, minL v1.al = x := ⟨_, rfl⟩
   have HMIN := Hk.mk hmm
   clear hmm
   have HNA : Hk (Nq V9 V9.heap.size (some ⟨ga, 0, none⟩) p.an v1.al) := ⟨by have := HO9.out.a.nq2; rw [HV1.out.1, HV1.out.2.1] at this; exact this⟩
   have HPO : Hk (0 < p.an ∧ p.an ≤ 1048576) := ⟨by have h1 := HKK.out.2.1; have h2 := HS.out.a; omega⟩
   obtain ⟨d0, d1, d2, d3, d4, d5, d6, d7, d8, d9, d10, dl⟩ := HP9.out.cs; obtain ⟨-, -, -, -, -, q5, q6, -, -, -, q10⟩ := HP9.out.fs
   rw [HV1.out.1, HV1.out.2.1, HV1.out.2.2.1] at d8
   go_upto_region 13 with (go_at_call 31; (with_reducible refine (min_any (some ⟨ga, 0, none⟩) p.an v.ac v1.al _ HNA.out HPO.out.1 HPO.out.2).mono ?_); rintro e zm ⟨rfl, hz⟩; rw [HMIN.out]; have hb := below_m hz; have HPm := Hk.mk (HP9.out.below hb); have HRm := Hk.mk (HR9.out.below hb); have HNBm := Hk.mk (HNB9.out.below hb); have HOm := Hk.mk (HO9.out.below hb); have HBm := Hk.mk (HB9.out.trans (hb.mono HB9.out.size)); clear hb hz HP9 HR9 HNB9 HO9 HB9 HNA)
   have HP10 : Hk (Bx (zm.alloc (.cells #[.int .i64 mm] 3)) w.heap.size v1) := ⟨HPm.out.al _⟩
   have HR10 : Hk (Bx (zm.alloc (.cells #[.int .i64 mm] 3)) (w.heap.size + 2) nilV) := ⟨HRm.out.al _⟩
   have HNB10 : Hk (Bk (zm.alloc (.cells #[.int .i64 mm] 3)) (w.heap.size + 1) (jjN q)) := ⟨HNBm.out.al _⟩
   have HO10 : Hk (PvO (zm.alloc (.cells #[.int .i64 mm] 3)) w.heap.size v1) := ⟨HOm.out.below (below_al _ _)⟩
   have HB10 : Hk (Below w.heap.size w (zm.alloc (.cells #[.int .i64 mm] 3))) := ⟨kw_al HBm.out (Nat.le_refl _) _⟩
   have HCA : Hk ((zm.alloc (.cells #[.int .i64 mm] 3)).cell? ⟨zm.heap.size, 0, none⟩ = some (.int .i64 mm)) := ⟨(Bk.new zm #[.int .i64 mm] 3).c 0⟩
   have HOW : Hk (Ow shI 55 (zm.alloc (.cells #[.int .i64 mm] 3)) w.heap.size (.slice (some ⟨gm, 0, none⟩) v.mn v.mc) v.mn v.ml) := ⟨by have := HO10.out.m.o; rw [HV1.out.2.2.2.2.1, HV1.out.2.2.2.2.2.1, HV1.out.2.2.2.2.2.2.1, HV1.out.2.2.2.2.2.2.2.1] at this; exact this⟩
   have HMN1 : Hk (v.mn ≤ 1048576) := ⟨by have h1 := HVS.out.m.n; have h2 := HOW.out.len; omega⟩
   have HAG : Hk (¬ zm.heap.size = gm) := ⟨by
    have h1 := (HOm.out.m.o.lt gm (by rw [HV1.out.2.2.2.2.1]; rfl)).2
    omega⟩
   clear HPm HRm HNBm HOm HBm
   clear d0 d1 d2 d3 d4 d5 d6 d7 d8 d9 d10 dl q5 q6 q10
   generalize zm.heap.size = A at *
   generalize (zm.alloc (.cells #[.int .i64 mm] 3)) = V10 at *
   obtain ⟨d0, d1, d2, d3, d4, d5, d6, d7, d8, d9, d10, dl⟩ := HP10.out.cs; obtain ⟨-, -, -, -, -, q5, q6, -, -, -, q10⟩ := HP10.out.fs
   rw [HV1.out.2.2.2.2.1, HV1.out.2.2.2.2.2.1, HV1.out.2.2.2.2.2.2.1] at d5
   go_wp2_with (go_at_call 32; (with_reducible refine (delI_any mm A w.heap.size gm v.mn v.mc v.ml _ HOW.out HMN1.out HCA.out HAG.out).mono ?_); rintro e zd ⟨n', rfl, hod, hfd⟩; have HOD := Hk.mk hod; have HFD := Hk.mk hfd; have HKD := Hk.mk (Kt.frow HOW.out hfd); have HPd := Hk.mk (HP10.out.kt HKD.out (by decide)); clear hod hfd; clear d0 d1 d2 d3 d4 d5 d6 d7 d8 d9 d10 dl q5 q6 q10; obtain ⟨d0, d1, d2, d3, d4, d5, d6, d7, d8, d9, d10, dl⟩ := HPd.out.cs; obtain ⟨-, -, -, -, -, q5, q6, -, -, -, q10⟩ := HPd.out.fs)
   go_meet
   case rel =>
    have HOd : Hk (PvO zd w.heap.size { v1 with ma := some ⟨gm, 0, none⟩, mn := n', mc := v.mc, ml := v.ml.filter fun x => decide (mm < x.t) }) := ⟨⟨HOD.out, fun x hx => HKD.out.owce (HO10.out.m.u x (by rw [HV1.out.2.2.2.2.2.2.2.1]; exact (List.mem_filter.1 hx).1)) (by decide) (by decide)⟩, ⟨HO10.out.l.o.fr HFD.out (fun j hj e => by
     subst e
     rw [HV1.out.2.2.2.2.2.2.2.2.1, HV1.out.2.2.2.2.2.2.2.2.2.1, HV1.out.2.2.2.2.2.2.2.2.2.2] at hj
     exact HDJ2.out j (by rw [← HVE.out.1, HGM.out.1]; rfl) hj), fun x hx => HKD.out.owce (HO10.out.l.u x hx) (by decide) (by decide)⟩, HKD.out.owni HO10.out.h (by decide), HKD.out.owni HO10.out.a (by decide), HKD.out.ow HO10.out.x (by decide)⟩
    have HKS := Hk.mk (Kt.set (Nat.le_refl _) HPd.out.bl 5 (.slice (some ⟨gm, 0, none⟩) n' v.mc))
    exact ⟨{ v1 with ma := some ⟨gm, 0, none⟩, mn := n', mc := v.mc, ml := v.ml.filter fun x => decide (mm < x.t) }, ⟨⟨HPd.out.set 5 _ _ rfl, HKS.out.pvo HOd.out, ⟨some ⟨gm, 0, none⟩, n', v.mc, v.ml.filter fun x => decide (mm < x.t), v.al.set kk q.v, by rw [HV1e.out], by
     rw [ackM_yes (av := av) (by rw [HVE.out.2.2.2.2.2.2.1]; exact HHV.out.2.1) (by rw [HVE.out.2.2.2.2.2.2.2.2.2.1]; exact HYE.out), abI_filter, ← HMIN.out, HV1e.out], by
     rw [ackM_yes (av := av) (by rw [HVE.out.2.2.2.2.2.2.1]; exact HHV.out.2.1) (by rw [HVE.out.2.2.2.2.2.2.2.2.2.1]; exact HYE.out)], HVS.out.m.sub (fun x hx => (List.mem_filter.1 hx).1) (List.length_filter_le _ _)⟩, (HNB10.out.frz HFD.out (by have := HGM.out; omega)).oth (by omega) _ _, (HR10.out.kt HKD.out (by decide)).oth (by omega) _ _, (HB10.out.trans HKD.out.bl).trans HKS.out.bl⟩⟩⟩
 case rest =>
 obtain ⟨v2, HB2⟩ := hcut
 obtain ⟨ma', mn', mc', ml', al', hve, hvl, hvh, hvs⟩ := HB2.out.e
 have HP7 := Hk.mk HB2.out.bx
 have HO7 := Hk.mk HB2.out.o
 have HNB7 := Hk.mk HB2.out.n
 have HR7 := Hk.mk HB2.out.r
 have HB7 := Hk.mk HB2.out.b
 have HV2 : Hk (v2.t = p.t ∧ v2.xn = p.xn ∧ v2.xl = p.xl) := ⟨by rw [hve]; exact ⟨HVE.out.2.2.2.2.2.2.2.2.2.2.1, HVE.out.2.2.2.2.2.2.2.2.2.2.2.1, HVE.out.2.2.2.2.2.2.2.2.2.2.2.2⟩⟩
 have HVA2 : Hk (v2.ab = ackM v.ab kk q.v) := ⟨by
  rw [ackM_same, ← hvl, ← hvh, hve]
  rfl⟩
 have HVS2 : Hk (PvS v2) := ⟨by rw [hve]; exact ⟨hvs, HVS.out.l, HVS.out.h, HVS.out.a, HVS.out.x⟩⟩
 clear HP8 HR8 HNB8 HO8 HB8 HB2 hve hvl hvh hvs HLX8 HN8 HBC
 generalize wc = V7b at *
 obtain ⟨bk, hbk⟩ : ∃ x, p.t - q.d = x := ⟨_, rfl⟩
 have gb : IntKind.i64.wrap (p.t - q.d) = bk := by rw [wr27 (by have := HXL.out; have := HDN0.out; omega) (by have := HXL.out; have := HDN0.out; omega)]; exact hbk
 have HBK := Hk.mk hbk
 clear hbk
 obtain ⟨d0, d1, d2, d3, d4, d5, d6, d7, d8, d9, d10, dl⟩ := HP7.out.cs; obtain ⟨-, -, -, -, -, q5, q6, -, -, -, q10⟩ := HP7.out.fs
 have nt0 := HNB7.out.c 0; have nt1 := HNB7.out.c 1; have nt2 := HNB7.out.c 2; have nt3 := HNB7.out.c 3; have nt4 := HNB7.out.c 4; have nt5 := HNB7.out.c 5; have nt6 := HNB7.out.c 6; have nt7 := HNB7.out.c 7; have ntl := HNB7.out.lt; simp at nt0 nt1 nt2 nt3 nt4 nt5 nt6 nt7
 rw [HV2.out.1] at d3
 rw [HV2.out.2.1] at d9
 obtain ⟨bs, HBS⟩ := bool_of (q.d < p.t ∧ p.t - p.xl.length ≤ q.d ∧ ¬ p.xl.getD (q.d - (p.t - p.xl.length)).toNat 0 = q.h)
 have HBSk := Hk.mk HBS
 clear HBS
 go_upto_region 15 with fail
 go_cut [129] (fun c wx => c = .bool bs ∧ Hk (Below V7b.heap.size V7b wx))
 case first =>
  by_cases h1 : q.d < p.t
  ·have e1 : decide (0 < bk) = true := decide_eq_true (by have := HBK.out; omega)
   by_cases h2 : p.t - (p.xn : Int) ≤ q.d
   ·have e2 : decide (bk ≤ (p.xn : Int)) = true := decide_eq_true (by have := HBK.out; omega)
    obtain ⟨jj, hjj⟩ : ∃ jj : Nat, (p.xn : Int) - bk = (jj : Int) := ⟨((p.xn : Int) - bk).toNat, by have := HBK.out; omega⟩
    have hbk := HBK.out
    have gj : IntKind.i64.wrap ((p.xn : Int) - bk) = (jj : Int) := by rw [wr27 (by have := HXL.out; have := HDN0.out; omega) (by have := HXL.out; have := HDN0.out; omega)]; exact hjj
    have j0 : (0 : Int) ≤ (jj : Int) := by omega
    have j1 : (jj : Int) < (p.xn : Int) := by omega
    have j2 : jj < p.xn := by omega
    obtain ⟨bx, ox, ex, hbx, hcx⟩ := HO7.out.d.x.atu (by rw [HV2.out.2.1]; omega)
    rw [ex] at d9
    have xx := hcx jj (by rw [HV2.out.2.1]; exact j2)
    rw [HV2.out.2.2] at xx
    obtain ⟨hj, ehj⟩ : ∃ x, p.xl.getD jj 0 = x := ⟨_, rfl⟩
    rw [ehj] at xx
    obtain ⟨b3, f3⟩ : ∃ b, (hj != q.h) = b := ⟨_, rfl⟩
    have HB3 : Hk (b3 = bs) := ⟨by
     have e3 : (b3 = true) ↔ (bs = true) := by
      rw [← f3, ← HBSk.out, HXL.out.1, show (q.d - (p.t - (p.xn : Int))).toNat = jj by omega, ehj]
      simp
      exact ⟨fun k => ⟨h1, by omega, k⟩, fun k => k.2.2⟩
     cases b3 <;> cases bs <;> simp at e3 ⊢⟩
    clear h1 h2 hjj hcx ehj ex hbk
    go_quiet (fail)
    go_wp2_with fail
    go_meet
    case rel => exact ⟨by rw [HB3.out], ⟨below_drewN (Below.refl _ _) nq⟩⟩
   ·have e2 : decide (bk ≤ (p.xn : Int)) = false := decide_eq_false (by have := HBK.out; omega)
    have HB3 : Hk (bs = false) := ⟨by cases bs; rfl; exact absurd ((HBSk.out.2 rfl).2.1) (by rw [HXL.out.1]; omega)⟩
    clear h1 h2
    go_quiet (fail)
    go_wp2_with fail
    go_meet
    case rel => exact ⟨by rw [HB3.out], ⟨below_drewN (Below.refl _ _) nq⟩⟩
  ·have e1 : decide (0 < bk) = false := decide_eq_false (by have := HBK.out; omega)
   have HB3 : Hk (bs = false) := ⟨by cases bs; rfl; exact absurd ((HBSk.out.2 rfl).1) h1⟩
   clear h1
   go_quiet (fail)
   go_wp2_with fail
   go_meet
   case rel => exact ⟨by rw [HB3.out], ⟨below_drewN (Below.refl _ _) nq⟩⟩
 case rest =>
 obtain ⟨rfl, HW8⟩ := hcut
 have HP8 := Hk.mk (HP7.out.below HW8.out)
 have HO8 := Hk.mk (HO7.out.below HW8.out)
 have HR8 := Hk.mk (HR7.out.below HW8.out)
 have HB8 := Hk.mk (HB7.out.trans (HW8.out.mono HB7.out.size))
 have HTK : Hk (takeM p.ab q.ab = if bs = true then { v2.ab with b := true } else v2.ab) := ⟨by
  have e0 : takeM p.ab q.ab = splM v2.ab q.d q.h := by rw [HVA2.out, HVA.out, ← HKK.out.2.2.2.2]; rfl
  rw [e0]
  have e1 : v2.ab.t = p.t := HV2.out.1
  have e2 : v2.ab.x = p.xl := HV2.out.2.2
  unfold splM
  rw [e1, e2]
  by_cases c : bs = true
  ·rw [if_pos c, if_pos (HBSk.out.2 c), ← e1, ← e2]
  ·rw [if_neg c, if_neg (fun k => c (HBSk.out.1 k))]⟩
 clear HP7 HO7 HNB7 HR7 HB7 HW8 HBSk
 clear d0 d1 d2 d3 d4 d5 d6 d7 d8 d9 d10 dl q5 q6 q10
 clear nt0 nt1 nt2 nt3 nt4 nt5 nt6 nt7 ntl
 generalize wc = V8b at *
 cases bs
 ·obtain ⟨d0, d1, d2, d3, d4, d5, d6, d7, d8, d9, d10, dl⟩ := HP8.out.cs; obtain ⟨-, -, -, -, -, q5, q6, -, -, -, q10⟩ := HP8.out.fs
  obtain ⟨r0, r1, r2, r3, r4, r5, r6, r7, r8, r9, r10, rl⟩ := HR8.out.cs; obtain ⟨f0, f1, f2, f3, f4, f5, f6, f7, f8, f9, f10⟩ := HR8.out.fs
  have HFB := Hk.mk ((Kt.put (B := w.heap.size) HR8.out (by omega) v2))
  go_wp2
  refine bodyPost_ret (v := .tuple #[.agg (jjP v2), .int .i64 0]) (by simp [results, Try.results15, go_sem, r0, r1, r2, r3, r4, r5, r6, r7, r8, r9, r10, f0, f1, f2, f3, f4, f5, f6, f7, f8, f9, f10]) rfl ⟨v2, rfl, HFB.out.pvo HO8.out, by rw [HTK.out]; rfl, HVS2.out, HB8.out.trans HFB.out.bl⟩
 ·obtain ⟨d0, d1, d2, d3, d4, d5, d6, d7, d8, d9, d10, dl⟩ := HP8.out.cs; obtain ⟨-, -, -, -, -, q5, q6, -, -, -, q10⟩ := HP8.out.fs
  go_upto_region 17 with fail
  obtain ⟨v3, hv3⟩ : ∃ x : Pv, x = { v2 with b := true } := ⟨_, rfl⟩
  have HP9 : Hk (Bx (V8b.setCell ⟨w.heap.size, 10, none⟩ (.bool true)) w.heap.size v3) := ⟨by rw [hv3]; exact HP8.out.set 10 _ _ rfl⟩
  have HK9 := Hk.mk (Kt.set (Nat.le_refl _) HP8.out.bl 10 (.bool true))
  have HO9 : Hk (PvO (V8b.setCell ⟨w.heap.size, 10, none⟩ (.bool true)) w.heap.size v3) := ⟨by rw [hv3]; have o := HK9.out.pvo HO8.out; exact ⟨o.m, o.l, o.h, o.a, o.x⟩⟩
  have HR9 : Hk (Bx (V8b.setCell ⟨w.heap.size, 10, none⟩ (.bool true)) (w.heap.size + 2) nilV) := ⟨HR8.out.oth (by omega) _ _⟩
  have HB9 := Hk.mk (HB8.out.trans HK9.out.bl)
  have HV3 : Hk (v3.ab = { v2.ab with b := true }) := ⟨by rw [hv3]; rfl⟩
  have HS3 : Hk (PvS v3) := ⟨by rw [hv3]; exact ⟨HVS2.out.m, HVS2.out.l, HVS2.out.h, HVS2.out.a, HVS2.out.x⟩⟩
  clear hv3 HP8 HK9 HO8 HR8 HB8
  clear d0 d1 d2 d3 d4 d5 d6 d7 d8 d9 d10 dl q5 q6 q10
  generalize (V8b.setCell ⟨w.heap.size, 10, none⟩ (.bool true)) = V9b at *
  obtain ⟨d0, d1, d2, d3, d4, d5, d6, d7, d8, d9, d10, dl⟩ := HP9.out.cs; obtain ⟨-, -, -, -, -, q5, q6, -, -, -, q10⟩ := HP9.out.fs
  obtain ⟨r0, r1, r2, r3, r4, r5, r6, r7, r8, r9, r10, rl⟩ := HR9.out.cs; obtain ⟨f0, f1, f2, f3, f4, f5, f6, f7, f8, f9, f10⟩ := HR9.out.fs
  have HFB := Hk.mk ((Kt.put (B := w.heap.size) HR9.out (by omega) v3))
  go_wp2
  refine bodyPost_ret (v := .tuple #[.agg (jjP v3), .int .i64 0]) (by simp [results, Try.results15, go_sem, r0, r1, r2, r3, r4, r5, r6, r7, r8, r9, r10, f0, f1, f2, f3, f4, f5, f6, f7, f8, f9, f10]) rfl ⟨v3, rfl, HFB.out.pvo HO9.out, by rw [HTK.out, HV3.out]; rfl, HS3.out, HB9.out.trans HFB.out.bl⟩
end Go.Proofs.Ytdpblimhfmfbnaa
namespace Go.Proofs.Ytdpblimhfmfbnaa
open Go.ChangeShapes Go.WideShapes Go.ChangeAt Go.RowKit Go.Deep
structure Tw (w : World) (S : Nat) (v v' : Value) (n m : Nat) (x : Int) : Prop where
 a : w.ownsRow S 3 1 v n ((List.replicate n x).map (Value.int .i64))
 b : w.ownsRow S 3 1 v' m ((List.replicate m x).map (Value.int .i64))
 ap : v.ownBlock = none ∨ v.ownBlock ≠ v'.ownBlock
theorem Tw.nil (w : World) (S : Nat) (x : Int) : Tw w S (.slice none 0 0) (.slice none 0 0) 0 0 x := ⟨⟨rfl, Or.inl ⟨rfl, rfl⟩⟩, ⟨rfl, Or.inl ⟨rfl, rfl⟩⟩, Or.inl rfl⟩
theorem Tw.fr {w w' : World} {S n m : Nat} {v v' : Value} {x : Int} {M : Nat → Prop} (h : Tw w S v v' n m x) (k : Fr M w w') (hM : ∀ j, M j → j < S) : Tw w' S v v' n m x :=
 ⟨k.row h.a (fun j hj hm => by have := (h.a.lt j hj).1; have := hM j hm; omega), k.row h.b (fun j hj hm => by have := (h.b.lt j hj).1; have := hM j hm; omega), h.ap⟩
theorem Tw.o1 {w : World} {S n m : Nat} {v v' : Value} {x : Int} (h : Tw w S v v' n m x) : OwnI w S v n (List.replicate n x) := ⟨by simp, h.a⟩
theorem Tw.o2 {w : World} {S n m : Nat} {v v' : Value} {x : Int} (h : Tw w S v v' n m x) : OwnI w S v' m (List.replicate m x) := ⟨by simp, h.b⟩
theorem Tw.form {w : World} {S n m : Nat} {v v' : Value} {x : Int} (h : Tw w S v v' n m x) : ∃ a c a' c', v = .slice a n c ∧ v' = .slice a' m c' := by
 obtain ⟨a, c, e, _⟩ := h.o1.nq
 obtain ⟨a', c', e', _⟩ := h.o2.nq
 exact ⟨a, c, a', c', e, e'⟩
end Go.Proofs.Ytdpblimhfmfbnaa
namespace Go.Proofs.Ytdpblimhfmfbnaa
open Go.ChangeShapes Go.WideShapes Go.ChangeAt Go.RowKit Go.Deep
theorem num28_any (x : Int) (w : World) : Calls Try.prog 9 #[.int .i64 x] w fun e w' => e = .returned (.int .i64 x) ∧ w' = w := by
 go_enter Try.func9, Try.ntmps9
 go_wp2
 go_ret
 exact ⟨rfl, rfl⟩
theorem beg_one : OkP (begP 1 1 1) := by
 refine ⟨⟨by decide, by decide, by decide, by decide, by decide, by decide, by decide, by decide, by decide, by decide, by decide⟩, ⟨by decide, by decide, by decide, by decide, ?_⟩, ⟨rfl, fun x hx => by cases hx⟩, ⟨by decide, fun k x hx => by cases hx⟩, by decide, by decide⟩
 intro k hk
 obtain rfl : k = 0 := by
  have : (begP 1 1 1).h.length = 1 := rfl
  omega
 decide
set_option maxRecDepth 100000 in
set_option maxHeartbeats 3200000 in
theorem wakes28_any (w : World) : Calls Try.prog 11 #[] w fun e w' => e = .returned (.bool true) ∧ Below w.heap.size w w' := by
 have HM : Hk (MayP 1 1 1) := ⟨by unfold MayP; omega⟩
 go_enter Try.func11, Try.ntmps11
 go_upto_region 2 with (go_at_call 8; (with_reducible refine (pnew_yes 1 1 1 _ HM.out).mono ?_); rintro e z ⟨q, rfl, ho, hab, hs, hb⟩; have HB0 := Hk.mk hb; have HD := Hk.mk ho.d; have HA := Hk.mk hab; have HS := Hk.mk hs; clear ho hab hs hb)
 have HP : Hk (Bk (z.alloc (.cells (jjP q) 28)) z.heap.size (jjP q)) := ⟨Bk.new z (jjP q) 28⟩
 have HB : Hk (Below w.heap.size w (z.alloc (.cells (jjP q) 28))) := ⟨HB0.out.alloc HB0.out.size _⟩
 have HDV : Hk (PvD (z.alloc (.cells (jjP q) 28)) (z.alloc (.cells (jjP q) 28)).heap.size q) := ⟨HD.out.later ((Below.refl _ _).alloc (Nat.le_refl _) _)⟩
 obtain ⟨PQ, hpq⟩ : ∃ PQ, z.heap.size = PQ := ⟨_, rfl⟩
 rw [hpq] at HP ⊢
 clear HB0 HD HM hpq
 generalize (z.alloc (.cells (jjP q) 28)) = V at *
 have c0 := HP.out.c 0; have c1 := HP.out.c 1; have c2 := HP.out.c 2; have c3 := HP.out.c 3; have c4 := HP.out.c 4; have c5 := HP.out.c 5; have c6 := HP.out.c 6; have c7 := HP.out.c 7; have c8 := HP.out.c 8; have c9 := HP.out.c 9; have c10 := HP.out.c 10
 have cl := HP.out.lt
 simp at c0 c1 c2 c3 c4 c5 c6 c7 c8 c9 c10
 have HK : Hk (OkP q.ab) := ⟨by rw [HA.out]; exact beg_one⟩
 have HR : Hk (q.t < 1099511627776 ∧ q.t ≤ minL q.hl) := ⟨by
  have e1 : q.t = 0 := congrArg Pm.t HA.out
  have e2 : q.hl = [0] := congrArg Pm.h HA.out
  rw [e1, e2]
  decide⟩
 have HE : Hk (abI q.ll = []) := ⟨congrArg Pm.l HA.out⟩
 clear HA z
 go_wp2_with (first
  | (go_at_call 16; (with_reducible refine (pready_yes q _ HDV.out HS.out HK.out HR.out).mono ?_); rintro e z ⟨a2, c2, M, rfl, ho, hab, hb⟩; have hm0 : M = [] := (by rw [HE.out] at hab; exact List.map_eq_nil_iff.1 hab); subst hm0; have HB2 := Hk.mk (HB.out.trans (hb.mono HB.out.size)); clear ho hab hb)
  | (go_at_call 9; (with_reducible refine (num28_any _ _).mono ?_); rintro e z2 ⟨rfl, hz⟩; rw [hz]; clear hz z2))
 go_ret
 exact ⟨rfl, HB2.out⟩
end Go.Proofs.Ytdpblimhfmfbnaa
namespace Go.Proofs.Ytdpblimhfmfbnaa
open Go.ChangeShapes Go.WideShapes Go.ChangeAt Go.RowKit Go.Deep
def spT (t : Nat) : Pm := ⟨1, 2, 8, (t : Int), 7, [], [], [7, 7], [7, 7], (List.range t).map (fun (i : Nat) => 100 + (i : Int)), false⟩
theorem spT_beg : begP 1 2 8 = spT 0 := rfl
theorem spT_len (t : Nat) : (spT t).x.length = t := by unfold spT; simp
theorem spT_ok {t : Nat} (h : t ≤ 8) : OkP (spT t) := by
 have hx := spT_len t
 refine ⟨⟨by show (1 : Int) ≤ 2; decide, by show (2 : Int) ≤ 8; decide, by show (1 : Int) ≤ 1; decide, by show (1 : Int) ≤ 2; decide, by show (1 : Int) ≤ 8; decide, by show (8 : Int) ≤ 8; decide, by show (0 : Int) ≤ (t : Int); omega, by show (t : Int) ≤ 1099511627776; omega, by show (8 : Int) - 1 ≤ 7; decide, by show (7 : Int) ≤ (t : Int) + 8 - 1; omega, by show (7 : Int) ≤ 1099511627776; decide⟩, ⟨rfl, rfl, rfl, rfl, ?_⟩, ⟨rfl, fun x hx => by cases hx⟩, ⟨by rfl, fun k x hx => by cases hx⟩, by omega, by rw [hx]; exact Int.le_refl _⟩
 intro k hk
 have hk2 : k < 2 := hk
 have e1 : (spT t).h.getD k 0 = 7 := by
  rcases (show k = 0 ∨ k = 1 by omega) with rfl | rfl <;> rfl
 have e2 : (spT t).a.getD k 0 = 7 := by
  rcases (show k = 0 ∨ k = 1 by omega) with rfl | rfl <;> rfl
 rw [e1, e2]
 show max 8 (t : Int) - 1 ≤ 7 ∧ (7 : Int) ≤ (t : Int) + 16 ∧ (7 : Int) ≤ 1099511627776 ∧ (8 : Int) - 1 ≤ 7 ∧ (7 : Int) ≤ 7
 omega
theorem spT_run {t : Nat} (h : t < 8) : runM (spT t) (100 + (t : Int)) = spT (t + 1) := by
 have hx := spT_len t
 unfold runM
 rw [if_neg (by omega)]
 unfold spT
 simp [List.range_succ]
theorem spT_x {t d : Nat} (h : d < t) : (spT t).x.getD d 0 = 100 + (d : Int) := by
 unfold spT
 simp [List.getD, List.getElem?_map, List.getElem?_range, h]
def spN (d h : Int) : Nm := ⟨2, 1, ⟨-1, 0, []⟩, d, h, -1⟩
theorem spN_for {d h : Int} (h1 : -1 ≤ d) (h2 : d ≤ 100) (h3 : 0 ≤ d ∨ h = 0) (t : Nat) : ForP (spT t) (spN d h) := ⟨⟨by show (1 : Int) ≤ 2 ∧ (2 : Int) ≤ 8; decide, by show (1 : Int) ≤ 1 ∧ (1 : Int) ≤ 8; decide, by show ¬ (2 : Int) = 1; decide, ⟨h1, by show d ≤ 1099511627776; omega⟩, by show (-1 : Int) ≤ -1 ∧ (-1 : Int) ≤ 1099511627776; decide, h3, .inl ⟨rfl, rfl, rfl⟩⟩, rfl, by show (2 : Int) ≤ 2; decide⟩
theorem spN_take {d h : Int} (h1 : -1 ≤ d) : (takeM (spT 8) (spN d h)).b = decide (0 ≤ d ∧ d < 8 ∧ ¬ 100 + d = h) := by
 have e1 : putM (spT 8) ((spN d h).f.toNat - 1) (spN d h).q = spT 8 := if_neg (by show ¬ ((-1 : Int) = 7 + 1); decide)
 have e2 : ackM (spT 8) ((spN d h).f.toNat - 1) (spN d h).v = spT 8 := if_neg (by show ¬ ((7 : Int) < -1 ∧ (-1 : Int) ≤ 7); decide)
 have e3 : takeM (spT 8) (spN d h) = splM (spT 8) d h := by unfold takeM; rw [e1, e2]; rfl
 rw [e3]
 unfold splM
 rw [spT_len]
 by_cases c : 0 ≤ d ∧ d < 8
 ·obtain ⟨k, rfl⟩ : ∃ k : Nat, d = (k : Int) := ⟨d.toNat, by omega⟩
  have e4 : (spT 8).x.getD ((k : Int) - ((spT 8).t - ((8 : Nat) : Int))).toNat 0 = 100 + (k : Int) := by
   rw [show ((k : Int) - ((spT 8).t - ((8 : Nat) : Int))).toNat = k by show ((k : Int) - ((8 : Int) - 8)).toNat = k; omega]
   exact spT_x (by omega)
  rw [e4]
  by_cases e : 100 + (k : Int) = h
  ·rw [if_neg (fun g => g.2.2 e), decide_eq_false (fun g => g.2.2 e)]
   rfl
  ·rw [if_pos ⟨c.2, by show (8 : Int) - 8 ≤ (k : Int); omega, e⟩, decide_eq_true ⟨c.1, c.2, e⟩]
 ·rw [if_neg (fun g => c ⟨by have : (8 : Int) - 8 ≤ d := g.2.1; omega, g.1⟩), decide_eq_false (fun g => c ⟨g.1, g.2.1⟩)]
  rfl
theorem spT_ll {u : Pv} {w : World} {B t : Nat} (h : PvD w B u) (e : u.ab = spT t) : u.ln = 0 := by
 have h1 : abI u.ll = [] := congrArg Pm.l e
 have h2 := congrArg List.length h1
 rw [abI_len, h.l.q.len] at h2
 exact h2
end Go.Proofs.Ytdpblimhfmfbnaa
namespace Go.Proofs.Ytdpblimhfmfbnaa
open Go.ChangeShapes Go.WideShapes Go.ChangeAt Go.RowKit Go.Deep
theorem fates_of {H : Type} {enc : TypeId × Value → H} {w : World} {base : Nat} {spare : Nat → Bool} {held : Bool} {fuel : Nat} {x : DataW H × List MemPlace} {c : Value}
  (hf : DataW.trod enc Try.prog w base spare held fuel 37 [c] = some x) : ∃ la ln lc, c = .slice la ln lc := by
 rcases open_slice Try.underlying37 hf with ⟨hcs, _⟩ | ⟨a', l, c', m, n, D, Pl, hcs, _⟩
 ·exact ⟨none, 0, 0, by simpa using hcs⟩
 ·simp at hcs
  exact ⟨_, _, _, hcs⟩
def Asks28w (w : World) (v : Value) : Prop := ∃ (n d : Int) (la : Option Addr) (ln lc : Nat), v = .agg #[.int .i64 n, .int .i64 d, .slice la ln lc] ∧ I64' n ∧ I64' d
theorem asks28w_of {H : Type} {enc : TypeId × Value → H} {w : World} {base : Nat} {spare : Nat → Bool} {held : Bool} {fuel : Nat} {x : DataW H × List MemPlace} {cs : Array Value} (hcs : cs.size = Try.prog.cellsOf 39)
  (hf : DataW.trod enc Try.prog w base spare held fuel 39 cs.toList = some x) : Asks28w w (.agg cs) := by
 have hC : Try.prog.cellsOf 39 = 3 := by kernel_rfl
 have h1 : Try.prog.cellsOf 3 = 1 := by kernel_rfl
 have h2 : Try.prog.cellsOf 37 = 1 := by kernel_rfl
 rw [hC] at hcs
 obtain ⟨l⟩ := cs
 match l, hcs with
 | [c0, c1, c2], _ =>
  obtain ⟨ys, n', _, _, _, hyl, hg⟩ := DataW.trod_struct Try.underlying39 hf
  match ys, hyl with
  | [y0, y1, y2], _ =>
   have g0 := hg 0 _ rfl
   have g1 := hg 1 _ rfl
   have g2 := hg 2 _ rfl
   simp [h1, h2] at g0 g1 g2
   obtain ⟨n, rfl, hn⟩ := op_int g0
   obtain ⟨d, rfl, hd⟩ := op_int g1
   obtain ⟨la, ln, lc, rfl⟩ := fates_of g2
   exact ⟨n, d, la, ln, lc, rfl, hn, hd⟩
end Go.Proofs.Ytdpblimhfmfbnaa
namespace Go.Proofs.Ytdpblimhfmfbnaa
open Go.ChangeShapes Go.WideShapes Go.ChangeAt Go.RowKit Go.Deep
def RnO (w : World) (p : Pv) (k : Int) (e : Ending) (z : World) : Prop := ∃ q : Pv, e = .returned (.tuple #[.agg (jjP q), .int .i64 0]) ∧ PvO z w.heap.size q ∧ q.ab = runM p.ab k ∧ PvS q ∧ Below w.heap.size w z
set_option maxRecDepth 100000 in
set_option maxHeartbeats 3200000 in
theorem pran_yes (p : Pv) (k : Int) (w : World) (h : PvD w w.heap.size p) (hs : PvS p) (hk : OkP p.ab) (E : p.t < 1099511627776 ∧ p.t ≤ minL p.hl) :
  Calls Try.prog 19 #[.agg (jjP p), .int .u64 k] w (RnO w p k) := by
 obtain ⟨ii, hii, hiz0, hiz1, hiz2⟩ := info_parts info_u
 have HX16 : Hk (p.xn ≤ 16) := ⟨by have h1 := hk.x1; have h2 := h.x.len; have h3 : p.ab.x.length = p.xl.length := rfl; omega⟩
 have HT0 : Hk (0 ≤ p.t) := ⟨hk.c.t1⟩
 have HNP := Hk.mk E
 have HOK := Hk.mk hk
 have HN0 : Hk (0 < p.hn) := ⟨by have h1 := hk.k.h1; have h2 := hk.c.n1; have h3 := h.h.len; have h4 : p.ab.h.length = p.hl.length := rfl; omega⟩
 clear E hk
 have HBW : Hk (Below w.heap.size w ((w.alloc (.cells (jjP p) 28)).alloc (.cells jjZ 28))) := ⟨((Below.refl _ _).alloc (Nat.le_refl _) _).alloc (by simp) _⟩
 have HPB : Hk (Bx ((w.alloc (.cells (jjP p) 28)).alloc (.cells jjZ 28)) w.heap.size p) := ⟨(Bx.new w p).al _⟩
 have e1 : (w.alloc (.cells (jjP p) 28)).heap.size = w.heap.size + 1 := by simp
 have HRB : Hk (Bx ((w.alloc (.cells (jjP p) 28)).alloc (.cells jjZ 28)) (w.heap.size + 1) nilV) := ⟨by rw [← e1]; exact Bx.new (w.alloc (.cells (jjP p) 28)) nilV⟩
 have HDP : Hk (∀ X, Below w.heap.size w X → PvD X X.heap.size p) := ⟨fun X hX => h.later hX⟩
 have HS := Hk.mk hs
 clear e1 h hs
 go_enter Try.func19, Try.ntmps19
 go_upto_region 1 with fail
 generalize ((w.alloc (.cells (jjP p) 28)).alloc (.cells jjZ 28)) = V at *
 have y0 := HPB.out.bk.c 0; have y1 := HPB.out.bk.c 1; have y2 := HPB.out.bk.c 2; have y3 := HPB.out.bk.c 3; have y4 := HPB.out.bk.c 4; have y5 := HPB.out.bk.c 5; have y6 := HPB.out.bk.c 6; have y7 := HPB.out.bk.c 7; have y8 := HPB.out.bk.c 8; have y9 := HPB.out.bk.c 9; have y10 := HPB.out.bk.c 10; have yl := HPB.out.lt; simp at y0 y1 y2 y3 y4 y5 y6 y7 y8 y9 y10
 go_upto_region 6 with (first | (go_at_call 25; (with_reducible refine (pcheck_as true 0 p _ (HDP.out _ HBW.out) HS.out ⟨⟨fun _ => rfl, fun _ => HOK.out⟩⟩ ⟨rfl⟩).mono ?_); rintro e z1 ⟨rfl, hb⟩; have HP9 := Hk.mk (HPB.out.below hb); have HR9 := Hk.mk (HRB.out.below hb); have HB9 := Hk.mk (HBW.out.trans (hb.mono HBW.out.size)); clear hb HPB HRB HBW; clear y0 y1 y2 y3 y4 y5 y6 y7 y8 y9 y10 yl; have HPB := HP9; have HRB := HR9; have HBW := HB9; clear HP9 HR9 HB9; have y0 := HPB.out.bk.c 0; have y1 := HPB.out.bk.c 1; have y2 := HPB.out.bk.c 2; have y3 := HPB.out.bk.c 3; have y4 := HPB.out.bk.c 4; have y5 := HPB.out.bk.c 5; have y6 := HPB.out.bk.c 6; have y7 := HPB.out.bk.c 7; have y8 := HPB.out.bk.c 8; have y9 := HPB.out.bk.c 9; have y10 := HPB.out.bk.c 10; have yl := HPB.out.lt; simp at y0 y1 y2 y3 y4 y5 y6 y7 y8 y9 y10) | (go_at_call 34; (with_reducible refine (ready_as true p _ (HDP.out _ HBW.out) HS.out HN0.out ⟨⟨fun _ => rfl, fun _ => HNP.out⟩⟩).mono ?_); rintro e z2 ⟨rfl, hb⟩; have HP9 := Hk.mk (HPB.out.below hb); have HR9 := Hk.mk (HRB.out.below hb); have HB9 := Hk.mk (HBW.out.trans (hb.mono HBW.out.size)); clear hb HPB HRB HBW; clear y0 y1 y2 y3 y4 y5 y6 y7 y8 y9 y10 yl; have HPB := HP9; have HRB := HR9; have HBW := HB9; clear HP9 HR9 HB9; have y0 := HPB.out.bk.c 0; have y1 := HPB.out.bk.c 1; have y2 := HPB.out.bk.c 2; have y3 := HPB.out.bk.c 3; have y4 := HPB.out.bk.c 4; have y5 := HPB.out.bk.c 5; have y6 := HPB.out.bk.c 6; have y7 := HPB.out.bk.c 7; have y8 := HPB.out.bk.c 8; have y9 := HPB.out.bk.c 9; have y10 := HPB.out.bk.c 10; have yl := HPB.out.lt; simp at y0 y1 y2 y3 y4 y5 y6 y7 y8 y9 y10))
 go_upto_region 7 with (go_at_call 27; (with_reducible refine (cpp_any p _ (HDP.out _ HBW.out) HS.out).mono ?_); rintro e z3 ⟨u, rfl, ho, hab, g1, g2, g3, g4, g5, hb⟩; have HO3 := Hk.mk (ho.weak HBW.out.size); have HAU := Hk.mk hab; have HSU := Hk.mk (HS.out.like (HDP.out _ HBW.out) ho.d hab g1 g2 g3 g4 g5); have HP3 := Hk.mk (HPB.out.below hb); have HR3 := Hk.mk (HRB.out.below hb); have HB3 := Hk.mk (HBW.out.trans (hb.mono HBW.out.size)); have HXN : Hk (u.xn = p.xn) := ⟨g5⟩; clear ho hab g1 g2 g3 g4 g5 hb; have HPK := Hk.mk HP3.out.bk; have m0 := HPK.out.c 0; have k0 := HPK.out.f 0; have m1 := HPK.out.c 1; have k1 := HPK.out.f 1; have m2 := HPK.out.c 2; have k2 := HPK.out.f 2; have m3 := HPK.out.c 3; have k3 := HPK.out.f 3; have m4 := HPK.out.c 4; have k4 := HPK.out.f 4; have m5 := HPK.out.c 5; have k5 := HPK.out.f 5; have m6 := HPK.out.c 6; have k6 := HPK.out.f 6; have m7 := HPK.out.c 7; have k7 := HPK.out.f 7; have m8 := HPK.out.c 8; have k8 := HPK.out.f 8; have m9 := HPK.out.c 9; have k9 := HPK.out.f 9; have m10 := HPK.out.c 10; have k10 := HPK.out.f 10; simp at m0 m1 m2 m3 m4 m5 m6 m7 m8 m9 m10)
 clear m0 m1 m2 m3 m4 m5 m6 m7 m8 m9 m10 k0 k1 k2 k3 k4 k5 k6 k7 k8 k9 k10
 have HP4 : Hk (Bx ((((((((((((World.setCell z3 ⟨w.heap.size, 0, none⟩ (.int .i64 u.i)).setCell ⟨w.heap.size, 1, none⟩ (.int .i64 u.n)).setCell ⟨w.heap.size, 2, none⟩ (.int .i64 u.d)).setCell ⟨w.heap.size, 3, none⟩ (.int .i64 u.t)).setCell ⟨w.heap.size, 4, none⟩ (.int .i64 u.s)).setCell ⟨w.heap.size, 5, none⟩ (.slice u.ma u.mn u.mc)).setCell ⟨w.heap.size, 6, none⟩ (.slice u.la u.ln u.lc)).setCell ⟨w.heap.size, 7, none⟩ (.slice u.ha u.hn u.hc)).setCell ⟨w.heap.size, 8, none⟩ (.slice u.aa u.an u.ac)).setCell ⟨w.heap.size, 9, none⟩ (.slice u.xa u.xn u.xc)).setCell ⟨w.heap.size, 10, none⟩ (.bool u.b))) w.heap.size u) := ⟨HP3.out.put u⟩
 have HR4 : Hk (Bx ((((((((((((World.setCell z3 ⟨w.heap.size, 0, none⟩ (.int .i64 u.i)).setCell ⟨w.heap.size, 1, none⟩ (.int .i64 u.n)).setCell ⟨w.heap.size, 2, none⟩ (.int .i64 u.d)).setCell ⟨w.heap.size, 3, none⟩ (.int .i64 u.t)).setCell ⟨w.heap.size, 4, none⟩ (.int .i64 u.s)).setCell ⟨w.heap.size, 5, none⟩ (.slice u.ma u.mn u.mc)).setCell ⟨w.heap.size, 6, none⟩ (.slice u.la u.ln u.lc)).setCell ⟨w.heap.size, 7, none⟩ (.slice u.ha u.hn u.hc)).setCell ⟨w.heap.size, 8, none⟩ (.slice u.aa u.an u.ac)).setCell ⟨w.heap.size, 9, none⟩ (.slice u.xa u.xn u.xc)).setCell ⟨w.heap.size, 10, none⟩ (.bool u.b))) (w.heap.size + 1) nilV) := ⟨HR3.out.fr (fr_put u) (by omega)⟩
 have HK4 := Hk.mk (Kt.put HP3.out (Nat.le_refl _) u)
 have HO4 : Hk (PvO ((((((((((((World.setCell z3 ⟨w.heap.size, 0, none⟩ (.int .i64 u.i)).setCell ⟨w.heap.size, 1, none⟩ (.int .i64 u.n)).setCell ⟨w.heap.size, 2, none⟩ (.int .i64 u.d)).setCell ⟨w.heap.size, 3, none⟩ (.int .i64 u.t)).setCell ⟨w.heap.size, 4, none⟩ (.int .i64 u.s)).setCell ⟨w.heap.size, 5, none⟩ (.slice u.ma u.mn u.mc)).setCell ⟨w.heap.size, 6, none⟩ (.slice u.la u.ln u.lc)).setCell ⟨w.heap.size, 7, none⟩ (.slice u.ha u.hn u.hc)).setCell ⟨w.heap.size, 8, none⟩ (.slice u.aa u.an u.ac)).setCell ⟨w.heap.size, 9, none⟩ (.slice u.xa u.xn u.xc)).setCell ⟨w.heap.size, 10, none⟩ (.bool u.b))) w.heap.size u) := ⟨HK4.out.pvo HO3.out⟩
 have HB4 : Hk (Below w.heap.size w ((((((((((((World.setCell z3 ⟨w.heap.size, 0, none⟩ (.int .i64 u.i)).setCell ⟨w.heap.size, 1, none⟩ (.int .i64 u.n)).setCell ⟨w.heap.size, 2, none⟩ (.int .i64 u.d)).setCell ⟨w.heap.size, 3, none⟩ (.int .i64 u.t)).setCell ⟨w.heap.size, 4, none⟩ (.int .i64 u.s)).setCell ⟨w.heap.size, 5, none⟩ (.slice u.ma u.mn u.mc)).setCell ⟨w.heap.size, 6, none⟩ (.slice u.la u.ln u.lc)).setCell ⟨w.heap.size, 7, none⟩ (.slice u.ha u.hn u.hc)).setCell ⟨w.heap.size, 8, none⟩ (.slice u.aa u.an u.ac)).setCell ⟨w.heap.size, 9, none⟩ (.slice u.xa u.xn u.xc)).setCell ⟨w.heap.size, 10, none⟩ (.bool u.b)))) := ⟨HB3.out.trans HK4.out.bl⟩
 have HL4 : Hk (w.heap.size ≤ (((((((((((((World.setCell z3 ⟨w.heap.size, 0, none⟩ (.int .i64 u.i)).setCell ⟨w.heap.size, 1, none⟩ (.int .i64 u.n)).setCell ⟨w.heap.size, 2, none⟩ (.int .i64 u.d)).setCell ⟨w.heap.size, 3, none⟩ (.int .i64 u.t)).setCell ⟨w.heap.size, 4, none⟩ (.int .i64 u.s)).setCell ⟨w.heap.size, 5, none⟩ (.slice u.ma u.mn u.mc)).setCell ⟨w.heap.size, 6, none⟩ (.slice u.la u.ln u.lc)).setCell ⟨w.heap.size, 7, none⟩ (.slice u.ha u.hn u.hc)).setCell ⟨w.heap.size, 8, none⟩ (.slice u.aa u.an u.ac)).setCell ⟨w.heap.size, 9, none⟩ (.slice u.xa u.xn u.xc)).setCell ⟨w.heap.size, 10, none⟩ (.bool u.b)))).heap.size) := ⟨HB4.out.size⟩
 have HORD : Hk (Hk (ordN none (abI u.ll) = true)) := ⟨⟨by have h1 := HOK.out.w.o; rw [← HAU.out] at h1; exact h1⟩⟩
 clear HPK HO3 HP3 HR3 HK4 HB3 HPB HRB HBW
 clear y0 y1 y2 y3 y4 y5 y6 y7 y8 y9 y10 yl
 generalize ((((((((((((World.setCell z3 ⟨w.heap.size, 0, none⟩ (.int .i64 u.i)).setCell ⟨w.heap.size, 1, none⟩ (.int .i64 u.n)).setCell ⟨w.heap.size, 2, none⟩ (.int .i64 u.d)).setCell ⟨w.heap.size, 3, none⟩ (.int .i64 u.t)).setCell ⟨w.heap.size, 4, none⟩ (.int .i64 u.s)).setCell ⟨w.heap.size, 5, none⟩ (.slice u.ma u.mn u.mc)).setCell ⟨w.heap.size, 6, none⟩ (.slice u.la u.ln u.lc)).setCell ⟨w.heap.size, 7, none⟩ (.slice u.ha u.hn u.hc)).setCell ⟨w.heap.size, 8, none⟩ (.slice u.aa u.an u.ac)).setCell ⟨w.heap.size, 9, none⟩ (.slice u.xa u.xn u.xc)).setCell ⟨w.heap.size, 10, none⟩ (.bool u.b))) = V4 at *
 have d0 := HP4.out.bk.c 0; have d1 := HP4.out.bk.c 1; have d2 := HP4.out.bk.c 2; have d3 := HP4.out.bk.c 3; have d4 := HP4.out.bk.c 4; have d5 := HP4.out.bk.c 5; have d6 := HP4.out.bk.c 6; have d7 := HP4.out.bk.c 7; have d8 := HP4.out.bk.c 8; have d9 := HP4.out.bk.c 9; have d10 := HP4.out.bk.c 10; have dl := HP4.out.lt; have g3 := HP4.out.bk.f 3; have g6 := HP4.out.bk.f 6; have g9 := HP4.out.bk.f 9; simp at d0 d1 d2 d3 d4 d5 d6 d7 d8 d9 d10
 have HRP : Hk (¬ (w.heap.size + 1) = w.heap.size) := ⟨by omega⟩
 go_upto_region 8 with (go_at_call 35; (with_reducible refine (take_yes u.t u.la u.ln u.lc u.ll _ HO4.out.d.l HSU.out.l HORD.out).mono ?_); rintro e z4 ⟨s1, n1, e1, s2, n2, e2, M1, M2, rfl, htk, ha1, ha2, hb⟩; have HMB := Hk.mk (htk.b.weak HL4.out); have HA2 := Hk.mk ha2; have HQ4 := Hk.mk (HP4.out.below hb); have HR4b := Hk.mk (HR4.out.below hb); have HO4b := Hk.mk (HO4.out.below hb); have HB4b := Hk.mk (HB4.out.trans (hb.mono HB4.out.size)); have HSM := Hk.mk (smI_of htk.b.d HO4.out.d.l HSU.out.l (fun x hx => by rw [ha2] at hx; exact (List.mem_filter.1 hx).1) (by have h1 := congrArg List.length ha2; have h2 := List.length_filter_le (fun x : In => !(x.t == u.t)) (abI u.ll); rw [abI_len] at h1; rw [abI_len] at h2; omega)); clear htk ha1 ha2 hb; clear d0 d1 d2 d3 d4 d5 d6 d7 d8 d9 d10 dl g3 g6 g9; have d0 := HQ4.out.bk.c 0; have d1 := HQ4.out.bk.c 1; have d2 := HQ4.out.bk.c 2; have d3 := HQ4.out.bk.c 3; have d4 := HQ4.out.bk.c 4; have d5 := HQ4.out.bk.c 5; have d6 := HQ4.out.bk.c 6; have d7 := HQ4.out.bk.c 7; have d8 := HQ4.out.bk.c 8; have d9 := HQ4.out.bk.c 9; have d10 := HQ4.out.bk.c 10; have dl := HQ4.out.lt; have g3 := HQ4.out.bk.f 3; have g6 := HQ4.out.bk.f 6; have g9 := HQ4.out.bk.f 9; simp at d0 d1 d2 d3 d4 d5 d6 d7 d8 d9 d10)
 have HA3 : Hk (abI M2 = (abI p.ll).filter (fun x => !(x.t == p.t))) := ⟨by obtain ⟨-, -, -, b4, -, -, b7, -⟩ := (ab_iff u p).1 HAU.out; rw [← b4, ← b7]; exact HA2.out⟩
 obtain ⟨u5, hu5⟩ : ∃ x : Pv, x = { u with la := s2, ln := n2, lc := e2, ll := M2 } := ⟨_, rfl⟩
 have HQ5 : Hk (Bx (z4.setCell ⟨w.heap.size, 6, none⟩ (.slice s2 n2 e2)) w.heap.size u5) := ⟨by rw [hu5]; exact HQ4.out.set 6 _ _ rfl⟩
 have HR5 : Hk (Bx (z4.setCell ⟨w.heap.size, 6, none⟩ (.slice s2 n2 e2)) (w.heap.size + 1) nilV) := ⟨HR4b.out.oth HRP.out _ _⟩
 have HK5 := Hk.mk (Kt.set (Nat.le_refl _) HQ4.out.bl 6 (.slice s2 n2 e2))
 have HO5 : Hk (PvO (z4.setCell ⟨w.heap.size, 6, none⟩ (.slice s2 n2 e2)) w.heap.size u5) := ⟨by rw [hu5]; exact HK5.out.pvo (HO4b.out.setl HMB.out)⟩
 have HB5 := Hk.mk (HB4b.out.trans (HK5.out.bl.mono (Nat.le_refl _)))
 have HL5 : Hk (w.heap.size ≤ (z4.setCell ⟨w.heap.size, 6, none⟩ (.slice s2 n2 e2)).heap.size) := ⟨Nat.le_trans (Nat.le_refl _) (Nat.le_of_lt HQ5.out.lt)⟩
 have HU5 := Hk.mk hu5
 clear hu5 HQ4 HR4 HR4b HO4 HO4b HMB HK5 HB4 HB4b HP4 HL4
 clear d0 d1 d2 d3 d4 d5 d6 d7 d8 d9 d10 dl g3 g6 g9
 generalize (z4.setCell ⟨w.heap.size, 6, none⟩ (.slice s2 n2 e2)) = V5 at *
 have HT5 : Hk (u5.t = p.t) := ⟨by rw [HU5.out]; obtain ⟨-, -, -, b4, -⟩ := (ab_iff u p).1 HAU.out; exact b4⟩
 have gt : IntKind.i64.wrap (u5.t + 1) = u5.t + 1 := wr27 (by have := HT5.out; have := HT0.out; omega) (by have := HT5.out; have := HNP.out.1; omega)
 have d0 := HQ5.out.bk.c 0; have d1 := HQ5.out.bk.c 1; have d2 := HQ5.out.bk.c 2; have d3 := HQ5.out.bk.c 3; have d4 := HQ5.out.bk.c 4; have d5 := HQ5.out.bk.c 5; have d6 := HQ5.out.bk.c 6; have d7 := HQ5.out.bk.c 7; have d8 := HQ5.out.bk.c 8; have d9 := HQ5.out.bk.c 9; have d10 := HQ5.out.bk.c 10; have dl := HQ5.out.lt; have g3 := HQ5.out.bk.f 3; have g6 := HQ5.out.bk.f 6; have g9 := HQ5.out.bk.f 9; simp at d0 d1 d2 d3 d4 d5 d6 d7 d8 d9 d10
 go_upto_region 9 with fail
 obtain ⟨u4, hu4⟩ : ∃ x : Pv, x = { u5 with t := u5.t + 1 } := ⟨_, rfl⟩
 have HQ6 : Hk (Bx (V5.setCell ⟨w.heap.size, 3, none⟩ (.int .i64 (u5.t + 1))) w.heap.size u4) := ⟨by rw [hu4]; exact HQ5.out.set 3 _ _ rfl⟩
 have HR6 : Hk (Bx (V5.setCell ⟨w.heap.size, 3, none⟩ (.int .i64 (u5.t + 1))) (w.heap.size + 1) nilV) := ⟨HR5.out.oth HRP.out _ _⟩
 have HK6 := Hk.mk (Kt.set (Nat.le_refl _) HQ5.out.bl 3 (.int .i64 (u5.t + 1)))
 have HO6 : Hk (PvO (V5.setCell ⟨w.heap.size, 3, none⟩ (.int .i64 (u5.t + 1))) w.heap.size u4) := ⟨by rw [hu4]; exact HK6.out.pvo (HO5.out.sett _)⟩
 have HB6 := Hk.mk (HB5.out.trans (HK6.out.bl.mono (Nat.le_refl _)))
 have HL6 : Hk (w.heap.size ≤ (V5.setCell ⟨w.heap.size, 3, none⟩ (.int .i64 (u5.t + 1))).heap.size) := ⟨Nat.le_trans HL5.out HK6.out.bl.size⟩
 have HU4 := Hk.mk hu4
 have hx4 : u4.xn ≤ 16 := by have h1 := HX16.out; have h2 := HXN.out; rw [hu4, HU5.out]; show u.xn ≤ 16; omega
 clear hu4 HQ5 HR5 HO5 HK6 HB5 HL5 gt
 clear d0 d1 d2 d3 d4 d5 d6 d7 d8 d9 d10 dl g3 g6 g9
 generalize (V5.setCell ⟨w.heap.size, 3, none⟩ (.int .i64 (u5.t + 1))) = V6 at *
 have HXA : Hk (World.ownsRow (V6.alloc (.cells #[.int .u64 k] 56)) w.heap.size 56 1 (.slice u4.xa u4.xn u4.xc) u4.xn (flt shU u4.xl)) := ⟨(HO6.out.x.alloc _).row⟩
 have HBL : Hk (w.heap.size ≤ (V6.alloc (.cells #[.int .u64 k] 56)).heap.size) := ⟨Nat.le_trans HL6.out (by simp)⟩
 have d0 := HQ6.out.bk.c 0; have d1 := HQ6.out.bk.c 1; have d2 := HQ6.out.bk.c 2; have d3 := HQ6.out.bk.c 3; have d4 := HQ6.out.bk.c 4; have d5 := HQ6.out.bk.c 5; have d6 := HQ6.out.bk.c 6; have d7 := HQ6.out.bk.c 7; have d8 := HQ6.out.bk.c 8; have d9 := HQ6.out.bk.c 9; have d10 := HQ6.out.bk.c 10; have dl := HQ6.out.lt; have g3 := HQ6.out.bk.f 3; have g6 := HQ6.out.bk.f 6; have g9 := HQ6.out.bk.f 9; simp at d0 d1 d2 d3 d4 d5 d6 d7 d8 d9 d10
 go_upto_region 10 with (at_builtin; go_must (refine wpList_append_own_at _ rfl _ _ 26 rfl w.heap.size 56 ii (.int .u64 0) 1 8 Try.underlying26 hii hiz0 hiz1 hiz2 rfl (by decide) _ u4.xn (flt shU u4.xl) rfl HXA.out ⟨V6.heap.size, 0, none⟩ 1 1 [.int .u64 k] rfl rfl (one_new V6 _ _) (oneU_it _) (by unfold maxLen; omega) (by omega) HBL.out ?_); intro v z hown hgrow hnil hat; obtain ⟨g, c9, rfl, hcc, -⟩ := row_slice hown (by omega); have HKU := Hk.mk (Kt.grown HBL.out HXA.out hgrow); have HOX : Hk (Ow shU 56 z w.heap.size (.slice (some ⟨g, 0, none⟩) (u4.xn + 1) c9) (u4.xn + 1) (u4.xl ++ [k])) := ⟨⟨by rw [List.length_append, HO6.out.x.len]; rfl, by rw [flt_app]; exact hown⟩⟩; have HCC := Hk.mk hcc; clear hown hgrow hnil hat hcc; have HQ7 := Hk.mk ((HQ6.out.al (.cells #[.int .u64 k] 56)).kt HKU.out (by decide)); clear d0 d1 d2 d3 d4 d5 d6 d7 d8 d9 d10 dl g3 g6 g9; have d0 := HQ7.out.bk.c 0; have d1 := HQ7.out.bk.c 1; have d2 := HQ7.out.bk.c 2; have d3 := HQ7.out.bk.c 3; have d4 := HQ7.out.bk.c 4; have d5 := HQ7.out.bk.c 5; have d6 := HQ7.out.bk.c 6; have d7 := HQ7.out.bk.c 7; have d8 := HQ7.out.bk.c 8; have d9 := HQ7.out.bk.c 9; have d10 := HQ7.out.bk.c 10; have dl := HQ7.out.lt; have g3 := HQ7.out.bk.f 3; have g6 := HQ7.out.bk.f 6; have g9 := HQ7.out.bk.f 9; simp at d0 d1 d2 d3 d4 d5 d6 d7 d8 d9 d10)
 obtain ⟨u6, hu6⟩ : ∃ x : Pv, x = { u4 with xa := some ⟨g, 0, none⟩, xn := u4.xn + 1, xc := c9, xl := u4.xl ++ [k] } := ⟨_, rfl⟩
 have HQ8 : Hk (Bx (z.setCell ⟨w.heap.size, 9, none⟩ (.slice (some ⟨g, 0, none⟩) (u4.xn + 1) c9)) w.heap.size u6) := ⟨by rw [hu6]; exact HQ7.out.set 9 _ _ rfl⟩
 have HR8 : Hk (Bx (z.setCell ⟨w.heap.size, 9, none⟩ (.slice (some ⟨g, 0, none⟩) (u4.xn + 1) c9)) (w.heap.size + 1) nilV) := ⟨((HR6.out.al (.cells #[.int .u64 k] 56)).kt HKU.out (by decide)).oth HRP.out _ _⟩
 have HK8 := Hk.mk (Kt.set (Nat.le_refl _) HQ7.out.bl 9 (.slice (some ⟨g, 0, none⟩) (u4.xn + 1) c9))
 have HO8 : Hk (PvO (z.setCell ⟨w.heap.size, 9, none⟩ (.slice (some ⟨g, 0, none⟩) (u4.xn + 1) c9)) w.heap.size u6) := ⟨by rw [hu6]; exact HK8.out.pvo (HKU.out.pvu (HO6.out.below (below_al _ _)) HOX.out)⟩
 have HB8 := Hk.mk ((kw_al HB6.out (Nat.le_refl _) (.cells #[.int .u64 k] 56)).trans ((HKU.out.bl.trans HK8.out.bl).mono (Nat.le_refl _)))
 have HU6 := Hk.mk hu6
 have hx6 : u6.xn = u4.xn + 1 := by rw [hu6]
 clear hu6 HQ7 HQ6 HR6 HK8 HO6 HB6 HL6 HXA HBL HKU HOX
 clear d0 d1 d2 d3 d4 d5 d6 d7 d8 d9 d10 dl g3 g6 g9
 generalize (z.setCell ⟨w.heap.size, 9, none⟩ (.slice (some ⟨g, 0, none⟩) (u4.xn + 1) c9)) = V8 at *
 have d0 := HQ8.out.bk.c 0; have d1 := HQ8.out.bk.c 1; have d2 := HQ8.out.bk.c 2; have d3 := HQ8.out.bk.c 3; have d4 := HQ8.out.bk.c 4; have d5 := HQ8.out.bk.c 5; have d6 := HQ8.out.bk.c 6; have d7 := HQ8.out.bk.c 7; have d8 := HQ8.out.bk.c 8; have d9 := HQ8.out.bk.c 9; have d10 := HQ8.out.bk.c 10; have dl := HQ8.out.lt; have g3 := HQ8.out.bk.f 3; have g6 := HQ8.out.bk.f 6; have g9 := HQ8.out.bk.f 9; simp at d0 d1 d2 d3 d4 d5 d6 d7 d8 d9 d10
 have r0 := HR8.out.bk.c 0; have f0 := HR8.out.bk.f 0; have r1 := HR8.out.bk.c 1; have f1 := HR8.out.bk.f 1; have r2 := HR8.out.bk.c 2; have f2 := HR8.out.bk.f 2; have r3 := HR8.out.bk.c 3; have f3 := HR8.out.bk.f 3; have r4 := HR8.out.bk.c 4; have f4 := HR8.out.bk.f 4; have r5 := HR8.out.bk.c 5; have f5 := HR8.out.bk.f 5; have r6 := HR8.out.bk.c 6; have f6 := HR8.out.bk.f 6; have r7 := HR8.out.bk.c 7; have f7 := HR8.out.bk.f 7; have r8 := HR8.out.bk.c 8; have f8 := HR8.out.bk.f 8; have r9 := HR8.out.bk.c 9; have f9 := HR8.out.bk.f 9; have r10 := HR8.out.bk.c 10; have f10 := HR8.out.bk.f 10; have rl := HR8.out.lt; simp at r0 r1 r2 r3 r4 r5 r6 r7 r8 r9 r10
 rw [← hx6]
 rw [← hx6] at HCC
 have HX6 : Hk (u6.xn = u.xn + 1) := ⟨by rw [hx6, HU4.out, HU5.out]⟩
 have HPX : Hk (p.ab.x.length = u.xn) := ⟨by have h1 := (HDP.out w (Below.refl _ _)).x.len; rw [HXN.out]; exact h1⟩
 by_cases hlt : u6.xn ≤ 16
 ·have d16 : decide ((16 : Int) < (u6.xn : Int)) = false := by rw [decide_eq_false_iff_not]; omega
  have HLT := Hk.mk hlt
  have HFB := Hk.mk ((Kt.put (B := w.heap.size) HR8.out (by omega) u6))
  clear hlt hx4 hx6
  go_wp2
  refine bodyPost_ret (v := .tuple #[.agg (jjP u6), .int .i64 0]) (by simp [results, Try.results19, go_sem, r0, r1, r2, r3, r4, r5, r6, r7, r8, r9, r10, f0, f1, f2, f3, f4, f5, f6, f7, f8, f9, f10]) rfl ⟨u6, rfl, HFB.out.pvo HO8.out, ?_, ?_, HB8.out.trans HFB.out.bl⟩
  ·refine run_ab HAU.out (by rw [HU6.out, HU4.out, HU5.out]; rfl) HA3.out ?_
   have h1 := HPX.out
   have h2 := HLT.out
   have h5 := HX6.out
   rw [if_neg (by omega)]
   obtain ⟨-, -, -, -, -, -, -, -, -, b10, -⟩ := (ab_iff u p).1 HAU.out
   show u.xl ++ [k] = p.xl ++ [k]
   rw [b10]
  ·have h2 := HLT.out
   have h3 := HU6.out
   rw [HU4.out, HU5.out] at h3
   rw [h3] at h2 ⊢
   exact ⟨HSU.out.m, HSM.out, HSU.out.h, HSU.out.a, by show u.xn + 1 ≤ 1048576; have : u.xn + 1 ≤ 16 := h2; omega⟩
 ·have d16 : decide ((16 : Int) < (u6.xn : Int)) = true := by rw [decide_eq_true_iff]; omega
  have HLT : Hk (u6.xn = 17) := ⟨by omega⟩
  have hxa : u6.xa = some ⟨g, 0, none⟩ := by rw [HU6.out]
  have hxc : u6.xc = c9 := by rw [HU6.out]
  rw [hxa, hxc] at d9
  have HOX8 : Hk (Ow shU 56 V8 w.heap.size (.slice (some ⟨g, 0, none⟩) u6.xn c9) u6.xn u6.xl) := ⟨by rw [← hxa, ← hxc]; exact HO8.out.x⟩
  clear hlt hx4 hx6
  clear r0 r1 r2 r3 r4 r5 r6 r7 r8 r9 r10 f0 f1 f2 f3 f4 f5 f6 f7 f8 f9 f10 rl
  go_upto_region 12 with (go_at_call 39; (with_reducible refine (delU_first w.heap.size g u6.xn c9 u6.xl _ HOX8.out (by have := HLT.out; omega) (by have := HLT.out; omega)).mono ?_); rintro e z7 ⟨rfl, hox, hb, hfr⟩; have HKG := Hk.mk (Kt.frow HOX8.out hfr); have HOXG := Hk.mk hox; have HQ7 := Hk.mk (HQ8.out.kt HKG.out (by decide)); clear hox hb hfr; clear d0 d1 d2 d3 d4 d5 d6 d7 d8 d9 d10 dl g3 g6 g9; have d0 := HQ7.out.bk.c 0; have d1 := HQ7.out.bk.c 1; have d2 := HQ7.out.bk.c 2; have d3 := HQ7.out.bk.c 3; have d4 := HQ7.out.bk.c 4; have d5 := HQ7.out.bk.c 5; have d6 := HQ7.out.bk.c 6; have d7 := HQ7.out.bk.c 7; have d8 := HQ7.out.bk.c 8; have d9 := HQ7.out.bk.c 9; have d10 := HQ7.out.bk.c 10; have dl := HQ7.out.lt; have g3 := HQ7.out.bk.f 3; have g6 := HQ7.out.bk.f 6; have g9 := HQ7.out.bk.f 9; simp at d0 d1 d2 d3 d4 d5 d6 d7 d8 d9 d10)
  obtain ⟨u9, hu9⟩ : ∃ x : Pv, x = { u6 with xa := some ⟨g, 0, none⟩, xn := u6.xn - 1, xc := c9, xl := u6.xl.drop 1 } := ⟨_, rfl⟩
  have HQ9 : Hk (Bx (z7.setCell ⟨w.heap.size, 9, none⟩ (.slice (some ⟨g, 0, none⟩) (u6.xn - 1) c9)) w.heap.size u9) := ⟨by rw [hu9]; exact HQ7.out.set 9 _ _ rfl⟩
  have HR9 : Hk (Bx (z7.setCell ⟨w.heap.size, 9, none⟩ (.slice (some ⟨g, 0, none⟩) (u6.xn - 1) c9)) (w.heap.size + 1) nilV) := ⟨(HR8.out.kt HKG.out (by decide)).oth HRP.out _ _⟩
  have HK9 := Hk.mk (Kt.set (Nat.le_refl _) HQ7.out.bl 9 (.slice (some ⟨g, 0, none⟩) (u6.xn - 1) c9))
  have HO9 : Hk (PvO (z7.setCell ⟨w.heap.size, 9, none⟩ (.slice (some ⟨g, 0, none⟩) (u6.xn - 1) c9)) w.heap.size u9) := ⟨by rw [hu9]; exact HK9.out.pvo (HKG.out.pvu HO8.out HOXG.out)⟩
  have HB9 := Hk.mk (HB8.out.trans (HKG.out.bl.trans HK9.out.bl))
  have HU9 := Hk.mk hu9
  clear hu9 HQ8 HQ7 HR8 HK9 HO8 HB8 hxa hxc HKG HOXG HOX8
  clear d0 d1 d2 d3 d4 d5 d6 d7 d8 d9 d10 dl g3 g6 g9
  generalize (z7.setCell ⟨w.heap.size, 9, none⟩ (.slice (some ⟨g, 0, none⟩) (u6.xn - 1) c9)) = V9 at *
  have d0 := HQ9.out.bk.c 0; have d1 := HQ9.out.bk.c 1; have d2 := HQ9.out.bk.c 2; have d3 := HQ9.out.bk.c 3; have d4 := HQ9.out.bk.c 4; have d5 := HQ9.out.bk.c 5; have d6 := HQ9.out.bk.c 6; have d7 := HQ9.out.bk.c 7; have d8 := HQ9.out.bk.c 8; have d9 := HQ9.out.bk.c 9; have d10 := HQ9.out.bk.c 10; have dl := HQ9.out.lt; have g3 := HQ9.out.bk.f 3; have g6 := HQ9.out.bk.f 6; have g9 := HQ9.out.bk.f 9; simp at d0 d1 d2 d3 d4 d5 d6 d7 d8 d9 d10
  have r0 := HR9.out.bk.c 0; have f0 := HR9.out.bk.f 0; have r1 := HR9.out.bk.c 1; have f1 := HR9.out.bk.f 1; have r2 := HR9.out.bk.c 2; have f2 := HR9.out.bk.f 2; have r3 := HR9.out.bk.c 3; have f3 := HR9.out.bk.f 3; have r4 := HR9.out.bk.c 4; have f4 := HR9.out.bk.f 4; have r5 := HR9.out.bk.c 5; have f5 := HR9.out.bk.f 5; have r6 := HR9.out.bk.c 6; have f6 := HR9.out.bk.f 6; have r7 := HR9.out.bk.c 7; have f7 := HR9.out.bk.f 7; have r8 := HR9.out.bk.c 8; have f8 := HR9.out.bk.f 8; have r9 := HR9.out.bk.c 9; have f9 := HR9.out.bk.f 9; have r10 := HR9.out.bk.c 10; have f10 := HR9.out.bk.f 10; have rl := HR9.out.lt; simp at r0 r1 r2 r3 r4 r5 r6 r7 r8 r9 r10
  have HFB := Hk.mk ((Kt.put (B := w.heap.size) HR9.out (by omega) u9))
  go_wp2
  refine bodyPost_ret (v := .tuple #[.agg (jjP u9), .int .i64 0]) (by simp [results, Try.results19, go_sem, r0, r1, r2, r3, r4, r5, r6, r7, r8, r9, r10, f0, f1, f2, f3, f4, f5, f6, f7, f8, f9, f10]) rfl ⟨u9, rfl, HFB.out.pvo HO9.out, ?_, ?_, HB9.out.trans HFB.out.bl⟩
  ·refine run_ab HAU.out (by rw [HU9.out, HU6.out, HU4.out, HU5.out]; rfl) HA3.out ?_
   have h1 := HPX.out
   have h2 := HLT.out
   have h5 := HX6.out
   rw [if_pos (by omega)]
   obtain ⟨-, -, -, -, -, -, -, -, -, b10, -⟩ := (ab_iff u p).1 HAU.out
   show (u.xl ++ [k]).drop 1 = (p.xl ++ [k]).drop 1
   rw [b10]
  ·have h2 := HLT.out
   have h3 := HU6.out
   rw [HU4.out, HU5.out] at h3
   rw [HU9.out]
   rw [h3] at h2 ⊢
   exact ⟨HSU.out.m, HSM.out, HSU.out.h, HSU.out.a, by show u.xn + 1 - 1 ≤ 1048576; have : u.xn + 1 = 17 := h2; omega⟩
end Go.Proofs.Ytdpblimhfmfbnaa
