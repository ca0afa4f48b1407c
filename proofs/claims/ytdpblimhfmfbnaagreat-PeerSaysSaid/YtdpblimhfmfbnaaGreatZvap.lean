import Derived.Deep.QuietTactic
import Derived.BigQuiet
import Derived.Deep.RegionWith
import Derived.Deep.RegionHeld3
import Derived.Deep.DeepCutAuto
import Derived.Deep.DeepFit
import Derived.Outline
import Derived.Test.YtdpblimhfmfbnaaGreatZvak
import Derived.Test.YtdpblimhfmfbnaaGreatZvan
import Derived.Test.YtdpblimhfmfbnaaGreatZvao
import Derived.Test.YtdpblimhfmfbnaaGreatZval
import Derived.Test.YtdpblimhfmfbnaaGreatZvaf
import Derived.Test.YtdpblimhfmfbnaaGreatZvam
set_option linter.unusedVariables false
set_option linter.unusedSimpArgs false
namespace Go.Proofs.YtdpblimhfmfbnaaGreat
open Go.ChangeShapes Go.WideShapes Go.ChangeAt Go.RowKit Go.Deep
structure Tw (w : World) (S : Nat) (v v' : Value) (n m : Nat) (x : Int) : Prop where
 a : w.ownsRow S 3 1 v n ((List.replicate n x).map (Value.int .i64))
 b : w.ownsRow S 3 1 v' m ((List.replicate m x).map (Value.int .i64))
 ap : v.ownBlock = none ∨ v.ownBlock ≠ v'.ownBlock
theorem Tw.nil (w : World) (S : Nat) (x : Int) : Tw w S (.slice none 0 0) (.slice none 0 0) 0 0 x := ⟨⟨rfl, Or.inl ⟨rfl, rfl⟩⟩, ⟨rfl, Or.inl ⟨rfl, rfl⟩⟩, Or.inl rfl⟩
theorem Tw.fr {w w' : World} {S n m : Nat} {v v' : Value} {x : Int} {M : Nat → Prop} (h : Tw w S v v' n m x) (k : Fr M w w') (hM : ∀ j, M j → j < S) : Tw w' S v v' n m x :=
 ⟨k.row h.a (fun j hj hm => by have := (h.a.lt j hj).1; have := hM j hm; omega), k.row h.b (fun j hj hm => by have := (h.b.lt j hj).1; have := hM j hm; omega), h.ap⟩
theorem Tw.o1 {w : World} {S n m : Nat} {v v' : Value} {x : Int} (h : Tw w S v v' n m x) : OwnI w S v n (List.replicate n x) := ⟨by simp, h.a⟩
theorem Tw.o2 {w : World} {S n m : Nat} {v v' : Value} {x : Int} (h : Tw w S v v' n m x) : OwnI w S v' m (List.replicate m x) := ⟨by simp, h.b⟩
theorem Tw.form {w : World} {S n m : Nat} {v v' : Value} {x : Int} (h : Tw w S v v' n m x) : ∃ a c a' c', v = .slice a n c ∧ v' = .slice a' m c' := by
 obtain ⟨a, c, e, _⟩ := h.o1.nq
 obtain ⟨a', c', e', _⟩ := h.o2.nq
 exact ⟨a, c, a', c', e, e'⟩
end Go.Proofs.YtdpblimhfmfbnaaGreat
namespace Go.Proofs.YtdpblimhfmfbnaaGreat
open Go.ChangeShapes Go.WideShapes Go.ChangeAt Go.RowKit Go.Deep
theorem num28_any (x : Int) (w : World) : Calls Tryz.prog 13 #[.int .i64 x] w fun e w' => e = .returned (.int .i64 x) ∧ w' = w := by
 go_enter Tryz.func13, Tryz.ntmps13
 go_wp2
 go_ret
 exact ⟨rfl, rfl⟩
theorem beg_one : OkP (begP 1 1 1) := by
 refine ⟨⟨by decide, by decide, by decide, by decide, by decide, by decide, by decide, by decide, by decide, by decide, by decide⟩, ⟨by decide, by decide, by decide, by decide, ?_⟩, ⟨rfl, fun x hx => by cases hx⟩, ⟨by decide, fun k x hx => by cases hx⟩, by decide, by decide⟩
 intro k hk
 obtain rfl : k = 0 := by
  have : (begP 1 1 1).h.length = 1 := rfl
  omega
 decide
set_option maxRecDepth 100000 in
set_option maxHeartbeats 3200000 in
theorem wakes28_any (w : World) : Calls Tryz.prog 16 #[] w fun e w' => e = .returned (.bool true) ∧ Below w.heap.size w w' := by
 have HM : Hk (MayP 1 1 1) := ⟨by unfold MayP; omega⟩
 go_enter Tryz.func16, Tryz.ntmps16
 go_upto_region 2 with (go_at_call 53; (with_reducible refine (pnew_yes 1 1 1 _ HM.out).mono ?_); rintro e z ⟨q, rfl, ho, hab, hs, hb⟩; have HB0 := Hk.mk hb; have HD := Hk.mk ho.d; have HA := Hk.mk hab; have HS := Hk.mk hs; clear ho hab hs hb)
 have HP : Hk (Bk (z.alloc (.cells (jjP q) 26)) z.heap.size (jjP q)) := ⟨Bk.new z (jjP q) 26⟩
 have HB : Hk (Below w.heap.size w (z.alloc (.cells (jjP q) 26))) := ⟨HB0.out.alloc HB0.out.size _⟩
 have HDV : Hk (PvD (z.alloc (.cells (jjP q) 26)) (z.alloc (.cells (jjP q) 26)).heap.size q) := ⟨HD.out.later ((Below.refl _ _).alloc (Nat.le_refl _) _)⟩
 obtain ⟨PQ, hpq⟩ : ∃ PQ, z.heap.size = PQ := ⟨_, rfl⟩
 rw [hpq] at HP ⊢
 clear HB0 HD HM hpq
 generalize (z.alloc (.cells (jjP q) 26)) = V at *
 have c0 := HP.out.c 0; have c1 := HP.out.c 1; have c2 := HP.out.c 2; have c3 := HP.out.c 3; have c4 := HP.out.c 4; have c5 := HP.out.c 5; have c6 := HP.out.c 6; have c7 := HP.out.c 7; have c8 := HP.out.c 8; have c9 := HP.out.c 9; have c10 := HP.out.c 10
 have cl := HP.out.lt
 simp at c0 c1 c2 c3 c4 c5 c6 c7 c8 c9 c10
 have HK : Hk (OkP q.ab) := ⟨by rw [HA.out]; exact beg_one⟩
 have HR : Hk (q.t < 1099511627776 ∧ q.t ≤ minL q.hl) := ⟨by
  have e1 : q.t = 0 := congrArg Pm.t HA.out
  have e2 : q.hl = [0] := congrArg Pm.h HA.out
  rw [e1, e2]
  decide⟩
 have HE : Hk (abI q.ll = []) := ⟨congrArg Pm.l HA.out⟩
 clear HA z
 go_wp2_with (first
  | (go_at_call 47; (with_reducible refine (pready_yes q _ HDV.out HS.out HK.out HR.out).mono ?_); rintro e z ⟨a2, c2, M, rfl, ho, hab, hb⟩; have hm0 : M = [] := (by rw [HE.out] at hab; exact List.map_eq_nil_iff.1 hab); subst hm0; have HB2 := Hk.mk (HB.out.trans (hb.mono HB.out.size)); clear ho hab hb)
  | (go_at_call 13; (with_reducible refine (num28_any _ _).mono ?_); rintro e z2 ⟨rfl, hz⟩; rw [hz]; clear hz z2))
 go_ret
 exact ⟨rfl, HB2.out⟩
end Go.Proofs.YtdpblimhfmfbnaaGreat
namespace Go.Proofs.YtdpblimhfmfbnaaGreat
open Go.ChangeShapes Go.WideShapes Go.ChangeAt Go.RowKit Go.Deep
theorem nil_o (w : World) (B : Nat) : PvO w B nilV := ⟨OwN.nil _ _, OwN.nil _ _, ⟨rfl, rfl, Or.inl ⟨rfl, rfl⟩⟩, ⟨rfl, rfl, Or.inl ⟨rfl, rfl⟩⟩, Ow.nil _ _⟩
theorem nil_d (w : World) : PvD w w.heap.size nilV := (nil_o w 0).d
theorem nil_s : PvS nilV := ⟨SmI.nil, SmI.nil, Nat.zero_le _, Nat.zero_le _, Nat.zero_le _⟩
end Go.Proofs.YtdpblimhfmfbnaaGreat
namespace Go.Proofs.YtdpblimhfmfbnaaGreat
open Go.ChangeShapes Go.WideShapes Go.ChangeAt Go.RowKit Go.Deep
structure Nm where
 f : Int
 t : Int
 q : In
 d : Int
 h : Int
 v : Int
def Nv.ab (e : Nv) : Nm := ⟨e.f, e.t, e.q.ab, e.d, e.h, e.v⟩
def abN (l : List Nv) : List Nm := l.map Nv.ab
def shN : Sh Nv := ⟨Nv.cs, 8, fun _ => rfl, fun x u hu => by
 simp [Nv.cs] at hu
 rcases hu with rfl | rfl | rfl | rfl | rfl | rfl | rfl | rfl <;> rfl⟩
structure NsD (w : World) (B : Nat) (a : Option Addr) (n : Nat) (l : List Nv) : Prop where
 q : Qv shN w B a n l
 u : ∀ x, x ∈ l → CmD w B x.q.a x.q.n x.q.l
theorem NsD.later {w w' : World} {a : Option Addr} {n : Nat} {l : List Nv} (h : NsD w w.heap.size a n l) (hb : Below w.heap.size w w') : NsD w' w'.heap.size a n l := ⟨(h.q.below hb (Nat.le_refl _)).mono hb.size, fun x hx => (h.u x hx).later hb⟩
theorem NsD.nil (w : World) (B : Nat) (a : Option Addr) : NsD w B a 0 [] := ⟨Qv.nil _ _ _, fun _ h => by cases h⟩
theorem NsD.eight {w : World} {B : Nat} {a : Option Addr} {n : Nat} {l : List Nv} (h : NsD w B a n l) {k : Nat} (hk : k < n) {q : Nv} (hq : l.getD k default = q) : CmD w B q.q.a q.q.n q.q.l ∧ q ∈ l ∧ ∃ b off, a = some ⟨b, off, none⟩ ∧ b < B ∧ ∀ j, j < 8 → w.cell? ⟨b, off + k * 8 + j, none⟩ = q.cs[j]? := by
 obtain ⟨b, off, e, hlt, hc⟩ := h.q.rd (by omega)
 have hk' : k < l.length := by rw [h.q.len]; exact hk
 have hg : l.getD k default = l[k] := by simp [List.getD, hk']
 rw [hg] at hq
 subst hq
 exact ⟨h.u _ (List.getElem_mem hk'), List.getElem_mem hk', b, off, e, hlt, fun j hj => hc k hk' j hj⟩
end Go.Proofs.YtdpblimhfmfbnaaGreat
namespace Go.Proofs.YtdpblimhfmfbnaaGreat
open Go.ChangeShapes Go.WideShapes Go.ChangeAt Go.RowKit Go.Deep
structure OwNt (w : World) (B : Nat) (v : Value) (n : Nat) (l : List Nv) : Prop where
 o : Ow shN 43 w B v n l
 u : ∀ x, x ∈ l → OwCE w B x.q.a x.q.n x.q.c x.q.l
section
variable {w z : World} {B B' n : Nat} {v : Value} {l : List Nv}
theorem OwNt.below (h : OwNt w B v n l) (hb : Below w.heap.size w z) : OwNt z B v n l := ⟨h.o.below hb, fun x hx => (h.u x hx).below hb⟩
theorem OwNt.weak (h : OwNt w B v n l) (hb : B' ≤ B) : OwNt w B' v n l := ⟨h.o.weak hb, fun x hx => (h.u x hx).weak hb⟩
theorem OwNt.nil (w : World) (B : Nat) : OwNt w B (.slice none 0 0) 0 [] := ⟨Ow.nil _ _, fun _ h => by cases h⟩
end
theorem OwNt.d {w : World} {B n c : Nat} {a : Option Addr} {l : List Nv} (h : OwNt w B (.slice a n c) n l) : NsD w w.heap.size a n l := ⟨h.o.qv, fun x hx => (h.u x hx).d⟩
def ShT (w : World) (B : Nat) (a : Option Addr) (n c : Nat) : Prop := n ≤ 1048576 ∧ ∃ l, Ow shN 43 w B (.slice a n c) n l ∧ ∀ x, x ∈ l → ShC w B x.q.a x.q.n x.q.c
theorem Kt.shn {T0 : TypeId} {B n c : Nat} {w z : World} {a : Option Addr} (h : Kt T0 B w z) (o : ShN w B a n c) (ne : (3 : TypeId) ≠ T0) : ShN z B a n c := ⟨o.1, by
 obtain ⟨u, hu⟩ := o.2
 exact ⟨u, h.owe hu ne⟩⟩
theorem Kt.shc {T0 : TypeId} {B n c : Nat} {w z : World} {a : Option Addr} (h : Kt T0 B w z) (o : ShC w B a n c) (ne : (3 : TypeId) ≠ T0) (n2 : 95 ≠ T0) : ShC z B a n c := ⟨o.1, by
 rcases o.2 with ⟨l, ho, hu⟩ | h0
 ·exact .inl ⟨l, h.ow ho n2, fun x hx => h.shn (hu x hx) ne⟩
 ·exact .inr h0⟩
theorem OwCE.shc {w : World} {B n c : Nat} {a : Option Addr} {l : List Cv} (h : OwCE w B a n c l) (hs : SmC l) (hl : n = l.length) : ShC w B a n c := by
 rcases h with h | ⟨rfl, rfl, rfl⟩
 ·exact h.shc hs
 ·exact ⟨Nat.zero_le _, .inr ⟨rfl, rfl⟩⟩
def zrN : Nv := ⟨-9, 0, ⟨0, 0, none, 0, 0, []⟩, 0, 0, 0⟩
end Go.Proofs.YtdpblimhfmfbnaaGreat
namespace Go.Proofs.YtdpblimhfmfbnaaGreat
open Go.ChangeShapes Go.WideShapes Go.ChangeAt Go.RowKit Go.Deep
structure ShP (w : World) (B : Nat) (p : Pv) : Prop where
 m : ShI w B p.ma p.mn p.mc
 l : ShI w B p.la p.ln p.lc
 h : ShN w B p.ha p.hn p.hc
 a : ShN w B p.aa p.an p.ac
 x : ∃ xl, Ow shU 41 w B (.slice p.xa p.xn p.xc) p.xn xl
 xn : p.xn ≤ 1048576
theorem ShP.of {w : World} {B : Nat} {p : Pv} (h : PvO w B p) (hs : PvS p) : ShP w B p := ⟨h.m.shi hs.m, h.l.shi hs.l, shn_of hs.h ⟨_, h.h⟩, shn_of hs.a ⟨_, h.a⟩, ⟨_, h.x⟩, hs.x⟩
theorem Sj.shn {B n c : Nat} {w z : World} {a : Option Addr} (k : Sj B w z) (h : ShN w B a n c) : ShN z B a n c := ⟨h.1, by
 obtain ⟨u, h | h⟩ := h.2
 ·obtain ⟨u', h'⟩ := k.p _ _ _ _ h
  exact ⟨u', .inl h'⟩
 ·exact ⟨u, .inr h⟩⟩
theorem ShP.sj {B : Nat} {w z : World} {p : Pv} (h : ShP w B p) (k : Sj B w z) : ShP z B p := ⟨k.s.i _ _ _ h.m, k.s.i _ _ _ h.l, k.shn h.h, k.shn h.a, by
 obtain ⟨xl, hx⟩ := h.x
 exact ⟨xl, k.ow hx (by decide) (by decide) (by decide)⟩, h.xn⟩
theorem ShP.below {B : Nat} {w z : World} {p : Pv} (h : ShP w B p) (hB : B ≤ w.heap.size) (hb : Below w.heap.size w z) : ShP z B p := h.sj (Sj.of_all hB hb)
theorem Kt.shi {T0 : TypeId} {B n c : Nat} {w z : World} {a : Option Addr} (h : Kt T0 B w z) (o : ShI w B a n c) (ne : (3 : TypeId) ≠ T0) (n2 : 95 ≠ T0) (n3 : 40 ≠ T0) : ShI z B a n c := ⟨o.1, by
 obtain ⟨l, ho, hu⟩ := o.2
 exact ⟨l, h.ow ho n3, fun x hx => h.shc (hu x hx) ne n2⟩⟩
theorem ShP.kt {B : Nat} {w z : World} {p : Pv} (h : ShP w B p) (k : Kt 26 B w z) : ShP z B p := ⟨k.shi h.m (by decide) (by decide) (by decide), k.shi h.l (by decide) (by decide) (by decide), k.shn h.h (by decide), k.shn h.a (by decide), by
 obtain ⟨xl, hx⟩ := h.x
 exact ⟨xl, k.ow hx (by decide)⟩, h.xn⟩
theorem ShP.num {B n c g : Nat} {w : World} {p : Pv} {u : List Int} (h : ShP w B p) (o : OwnI w B (.slice (some ⟨g, 0, none⟩) n c) n u) (k : Nat) (y : Int) : ShP (w.setCell ⟨g, k, none⟩ (.int .i64 y)) B p := h.sj (Sj.of_sc (Sc.of_sn (Sn.setI o k y)))
theorem InD.num {w z : World} {B N3 N4 n c g : Nat} {a : Option Addr} {l : List Iv} (o : Ow shI 40 w B (.slice a n c) n l) (hu : ∀ x, x ∈ l → CmD w N3 x.a x.n x.l ∨ OwCE w N4 x.a x.n x.c x.l) (k : Fr (fun j => j = g) w z) (h3 : N3 ≤ g) (h4 : g < N4) (h5 : N3 ≤ w.heap.size) (hg : ∃ cur fr, w.heap[g]? = some (.cells cur 3 fr)) : InD z z.heap.size a n l := by
 have hB : Below N3 w z := k.below h5 (fun j _ e => by omega)
 have ho : Ow shI 40 z B (.slice a n c) n l := o.fr k fun j hj e => by
  obtain ⟨cur, fr, e1⟩ := o.typ hj
  obtain ⟨cur2, fr2, e2⟩ := hg
  subst e
  rw [e1] at e2
  injection e2 with e2
  injection e2 with _ e2
  exact absurd e2 (by decide)
 refine ⟨ho.qv, fun x hx => ?_⟩
 rcases hu x hx with h | h
 ·exact (h.below hB (Nat.le_refl _)).mono (Nat.le_trans h5 k.size)
 ·exact (h.up k (fun j hj e => by omega)).d
end Go.Proofs.YtdpblimhfmfbnaaGreat
