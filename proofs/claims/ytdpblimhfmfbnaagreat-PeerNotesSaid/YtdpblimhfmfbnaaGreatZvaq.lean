import Derived.Deep.QuietTactic
import Derived.BigQuiet
import Derived.Deep.RegionWith
import Derived.Deep.RegionHeld3
import Derived.Deep.DeepCutAuto
import Derived.Deep.DeepFit
import Derived.Outline
import Derived.Test.YtdpblimhfmfbnaaGreatZvak
import Derived.Test.YtdpblimhfmfbnaaGreatZvao
import Derived.Test.YtdpblimhfmfbnaaGreatZvam
import Derived.Test.YtdpblimhfmfbnaaGreatZvap
import Derived.Test.YtdpblimhfmfbnaaGreatZval
import Derived.Test.YtdpblimhfmfbnaaGreatZva
set_option linter.unusedVariables false
set_option linter.unusedSimpArgs false
namespace Go.Proofs.YtdpblimhfmfbnaaGreat
open Go.ChangeShapes Go.WideShapes Go.ChangeAt Go.RowKit Go.Deep
structure Tw (w : World) (S : Nat) (v v' : Value) (n m : Nat) (x : Int) : Prop where
 a : w.ownsRow S 3 1 v n ((List.replicate n x).map (Value.int .i64))
 b : w.ownsRow S 3 1 v' m ((List.replicate m x).map (Value.int .i64))
 ap : v.ownBlock = none ∨ v.ownBlock ≠ v'.ownBlock
theorem Tw.nil (w : World) (S : Nat) (x : Int) : Tw w S (.slice none 0 0) (.slice none 0 0) 0 0 x := ⟨⟨rfl, Or.inl ⟨rfl, rfl⟩⟩, ⟨rfl, Or.inl ⟨rfl, rfl⟩⟩, Or.inl rfl⟩
theorem Tw.fr {w w' : World} {S n m : Nat} {v v' : Value} {x : Int} {M : Nat → Prop} (h : Tw w S v v' n m x) (k : Fr M w w') (hM : ∀ j, M j → j < S) : Tw w' S v v' n m x :=
 ⟨k.row h.a (fun j hj hm => by have := (h.a.lt j hj).1; have := hM j hm; omega), k.row h.b (fun j hj hm => by have := (h.b.lt j hj).1; have := hM j hm; omega), h.ap⟩
theorem Tw.o1 {w : World} {S n m : Nat} {v v' : Value} {x : Int} (h : Tw w S v v' n m x) : OwnI w S v n (List.replicate n x) := ⟨by simp, h.a⟩
theorem Tw.o2 {w : World} {S n m : Nat} {v v' : Value} {x : Int} (h : Tw w S v v' n m x) : OwnI w S v' m (List.replicate m x) := ⟨by simp, h.b⟩
theorem Tw.form {w : World} {S n m : Nat} {v v' : Value} {x : Int} (h : Tw w S v v' n m x) : ∃ a c a' c', v = .slice a n c ∧ v' = .slice a' m c' := by
 obtain ⟨a, c, e, _⟩ := h.o1.nq
 obtain ⟨a', c', e', _⟩ := h.o2.nq
 exact ⟨a, c, a', c', e, e'⟩
end Go.Proofs.YtdpblimhfmfbnaaGreat
namespace Go.Proofs.YtdpblimhfmfbnaaGreat
open Go.ChangeShapes Go.WideShapes Go.ChangeAt Go.RowKit Go.Deep
theorem num28_any (x : Int) (w : World) : Calls Tryz.prog 13 #[.int .i64 x] w fun e w' => e = .returned (.int .i64 x) ∧ w' = w := by
 go_enter Tryz.func13, Tryz.ntmps13
 go_wp2
 go_ret
 exact ⟨rfl, rfl⟩
theorem beg_one : OkP (begP 1 1 1) := by
 refine ⟨⟨by decide, by decide, by decide, by decide, by decide, by decide, by decide, by decide, by decide, by decide, by decide⟩, ⟨by decide, by decide, by decide, by decide, ?_⟩, ⟨rfl, fun x hx => by cases hx⟩, ⟨by decide, fun k x hx => by cases hx⟩, by decide, by decide⟩
 intro k hk
 obtain rfl : k = 0 := by
  have : (begP 1 1 1).h.length = 1 := rfl
  omega
 decide
set_option maxRecDepth 100000 in
set_option maxHeartbeats 3200000 in
theorem wakes28_any (w : World) : Calls Tryz.prog 16 #[] w fun e w' => e = .returned (.bool true) ∧ Below w.heap.size w w' := by
 have HM : Hk (MayP 1 1 1) := ⟨by unfold MayP; omega⟩
 go_enter Tryz.func16, Tryz.ntmps16
 go_upto_region 2 with (go_at_call 53; (with_reducible refine (pnew_yes 1 1 1 _ HM.out).mono ?_); rintro e z ⟨q, rfl, ho, hab, hs, hb⟩; have HB0 := Hk.mk hb; have HD := Hk.mk ho.d; have HA := Hk.mk hab; have HS := Hk.mk hs; clear ho hab hs hb)
 have HP : Hk (Bk (z.alloc (.cells #[.int .i64 q.i, .int .i64 q.n, .int .i64 q.d, .int .i64 q.t, .int .i64 q.s, .slice q.ma q.mn q.mc, .slice q.la q.ln q.lc, .slice q.ha q.hn q.hc, .slice q.aa q.an q.ac, .slice q.xa q.xn q.xc, .bool q.b] 26)) z.heap.size #[.int .i64 q.i, .int .i64 q.n, .int .i64 q.d, .int .i64 q.t, .int .i64 q.s, .slice q.ma q.mn q.mc, .slice q.la q.ln q.lc, .slice q.ha q.hn q.hc, .slice q.aa q.an q.ac, .slice q.xa q.xn q.xc, .bool q.b]) := ⟨Bk.new z #[.int .i64 q.i, .int .i64 q.n, .int .i64 q.d, .int .i64 q.t, .int .i64 q.s, .slice q.ma q.mn q.mc, .slice q.la q.ln q.lc, .slice q.ha q.hn q.hc, .slice q.aa q.an q.ac, .slice q.xa q.xn q.xc, .bool q.b] 26⟩
 have HB : Hk (Below w.heap.size w (z.alloc (.cells #[.int .i64 q.i, .int .i64 q.n, .int .i64 q.d, .int .i64 q.t, .int .i64 q.s, .slice q.ma q.mn q.mc, .slice q.la q.ln q.lc, .slice q.ha q.hn q.hc, .slice q.aa q.an q.ac, .slice q.xa q.xn q.xc, .bool q.b] 26))) := ⟨HB0.out.alloc HB0.out.size _⟩
 have HDV : Hk (PvD (z.alloc (.cells #[.int .i64 q.i, .int .i64 q.n, .int .i64 q.d, .int .i64 q.t, .int .i64 q.s, .slice q.ma q.mn q.mc, .slice q.la q.ln q.lc, .slice q.ha q.hn q.hc, .slice q.aa q.an q.ac, .slice q.xa q.xn q.xc, .bool q.b] 26)) (z.alloc (.cells #[.int .i64 q.i, .int .i64 q.n, .int .i64 q.d, .int .i64 q.t, .int .i64 q.s, .slice q.ma q.mn q.mc, .slice q.la q.ln q.lc, .slice q.ha q.hn q.hc, .slice q.aa q.an q.ac, .slice q.xa q.xn q.xc, .bool q.b] 26)).heap.size q) := ⟨HD.out.later ((Below.refl _ _).alloc (Nat.le_refl _) _)⟩
 obtain ⟨PQ, hpq⟩ : ∃ PQ, z.heap.size = PQ := ⟨_, rfl⟩
 rw [hpq] at HP ⊢
 clear HB0 HD HM hpq
 generalize (z.alloc (.cells #[.int .i64 q.i, .int .i64 q.n, .int .i64 q.d, .int .i64 q.t, .int .i64 q.s, .slice q.ma q.mn q.mc, .slice q.la q.ln q.lc, .slice q.ha q.hn q.hc, .slice q.aa q.an q.ac, .slice q.xa q.xn q.xc, .bool q.b] 26)) = V at *
 have c0 := HP.out.c 0; have c1 := HP.out.c 1; have c2 := HP.out.c 2; have c3 := HP.out.c 3; have c4 := HP.out.c 4; have c5 := HP.out.c 5; have c6 := HP.out.c 6; have c7 := HP.out.c 7; have c8 := HP.out.c 8; have c9 := HP.out.c 9; have c10 := HP.out.c 10
 have cl := HP.out.lt
 simp at c0 c1 c2 c3 c4 c5 c6 c7 c8 c9 c10
 have HK : Hk (OkP q.ab) := ⟨by rw [HA.out]; exact beg_one⟩
 have HR : Hk (q.t < 1099511627776 ∧ q.t ≤ minL q.hl) := ⟨by
  have e1 : q.t = 0 := congrArg Pm.t HA.out
  have e2 : q.hl = [0] := congrArg Pm.h HA.out
  rw [e1, e2]
  decide⟩
 have HE : Hk (abI q.ll = []) := ⟨congrArg Pm.l HA.out⟩
 clear HA z
 go_wp2_with (first
  | (go_at_call 47; (with_reducible refine (pready_yes q _ HDV.out HS.out HK.out HR.out).mono ?_); rintro e z ⟨a2, c2, M, rfl, ho, hab, hb⟩; have hm0 : M = [] := (by rw [HE.out] at hab; exact List.map_eq_nil_iff.1 hab); subst hm0; have HB2 := Hk.mk (HB.out.trans (hb.mono HB.out.size)); clear ho hab hb)
  | (go_at_call 13; (with_reducible refine (num28_any _ _).mono ?_); rintro e z2 ⟨rfl, hz⟩; rw [hz]; clear hz z2))
 go_ret
 exact ⟨rfl, HB2.out⟩
end Go.Proofs.YtdpblimhfmfbnaaGreat
namespace Go.Proofs.YtdpblimhfmfbnaaGreat
open List renaming getElem_toArray → jjA, getElem_cons_succ → jjB, getElem_cons_zero → jjC, setIfInBounds_toArray → jjD, set_cons_zero → jjE, set_cons_succ → jjF
open Go.ChangeShapes Go.WideShapes Go.ChangeAt Go.RowKit Go.Deep
theorem noN : ∀ x : Nv, x ∈ ([] : List Nv) → SmC x.q.l := fun _ h => by cases h
theorem ShT.nil (w : World) (B : Nat) : ShT w B none 0 0 := ⟨Nat.zero_le _, [], Ow.nil _ _, fun _ h => by cases h⟩
theorem OwNt.sht {w : World} {B n c : Nat} {a : Option Addr} {l : List Nv} (h : OwNt w B (.slice a n c) n l) (hs : ∀ x, x ∈ l → SmC x.q.l) (hn : n ≤ 1048576) : ShT w B a n c := ⟨hn, l, h.o, fun x hx => by
 rcases h.u x hx with k | ⟨e1, e2, e3⟩
 ·exact k.shc (hs x hx)
 ·rw [e1, e2]
  exact ⟨Nat.zero_le _, .inr ⟨rfl, rfl⟩⟩⟩
set_option maxRecDepth 100000 in
set_option maxHeartbeats 3200000 in
theorem step5_no (p : Pv) (q : Av) (w : World) (hw : (∀ w, Calls Tryz.prog 18 #[.int .i64 q.o, .int .i64 9] w fun e w' => e = .returned (.int .i64 5) ∧ ∃ m, w' = w.drewN m)) (h : PvD w w.heap.size p) (hs : PvS p) (E : ¬ OkP p.ab) :
  Calls Tryz.prog 15 #[.agg #[.int .i64 p.i, .int .i64 p.n, .int .i64 p.d, .int .i64 p.t, .int .i64 p.s, .slice p.ma p.mn p.mc, .slice p.la p.ln p.lc, .slice p.ha p.hn p.hc, .slice p.aa p.an p.ac, .slice p.xa p.xn p.xc, .bool p.b], .agg #[.int .i64 q.o, .slice q.la q.ln q.lc, .int .i64 q.e.f, .int .i64 q.e.t, .int .i64 q.e.q.t, .int .i64 q.e.q.p, .slice q.e.q.a q.e.q.n q.e.q.c, .int .i64 q.e.d, .int .u64 q.e.h, .int .i64 q.e.v, .bool q.b, .int .u64 q.h]] w fun e z => e = .returned (.tuple #[.agg #[.int .i64 p.i, .int .i64 p.n, .int .i64 p.d, .int .i64 p.t, .int .i64 p.s, .slice p.ma p.mn p.mc, .slice p.la p.ln p.lc, .slice p.ha p.hn p.hc, .slice p.aa p.an p.ac, .slice p.xa p.xn p.xc, .bool p.b], .bool true]) ∧ Below w.heap.size w z := by
 have HWI := Hk.mk hw
 have HE : Hk (Hk (OkP p.ab ↔ false = true)) := ⟨⟨fun g => absurd g E, fun g => by cases g⟩⟩
 clear hw
 have HBW : Hk (Below w.heap.size w (((w.alloc (.cells #[.int .i64 p.i, .int .i64 p.n, .int .i64 p.d, .int .i64 p.t, .int .i64 p.s, .slice p.ma p.mn p.mc, .slice p.la p.ln p.lc, .slice p.ha p.hn p.hc, .slice p.aa p.an p.ac, .slice p.xa p.xn p.xc, .bool p.b] 26)).alloc (.cells #[.int .i64 q.o, .slice q.la q.ln q.lc, .int .i64 q.e.f, .int .i64 q.e.t, .int .i64 q.e.q.t, .int .i64 q.e.q.p, .slice q.e.q.a q.e.q.n q.e.q.c, .int .i64 q.e.d, .int .u64 q.e.h, .int .i64 q.e.v, .bool q.b, .int .u64 q.h] 45)).alloc (.cells #[.int .i64 0, .int .i64 0, .int .i64 0, .int .i64 0, .int .i64 0, .slice none 0 0, .slice none 0 0, .slice none 0 0, .slice none 0 0, .slice none 0 0, .bool false] 26))) := ⟨(((Below.refl _ _).alloc (Nat.le_refl _) _).alloc (by simp) _).alloc (by simp <;> omega) _⟩
 have e1 : (w.alloc (.cells #[.int .i64 p.i, .int .i64 p.n, .int .i64 p.d, .int .i64 p.t, .int .i64 p.s, .slice p.ma p.mn p.mc, .slice p.la p.ln p.lc, .slice p.ha p.hn p.hc, .slice p.aa p.an p.ac, .slice p.xa p.xn p.xc, .bool p.b] 26)).heap.size = w.heap.size + 1 := by simp
 have e2 : ((w.alloc (.cells #[.int .i64 p.i, .int .i64 p.n, .int .i64 p.d, .int .i64 p.t, .int .i64 p.s, .slice p.ma p.mn p.mc, .slice p.la p.ln p.lc, .slice p.ha p.hn p.hc, .slice p.aa p.an p.ac, .slice p.xa p.xn p.xc, .bool p.b] 26)).alloc (.cells #[.int .i64 q.o, .slice q.la q.ln q.lc, .int .i64 q.e.f, .int .i64 q.e.t, .int .i64 q.e.q.t, .int .i64 q.e.q.p, .slice q.e.q.a q.e.q.n q.e.q.c, .int .i64 q.e.d, .int .u64 q.e.h, .int .i64 q.e.v, .bool q.b, .int .u64 q.h] 45)).heap.size = w.heap.size + 2 := by simp
 have HPB : Hk (Bk (((w.alloc (.cells #[.int .i64 p.i, .int .i64 p.n, .int .i64 p.d, .int .i64 p.t, .int .i64 p.s, .slice p.ma p.mn p.mc, .slice p.la p.ln p.lc, .slice p.ha p.hn p.hc, .slice p.aa p.an p.ac, .slice p.xa p.xn p.xc, .bool p.b] 26)).alloc (.cells #[.int .i64 q.o, .slice q.la q.ln q.lc, .int .i64 q.e.f, .int .i64 q.e.t, .int .i64 q.e.q.t, .int .i64 q.e.q.p, .slice q.e.q.a q.e.q.n q.e.q.c, .int .i64 q.e.d, .int .u64 q.e.h, .int .i64 q.e.v, .bool q.b, .int .u64 q.h] 45)).alloc (.cells #[.int .i64 0, .int .i64 0, .int .i64 0, .int .i64 0, .int .i64 0, .slice none 0 0, .slice none 0 0, .slice none 0 0, .slice none 0 0, .slice none 0 0, .bool false] 26)) w.heap.size #[.int .i64 p.i, .int .i64 p.n, .int .i64 p.d, .int .i64 p.t, .int .i64 p.s, .slice p.ma p.mn p.mc, .slice p.la p.ln p.lc, .slice p.ha p.hn p.hc, .slice p.aa p.an p.ac, .slice p.xa p.xn p.xc, .bool p.b]) := ⟨((Bk.new w #[.int .i64 p.i, .int .i64 p.n, .int .i64 p.d, .int .i64 p.t, .int .i64 p.s, .slice p.ma p.mn p.mc, .slice p.la p.ln p.lc, .slice p.ha p.hn p.hc, .slice p.aa p.an p.ac, .slice p.xa p.xn p.xc, .bool p.b] 26).al _).al _⟩
 have HAB : Hk (Bk (((w.alloc (.cells #[.int .i64 p.i, .int .i64 p.n, .int .i64 p.d, .int .i64 p.t, .int .i64 p.s, .slice p.ma p.mn p.mc, .slice p.la p.ln p.lc, .slice p.ha p.hn p.hc, .slice p.aa p.an p.ac, .slice p.xa p.xn p.xc, .bool p.b] 26)).alloc (.cells #[.int .i64 q.o, .slice q.la q.ln q.lc, .int .i64 q.e.f, .int .i64 q.e.t, .int .i64 q.e.q.t, .int .i64 q.e.q.p, .slice q.e.q.a q.e.q.n q.e.q.c, .int .i64 q.e.d, .int .u64 q.e.h, .int .i64 q.e.v, .bool q.b, .int .u64 q.h] 45)).alloc (.cells #[.int .i64 0, .int .i64 0, .int .i64 0, .int .i64 0, .int .i64 0, .slice none 0 0, .slice none 0 0, .slice none 0 0, .slice none 0 0, .slice none 0 0, .bool false] 26)) (w.heap.size + 1) #[.int .i64 q.o, .slice q.la q.ln q.lc, .int .i64 q.e.f, .int .i64 q.e.t, .int .i64 q.e.q.t, .int .i64 q.e.q.p, .slice q.e.q.a q.e.q.n q.e.q.c, .int .i64 q.e.d, .int .u64 q.e.h, .int .i64 q.e.v, .bool q.b, .int .u64 q.h]) := ⟨by rw [← e1]; exact (Bk.new (w.alloc (.cells #[.int .i64 p.i, .int .i64 p.n, .int .i64 p.d, .int .i64 p.t, .int .i64 p.s, .slice p.ma p.mn p.mc, .slice p.la p.ln p.lc, .slice p.ha p.hn p.hc, .slice p.aa p.an p.ac, .slice p.xa p.xn p.xc, .bool p.b] 26)) #[.int .i64 q.o, .slice q.la q.ln q.lc, .int .i64 q.e.f, .int .i64 q.e.t, .int .i64 q.e.q.t, .int .i64 q.e.q.p, .slice q.e.q.a q.e.q.n q.e.q.c, .int .i64 q.e.d, .int .u64 q.e.h, .int .i64 q.e.v, .bool q.b, .int .u64 q.h] 45).al _⟩
 have HRB : Hk (Bk (((w.alloc (.cells #[.int .i64 p.i, .int .i64 p.n, .int .i64 p.d, .int .i64 p.t, .int .i64 p.s, .slice p.ma p.mn p.mc, .slice p.la p.ln p.lc, .slice p.ha p.hn p.hc, .slice p.aa p.an p.ac, .slice p.xa p.xn p.xc, .bool p.b] 26)).alloc (.cells #[.int .i64 q.o, .slice q.la q.ln q.lc, .int .i64 q.e.f, .int .i64 q.e.t, .int .i64 q.e.q.t, .int .i64 q.e.q.p, .slice q.e.q.a q.e.q.n q.e.q.c, .int .i64 q.e.d, .int .u64 q.e.h, .int .i64 q.e.v, .bool q.b, .int .u64 q.h] 45)).alloc (.cells #[.int .i64 0, .int .i64 0, .int .i64 0, .int .i64 0, .int .i64 0, .slice none 0 0, .slice none 0 0, .slice none 0 0, .slice none 0 0, .slice none 0 0, .bool false] 26)) (w.heap.size + 2) #[.int .i64 0, .int .i64 0, .int .i64 0, .int .i64 0, .int .i64 0, .slice none 0 0, .slice none 0 0, .slice none 0 0, .slice none 0 0, .slice none 0 0, .bool false]) := ⟨by rw [← e2]; exact Bk.new ((w.alloc (.cells #[.int .i64 p.i, .int .i64 p.n, .int .i64 p.d, .int .i64 p.t, .int .i64 p.s, .slice p.ma p.mn p.mc, .slice p.la p.ln p.lc, .slice p.ha p.hn p.hc, .slice p.aa p.an p.ac, .slice p.xa p.xn p.xc, .bool p.b] 26)).alloc (.cells #[.int .i64 q.o, .slice q.la q.ln q.lc, .int .i64 q.e.f, .int .i64 q.e.t, .int .i64 q.e.q.t, .int .i64 q.e.q.p, .slice q.e.q.a q.e.q.n q.e.q.c, .int .i64 q.e.d, .int .u64 q.e.h, .int .i64 q.e.v, .bool q.b, .int .u64 q.h] 45)) #[.int .i64 0, .int .i64 0, .int .i64 0, .int .i64 0, .int .i64 0, .slice none 0 0, .slice none 0 0, .slice none 0 0, .slice none 0 0, .slice none 0 0, .bool false] 26⟩
 have HDP : Hk (∀ X, Below w.heap.size w X → PvD X X.heap.size p) := ⟨fun X hX => h.later hX⟩
 have HS := Hk.mk hs
 clear e1 e2 h hs
 go_enter Tryz.func15, Tryz.ntmps15
 go_upto_region 1 with fail
 generalize (((w.alloc (.cells #[.int .i64 p.i, .int .i64 p.n, .int .i64 p.d, .int .i64 p.t, .int .i64 p.s, .slice p.ma p.mn p.mc, .slice p.la p.ln p.lc, .slice p.ha p.hn p.hc, .slice p.aa p.an p.ac, .slice p.xa p.xn p.xc, .bool p.b] 26)).alloc (.cells #[.int .i64 q.o, .slice q.la q.ln q.lc, .int .i64 q.e.f, .int .i64 q.e.t, .int .i64 q.e.q.t, .int .i64 q.e.q.p, .slice q.e.q.a q.e.q.n q.e.q.c, .int .i64 q.e.d, .int .u64 q.e.h, .int .i64 q.e.v, .bool q.b, .int .u64 q.h] 45)).alloc (.cells #[.int .i64 0, .int .i64 0, .int .i64 0, .int .i64 0, .int .i64 0, .slice none 0 0, .slice none 0 0, .slice none 0 0, .slice none 0 0, .slice none 0 0, .bool false] 26)) = V at *
 have c0 := HPB.out.c 0; have c1 := HPB.out.c 1; have c2 := HPB.out.c 2; have c3 := HPB.out.c 3; have c4 := HPB.out.c 4; have c5 := HPB.out.c 5; have c6 := HPB.out.c 6; have c7 := HPB.out.c 7; have c8 := HPB.out.c 8; have c9 := HPB.out.c 9; have c10 := HPB.out.c 10; have cl := HPB.out.lt; simp at c0 c1 c2 c3 c4 c5 c6 c7 c8 c9 c10
 go_upto_region 2 with (go_at_call 11; (with_reducible refine (copyp_any p _ (HDP.out _ HBW.out) HS.out).mono ?_); rintro e z ⟨u, rfl, ho, hab, g1, g2, g3, g4, g5, hb⟩; have HO := Hk.mk ho; have HAU := Hk.mk hab; have HSU := Hk.mk (HS.out.like (HDP.out _ HBW.out) ho.d hab g1 g2 g3 g4 g5); have HB2 := Hk.mk hb; clear ho hab g1 g2 g3 g4 g5 hb)
 clear c0 c1 c2 c3 c4 c5 c6 c7 c8 c9 c10 cl
 have HO2 : Hk (PvO (z.alloc (.cells #[.int .i64 u.i, .int .i64 u.n, .int .i64 u.d, .int .i64 u.t, .int .i64 u.s, .slice u.ma u.mn u.mc, .slice u.la u.ln u.lc, .slice u.ha u.hn u.hc, .slice u.aa u.an u.ac, .slice u.xa u.xn u.xc, .bool u.b] 26)) V.heap.size u) := ⟨HO.out.below ((Below.refl _ _).alloc (Nat.le_refl _) _)⟩
 have HP2 : Hk (Bk (z.alloc (.cells #[.int .i64 u.i, .int .i64 u.n, .int .i64 u.d, .int .i64 u.t, .int .i64 u.s, .slice u.ma u.mn u.mc, .slice u.la u.ln u.lc, .slice u.ha u.hn u.hc, .slice u.aa u.an u.ac, .slice u.xa u.xn u.xc, .bool u.b] 26)) w.heap.size #[.int .i64 p.i, .int .i64 p.n, .int .i64 p.d, .int .i64 p.t, .int .i64 p.s, .slice p.ma p.mn p.mc, .slice p.la p.ln p.lc, .slice p.ha p.hn p.hc, .slice p.aa p.an p.ac, .slice p.xa p.xn p.xc, .bool p.b]) := ⟨(HPB.out.below HB2.out).al _⟩
 have HA2 : Hk (Bk (z.alloc (.cells #[.int .i64 u.i, .int .i64 u.n, .int .i64 u.d, .int .i64 u.t, .int .i64 u.s, .slice u.ma u.mn u.mc, .slice u.la u.ln u.lc, .slice u.ha u.hn u.hc, .slice u.aa u.an u.ac, .slice u.xa u.xn u.xc, .bool u.b] 26)) (w.heap.size + 1) #[.int .i64 q.o, .slice q.la q.ln q.lc, .int .i64 q.e.f, .int .i64 q.e.t, .int .i64 q.e.q.t, .int .i64 q.e.q.p, .slice q.e.q.a q.e.q.n q.e.q.c, .int .i64 q.e.d, .int .u64 q.e.h, .int .i64 q.e.v, .bool q.b, .int .u64 q.h]) := ⟨(HAB.out.below HB2.out).al _⟩
 have HR2 : Hk (Bk (z.alloc (.cells #[.int .i64 u.i, .int .i64 u.n, .int .i64 u.d, .int .i64 u.t, .int .i64 u.s, .slice u.ma u.mn u.mc, .slice u.la u.ln u.lc, .slice u.ha u.hn u.hc, .slice u.aa u.an u.ac, .slice u.xa u.xn u.xc, .bool u.b] 26)) (w.heap.size + 2) #[.int .i64 0, .int .i64 0, .int .i64 0, .int .i64 0, .int .i64 0, .slice none 0 0, .slice none 0 0, .slice none 0 0, .slice none 0 0, .slice none 0 0, .bool false]) := ⟨(HRB.out.below HB2.out).al _⟩
 have HQ2 : Hk (Bk (z.alloc (.cells #[.int .i64 u.i, .int .i64 u.n, .int .i64 u.d, .int .i64 u.t, .int .i64 u.s, .slice u.ma u.mn u.mc, .slice u.la u.ln u.lc, .slice u.ha u.hn u.hc, .slice u.aa u.an u.ac, .slice u.xa u.xn u.xc, .bool u.b] 26)) z.heap.size #[.int .i64 u.i, .int .i64 u.n, .int .i64 u.d, .int .i64 u.t, .int .i64 u.s, .slice u.ma u.mn u.mc, .slice u.la u.ln u.lc, .slice u.ha u.hn u.hc, .slice u.aa u.an u.ac, .slice u.xa u.xn u.xc, .bool u.b]) := ⟨Bk.new z #[.int .i64 u.i, .int .i64 u.n, .int .i64 u.d, .int .i64 u.t, .int .i64 u.s, .slice u.ma u.mn u.mc, .slice u.la u.ln u.lc, .slice u.ha u.hn u.hc, .slice u.aa u.an u.ac, .slice u.xa u.xn u.xc, .bool u.b] 26⟩
 have HBV : Hk (Below w.heap.size w (z.alloc (.cells #[.int .i64 u.i, .int .i64 u.n, .int .i64 u.d, .int .i64 u.t, .int .i64 u.s, .slice u.ma u.mn u.mc, .slice u.la u.ln u.lc, .slice u.ha u.hn u.hc, .slice u.aa u.an u.ac, .slice u.xa u.xn u.xc, .bool u.b] 26))) := ⟨kw_al (HBW.out.trans (HB2.out.mono HBW.out.size)) (Nat.le_refl _) _⟩
 have HRV : Hk ((w.heap.size + 2) < V.heap.size) := ⟨HRB.out.lt⟩
 have NPR : ¬ w.heap.size = (w.heap.size + 2) := by omega
 have NQR : ¬ z.heap.size = (w.heap.size + 2) := by have h1 := HRB.out.lt; have h2 := HB2.out.size; omega
 clear HO HB2 HPB HAB HRB HBW
 generalize V.heap.size = B0 at *
 generalize z.heap.size = Q at *
 generalize (z.alloc (.cells #[.int .i64 u.i, .int .i64 u.n, .int .i64 u.d, .int .i64 u.t, .int .i64 u.s, .slice u.ma u.mn u.mc, .slice u.la u.ln u.lc, .slice u.ha u.hn u.hc, .slice u.aa u.an u.ac, .slice u.xa u.xn u.xc, .bool u.b] 26)) = V2 at *
 have HVF : Hk (∀ X, Below V2.heap.size V2 X → X.cell? ⟨w.heap.size, 0, none⟩ = some (.int .i64 p.i) ∧ X.cell? ⟨w.heap.size, 1, none⟩ = some (.int .i64 p.n) ∧ X.cell? ⟨w.heap.size, 2, none⟩ = some (.int .i64 p.d) ∧ X.cell? ⟨w.heap.size, 3, none⟩ = some (.int .i64 p.t) ∧ X.cell? ⟨w.heap.size, 4, none⟩ = some (.int .i64 p.s) ∧ X.cell? ⟨w.heap.size, 5, none⟩ = some (.slice p.ma p.mn p.mc) ∧ X.cell? ⟨w.heap.size, 6, none⟩ = some (.slice p.la p.ln p.lc) ∧ X.cell? ⟨w.heap.size, 7, none⟩ = some (.slice p.ha p.hn p.hc) ∧ X.cell? ⟨w.heap.size, 8, none⟩ = some (.slice p.aa p.an p.ac) ∧ X.cell? ⟨w.heap.size, 9, none⟩ = some (.slice p.xa p.xn p.xc) ∧ X.cell? ⟨w.heap.size, 10, none⟩ = some (.bool p.b) ∧ X.cell? ⟨Q, 0, none⟩ = some (.int .i64 u.i) ∧ X.cell? ⟨Q, 1, none⟩ = some (.int .i64 u.n) ∧ X.cell? ⟨Q, 2, none⟩ = some (.int .i64 u.d) ∧ X.cell? ⟨Q, 3, none⟩ = some (.int .i64 u.t) ∧ X.cell? ⟨Q, 4, none⟩ = some (.int .i64 u.s) ∧ X.cell? ⟨Q, 5, none⟩ = some (.slice u.ma u.mn u.mc) ∧ X.cell? ⟨Q, 6, none⟩ = some (.slice u.la u.ln u.lc) ∧ X.cell? ⟨Q, 7, none⟩ = some (.slice u.ha u.hn u.hc) ∧ X.cell? ⟨Q, 8, none⟩ = some (.slice u.aa u.an u.ac) ∧ X.cell? ⟨Q, 9, none⟩ = some (.slice u.xa u.xn u.xc) ∧ X.cell? ⟨Q, 10, none⟩ = some (.bool u.b) ∧ X.cell? ⟨w.heap.size + 1, 0, none⟩ = some (.int .i64 q.o) ∧ w.heap.size < X.heap.size ∧ Q < X.heap.size ∧ w.heap.size + 1 < X.heap.size) := ⟨fun X hX => by
  have hp := HP2.out.below hX
  have hu := HQ2.out.below hX
  have ha := HA2.out.below hX
  exact ⟨hp.c 0, hp.c 1, hp.c 2, hp.c 3, hp.c 4, hp.c 5, hp.c 6, hp.c 7, hp.c 8, hp.c 9, hp.c 10, hu.c 0, hu.c 1, hu.c 2, hu.c 3, hu.c 4, hu.c 5, hu.c 6, hu.c 7, hu.c 8, hu.c 9, hu.c 10, ha.c 0, hp.lt, hu.lt, ha.lt⟩⟩
 have HTR : Hk (∀ X, Below V2.heap.size V2 X → Below w.heap.size w X) := ⟨fun X hX => HBV.out.trans (hX.mono HBV.out.size)⟩
 have HDU : Hk (∀ X, Below V2.heap.size V2 X → PvD X X.heap.size u) := ⟨fun X hX => (HO2.out.below hX).d⟩
 have HV : Hk (Below V2.heap.size V2 V2) := ⟨Below.refl _ _⟩
 clear HP2 HA2 HQ2 HBV
 obtain ⟨y0, y1, y2, y3, y4, y5, y6, y7, y8, y9, y10, d0, d1, d2, d3, d4, d5, d6, d7, d8, d9, d10, a0, yl, dl, al⟩ := HVF.out _ HV.out
 have HNU : Hk (¬ OkP u.ab) := ⟨by rw [HAU.out]; exact E⟩
 clear E
 go_upto_region 3 with (go_at_call 12; (with_reducible refine (rpeer_as false p _ (HDP.out _ (HTR.out _ HV.out)) HS.out HE.out).mono ?_); rintro e z ⟨rfl, hb⟩; have HV9 := Hk.mk (kw_step HV.out (Nat.le_refl _) hb); clear y0 y1 y2 y3 y4 y5 y6 y7 y8 y9 y10 d0 d1 d2 d3 d4 d5 d6 d7 d8 d9 d10 a0 yl dl al; clear hb; replace HV := HV9; clear HV9; obtain ⟨y0, y1, y2, y3, y4, y5, y6, y7, y8, y9, y10, d0, d1, d2, d3, d4, d5, d6, d7, d8, d9, d10, a0, yl, dl, al⟩ := HVF.out _ HV.out)
 go_upto_region 6 with fail
 have HV9 : Hk (Below V2.heap.size V2 ((z.alloc (.cells #[.int .i64 0, .int .i64 0, .int .i64 0, .int .i64 0, .int .i64 0, .slice none 0 0, .slice none 0 0, .slice none 0 0, .slice none 0 0, .slice none 0 0, .bool false] 26)).alloc (.cells #[.int .i64 0, .int .i64 0, .int .i64 0, .int .i64 0, .int .i64 0, .slice none 0 0, .slice none 0 0, .slice none 0 0, .slice none 0 0, .slice none 0 0, .bool false] 26))) := ⟨kw_al (kw_al HV.out (Nat.le_refl _) _) (Nat.le_refl _) _⟩
 clear y0 y1 y2 y3 y4 y5 y6 y7 y8 y9 y10 d0 d1 d2 d3 d4 d5 d6 d7 d8 d9 d10 a0 yl dl al
 replace HV := HV9
 clear HV9
 generalize ((z.alloc (.cells #[.int .i64 0, .int .i64 0, .int .i64 0, .int .i64 0, .int .i64 0, .slice none 0 0, .slice none 0 0, .slice none 0 0, .slice none 0 0, .slice none 0 0, .bool false] 26)).alloc (.cells #[.int .i64 0, .int .i64 0, .int .i64 0, .int .i64 0, .int .i64 0, .slice none 0 0, .slice none 0 0, .slice none 0 0, .slice none 0 0, .slice none 0 0, .bool false] 26)) = V3 at *
 obtain ⟨y0, y1, y2, y3, y4, y5, y6, y7, y8, y9, y10, d0, d1, d2, d3, d4, d5, d6, d7, d8, d9, d10, a0, yl, dl, al⟩ := HVF.out _ HV.out
 go_upto_region 32 with (first | (go_at_call 18; (with_reducible refine (HWI.out _).mono ?_); rintro e z ⟨rfl, hz⟩; have hb := below_m hz; clear hz; have HV9 := Hk.mk (kw_step HV.out (Nat.le_refl _) hb); clear y0 y1 y2 y3 y4 y5 y6 y7 y8 y9 y10 d0 d1 d2 d3 d4 d5 d6 d7 d8 d9 d10 a0 yl dl al; clear hb; replace HV := HV9; clear HV9; obtain ⟨y0, y1, y2, y3, y4, y5, y6, y7, y8, y9, y10, d0, d1, d2, d3, d4, d5, d6, d7, d8, d9, d10, a0, yl, dl, al⟩ := HVF.out _ HV.out) | (go_at_call 42; (with_reducible refine (pnotes_no u _ (HDU.out _ HV.out) HSU.out HNU.out).mono ?_); rintro e z ⟨rfl, hb⟩; have HV9 := Hk.mk (kw_step HV.out (Nat.le_refl _) hb); clear y0 y1 y2 y3 y4 y5 y6 y7 y8 y9 y10 d0 d1 d2 d3 d4 d5 d6 d7 d8 d9 d10 a0 yl dl al; clear hb; replace HV := HV9; clear HV9; obtain ⟨y0, y1, y2, y3, y4, y5, y6, y7, y8, y9, y10, d0, d1, d2, d3, d4, d5, d6, d7, d8, d9, d10, a0, yl, dl, al⟩ := HVF.out _ HV.out) | (go_at_call 13; (with_reducible refine (num28_any _ _).mono ?_); rintro e z9 ⟨rfl, hz⟩; rw [hz]; clear hz z9) | (go_at_call 43; (with_reducible refine (eqnotes_yes none none 0 0 0 [] [] _ (NsD.nil _ _ _) (NsD.nil _ _ _) (Nat.zero_le _) noN noN rfl).mono ?_); rintro e z ⟨rfl, hb⟩; have HV9 := Hk.mk (kw_step HV.out (Nat.le_refl _) hb); clear y0 y1 y2 y3 y4 y5 y6 y7 y8 y9 y10 d0 d1 d2 d3 d4 d5 d6 d7 d8 d9 d10 a0 yl dl al; clear hb; replace HV := HV9; clear HV9; obtain ⟨y0, y1, y2, y3, y4, y5, y6, y7, y8, y9, y10, d0, d1, d2, d3, d4, d5, d6, d7, d8, d9, d10, a0, yl, dl, al⟩ := HVF.out _ HV.out) | (go_at_call 44; (with_reducible refine (eqp_as true u p _ (HDU.out _ HV.out) (HDP.out _ (HTR.out _ HV.out)) HSU.out HS.out ⟨⟨fun _ => rfl, fun _ => HAU.out⟩⟩).mono ?_); rintro e z ⟨rfl, hb⟩; have HV9 := Hk.mk (kw_step HV.out (Nat.le_refl _) hb); clear y0 y1 y2 y3 y4 y5 y6 y7 y8 y9 y10 d0 d1 d2 d3 d4 d5 d6 d7 d8 d9 d10 a0 yl dl al; clear hb; replace HV := HV9; clear HV9; obtain ⟨y0, y1, y2, y3, y4, y5, y6, y7, y8, y9, y10, d0, d1, d2, d3, d4, d5, d6, d7, d8, d9, d10, a0, yl, dl, al⟩ := HVF.out _ HV.out) | (go_at_call 45; (with_reducible refine (notes_own _ 0 0 none _ (ShT.nil _ _) (Nat.le_refl _)).mono ?_); rintro e z ⟨rfl, hb⟩; have HV9 := Hk.mk (kw_step HV.out (Nat.le_refl _) hb); clear y0 y1 y2 y3 y4 y5 y6 y7 y8 y9 y10 d0 d1 d2 d3 d4 d5 d6 d7 d8 d9 d10 a0 yl dl al; clear hb; replace HV := HV9; clear HV9; obtain ⟨y0, y1, y2, y3, y4, y5, y6, y7, y8, y9, y10, d0, d1, d2, d3, d4, d5, d6, d7, d8, d9, d10, a0, yl, dl, al⟩ := HVF.out _ HV.out))
 generalize z = V4 at *
 have HO4 := Hk.mk (HO2.out.below HV.out)
 have HR4 := Hk.mk (HR2.out.below HV.out).drew
 have HB4 := Hk.mk (HTR.out _ HV.out)
 have hRw : w.heap.size ≤ (w.heap.size + 2) := by omega
 clear HO2 HR2 HDU HVF HTR
 have r0 := HR4.out.c 0; have f0 := HR4.out.f 0; have r1 := HR4.out.c 1; have f1 := HR4.out.f 1; have r2 := HR4.out.c 2; have f2 := HR4.out.f 2; have r3 := HR4.out.c 3; have f3 := HR4.out.f 3; have r4 := HR4.out.c 4; have f4 := HR4.out.f 4; have r5 := HR4.out.c 5; have f5 := HR4.out.f 5; have r6 := HR4.out.c 6; have f6 := HR4.out.f 6; have r7 := HR4.out.c 7; have f7 := HR4.out.f 7; have r8 := HR4.out.c 8; have f8 := HR4.out.f 8; have r9 := HR4.out.c 9; have f9 := HR4.out.f 9; have r10 := HR4.out.c 10; have f10 := HR4.out.f 10; simp at r0 r1 r2 r3 r4 r5 r6 r7 r8 r9 r10
 refine wp_region_held_drew (S := (fun X => (∀ b o, b < V4.heap.size → ¬ b = (w.heap.size + 2) → X.cell? ⟨b, o, none⟩ = V4.cell? ⟨b, o, none⟩) ∧ StR w V4 (w.heap.size + 2) X)) (by kernel_rfl) ?_ (fun hHeld => ?_)
 ·exact (StR.start HB4.out).s
 have HI : Ix [0, 1, 2, 3, 4] := trivial
 iterate 5 (refine tkA HI (v := ?_) rfl (by kernel_rfl) (fun _ _ _ h => h) (.inl ⟨by rfl, fun wX hSw => ?_⟩) hHeld (fun HJ => ?_); rotate_left; (focus ((try dsimp only at hSw); go_simp; try with_reducible rfl)); clear HI; have HI := HJ; clear HJ; try simp only [Act.put, jjA, jjB, jjC, jjD, jjE, jjF])
 clear HI
 refine wpAnyH_ready (rs := [5]) (by kernel_rfl) (by simp) ?_
 refine AllReadyH.cons rfl (fun K hK => ?_) (AllReadyH.nil)
 go_simp
 ((go_at_call 44; (with_reducible refine (eqp_as true u p _ (hHeld.2.pd HO4.out HRV.out) (HDP.out _ hHeld.2.bw) HSU.out HS.out ⟨⟨fun _ => rfl, fun _ => HAU.out⟩⟩).mono ?_); rintro e zz ⟨rfl, hb⟩; first | (have HRz := Hk.mk (HR4.out.below hb); have m0 := HRz.out.c 0; have k0 := HRz.out.f 0; have m1 := HRz.out.c 1; have k1 := HRz.out.f 1; have m2 := HRz.out.c 2; have k2 := HRz.out.f 2; have m3 := HRz.out.c 3; have k3 := HRz.out.f 3; have m4 := HRz.out.c 4; have k4 := HRz.out.f 4; have m5 := HRz.out.c 5; have k5 := HRz.out.f 5; have m6 := HRz.out.c 6; have k6 := HRz.out.f 6; have m7 := HRz.out.c 7; have k7 := HRz.out.f 7; have m8 := HRz.out.c 8; have k8 := HRz.out.f 8; have m9 := HRz.out.c 9; have k9 := HRz.out.f 9; have m10 := HRz.out.c 10; have k10 := HRz.out.f 10; simp at m0 m1 m2 m3 m4 m5 m6 m7 m8 m9 m10) | (have HRz := Hk.mk ((((((((((((HR4.out.set 0 (.int .i64 p.i)).set 1 (.int .i64 p.n)).set 2 (.int .i64 p.d)).set 3 (.int .i64 p.t)).set 4 (.int .i64 p.s)).set 5 (.slice p.ma p.mn p.mc)).set 6 (.slice p.la p.ln p.lc)).set 7 (.slice p.ha p.hn p.hc)).set 8 (.slice p.aa p.an p.ac)).set 9 (.slice p.xa p.xn p.xc)).set 10 (.bool p.b)).below hb); have m0 := HRz.out.c 0; have k0 := HRz.out.f 0; have m1 := HRz.out.c 1; have k1 := HRz.out.f 1; have m2 := HRz.out.c 2; have k2 := HRz.out.f 2; have m3 := HRz.out.c 3; have k3 := HRz.out.f 3; have m4 := HRz.out.c 4; have k4 := HRz.out.f 4; have m5 := HRz.out.c 5; have k5 := HRz.out.f 5; have m6 := HRz.out.c 6; have k6 := HRz.out.f 6; have m7 := HRz.out.c 7; have k7 := HRz.out.f 7; have m8 := HRz.out.c 8; have k8 := HRz.out.f 8; have m9 := HRz.out.c 9; have k9 := HRz.out.f 9; have m10 := HRz.out.c 10; have k10 := HRz.out.f 10; simp at m0 m1 m2 m3 m4 m5 m6 m7 m8 m9 m10)))
 refine hK.out _ _ ?_ (fun hHeld => ?_)
 ·first | exact (hHeld.2.call hb).s | exact ((((((((((((hHeld.2.set hRw 0 _).set hRw 1 _).set hRw 2 _).set hRw 3 _).set hRw 4 _).set hRw 5 _).set hRw 6 _).set hRw 7 _).set hRw 8 _).set hRw 9 _).set hRw 10 _)).s
 clear hK K
 (try simp only [Act.put, jjA, jjB, jjC, jjD, jjE, jjF])
 have HI : Ix [6] := trivial
 (refine tkA HI (v := ?_) rfl (by kernel_rfl) (fun _ _ _ h => h) (.inl ⟨by rfl, fun wX hSw => ?_⟩) hHeld (fun HJ => ?_); rotate_left; (focus ((try dsimp only at hSw); go_simp; try with_reducible rfl)); clear HI; have HI := HJ; clear HJ; try simp only [Act.put, jjA, jjB, jjC, jjD, jjE, jjF])
 clear HI
 refine wpAnyH_ready (rs := [7]) (by kernel_rfl) (by simp) ?_
 refine AllReadyH.cons rfl (fun K hK => ?_) (AllReadyH.nil)
 go_simp
 refine hK.out _ _ ?_ (fun hHeld => ?_)
 ·first | exact (hHeld.2.call hb).s | exact ((((((((((((hHeld.2.set hRw 0 _).set hRw 1 _).set hRw 2 _).set hRw 3 _).set hRw 4 _).set hRw 5 _).set hRw 6 _).set hRw 7 _).set hRw 8 _).set hRw 9 _).set hRw 10 _)).s
 clear hK K
 (try simp only [Act.put, jjA, jjB, jjC, jjD, jjE, jjF])
 have HI : Ix [8] := trivial
 (refine tkA HI (v := ?_) rfl (by kernel_rfl) (fun _ _ _ h => h) (.inl ⟨by rfl, fun wX hSw => ?_⟩) hHeld (fun HJ => ?_); rotate_left; (focus ((try dsimp only at hSw); go_simp; try with_reducible rfl)); clear HI; have HI := HJ; clear HJ; try simp only [Act.put, jjA, jjB, jjC, jjD, jjE, jjF])
 clear HI
 refine wpAnyH_done (by kernel_rfl) ?_ _
 all_goals
  go_wp2_with fail
 all_goals
  refine bodyPost_ret (v := .tuple #[.agg #[.int .i64 p.i, .int .i64 p.n, .int .i64 p.d, .int .i64 p.t, .int .i64 p.s, .slice p.ma p.mn p.mc, .slice p.la p.ln p.lc, .slice p.ha p.hn p.hc, .slice p.aa p.an p.ac, .slice p.xa p.xn p.xc, .bool p.b], .bool true]) (by simp [results, Tryz.results15, go_sem, m0, m1, m2, m3, m4, m5, m6, m7, m8, m9, m10, k0, k1, k2, k3, k4, k5, k6, k7, k8, k9, k10]) rfl ⟨rfl, hHeld.2.bw⟩
set_option maxRecDepth 100000 in
set_option maxHeartbeats 3200000 in
theorem step5_yes (p : Pv) (q : Av) (w : World) (hw : (∀ w, Calls Tryz.prog 18 #[.int .i64 q.o, .int .i64 9] w fun e w' => e = .returned (.int .i64 5) ∧ ∃ m, w' = w.drewN m)) (h : PvD w w.heap.size p) (hs : PvS p) (hk : OkP p.ab) :
  Calls Tryz.prog 15 #[.agg #[.int .i64 p.i, .int .i64 p.n, .int .i64 p.d, .int .i64 p.t, .int .i64 p.s, .slice p.ma p.mn p.mc, .slice p.la p.ln p.lc, .slice p.ha p.hn p.hc, .slice p.aa p.an p.ac, .slice p.xa p.xn p.xc, .bool p.b], .agg #[.int .i64 q.o, .slice q.la q.ln q.lc, .int .i64 q.e.f, .int .i64 q.e.t, .int .i64 q.e.q.t, .int .i64 q.e.q.p, .slice q.e.q.a q.e.q.n q.e.q.c, .int .i64 q.e.d, .int .u64 q.e.h, .int .i64 q.e.v, .bool q.b, .int .u64 q.h]] w fun e z => e = .returned (.tuple #[.agg #[.int .i64 p.i, .int .i64 p.n, .int .i64 p.d, .int .i64 p.t, .int .i64 p.s, .slice p.ma p.mn p.mc, .slice p.la p.ln p.lc, .slice p.ha p.hn p.hc, .slice p.aa p.an p.ac, .slice p.xa p.xn p.xc, .bool p.b], .bool true]) ∧ Below w.heap.size w z := by
 have HWI := Hk.mk hw
 have HOK := Hk.mk hk
 clear hw hk
 have HBW : Hk (Below w.heap.size w (((w.alloc (.cells #[.int .i64 p.i, .int .i64 p.n, .int .i64 p.d, .int .i64 p.t, .int .i64 p.s, .slice p.ma p.mn p.mc, .slice p.la p.ln p.lc, .slice p.ha p.hn p.hc, .slice p.aa p.an p.ac, .slice p.xa p.xn p.xc, .bool p.b] 26)).alloc (.cells #[.int .i64 q.o, .slice q.la q.ln q.lc, .int .i64 q.e.f, .int .i64 q.e.t, .int .i64 q.e.q.t, .int .i64 q.e.q.p, .slice q.e.q.a q.e.q.n q.e.q.c, .int .i64 q.e.d, .int .u64 q.e.h, .int .i64 q.e.v, .bool q.b, .int .u64 q.h] 45)).alloc (.cells #[.int .i64 0, .int .i64 0, .int .i64 0, .int .i64 0, .int .i64 0, .slice none 0 0, .slice none 0 0, .slice none 0 0, .slice none 0 0, .slice none 0 0, .bool false] 26))) := ⟨(((Below.refl _ _).alloc (Nat.le_refl _) _).alloc (by simp) _).alloc (by simp <;> omega) _⟩
 have e1 : (w.alloc (.cells #[.int .i64 p.i, .int .i64 p.n, .int .i64 p.d, .int .i64 p.t, .int .i64 p.s, .slice p.ma p.mn p.mc, .slice p.la p.ln p.lc, .slice p.ha p.hn p.hc, .slice p.aa p.an p.ac, .slice p.xa p.xn p.xc, .bool p.b] 26)).heap.size = w.heap.size + 1 := by simp
 have e2 : ((w.alloc (.cells #[.int .i64 p.i, .int .i64 p.n, .int .i64 p.d, .int .i64 p.t, .int .i64 p.s, .slice p.ma p.mn p.mc, .slice p.la p.ln p.lc, .slice p.ha p.hn p.hc, .slice p.aa p.an p.ac, .slice p.xa p.xn p.xc, .bool p.b] 26)).alloc (.cells #[.int .i64 q.o, .slice q.la q.ln q.lc, .int .i64 q.e.f, .int .i64 q.e.t, .int .i64 q.e.q.t, .int .i64 q.e.q.p, .slice q.e.q.a q.e.q.n q.e.q.c, .int .i64 q.e.d, .int .u64 q.e.h, .int .i64 q.e.v, .bool q.b, .int .u64 q.h] 45)).heap.size = w.heap.size + 2 := by simp
 have HPB : Hk (Bk (((w.alloc (.cells #[.int .i64 p.i, .int .i64 p.n, .int .i64 p.d, .int .i64 p.t, .int .i64 p.s, .slice p.ma p.mn p.mc, .slice p.la p.ln p.lc, .slice p.ha p.hn p.hc, .slice p.aa p.an p.ac, .slice p.xa p.xn p.xc, .bool p.b] 26)).alloc (.cells #[.int .i64 q.o, .slice q.la q.ln q.lc, .int .i64 q.e.f, .int .i64 q.e.t, .int .i64 q.e.q.t, .int .i64 q.e.q.p, .slice q.e.q.a q.e.q.n q.e.q.c, .int .i64 q.e.d, .int .u64 q.e.h, .int .i64 q.e.v, .bool q.b, .int .u64 q.h] 45)).alloc (.cells #[.int .i64 0, .int .i64 0, .int .i64 0, .int .i64 0, .int .i64 0, .slice none 0 0, .slice none 0 0, .slice none 0 0, .slice none 0 0, .slice none 0 0, .bool false] 26)) w.heap.size #[.int .i64 p.i, .int .i64 p.n, .int .i64 p.d, .int .i64 p.t, .int .i64 p.s, .slice p.ma p.mn p.mc, .slice p.la p.ln p.lc, .slice p.ha p.hn p.hc, .slice p.aa p.an p.ac, .slice p.xa p.xn p.xc, .bool p.b]) := ⟨((Bk.new w #[.int .i64 p.i, .int .i64 p.n, .int .i64 p.d, .int .i64 p.t, .int .i64 p.s, .slice p.ma p.mn p.mc, .slice p.la p.ln p.lc, .slice p.ha p.hn p.hc, .slice p.aa p.an p.ac, .slice p.xa p.xn p.xc, .bool p.b] 26).al _).al _⟩
 have HAB : Hk (Bk (((w.alloc (.cells #[.int .i64 p.i, .int .i64 p.n, .int .i64 p.d, .int .i64 p.t, .int .i64 p.s, .slice p.ma p.mn p.mc, .slice p.la p.ln p.lc, .slice p.ha p.hn p.hc, .slice p.aa p.an p.ac, .slice p.xa p.xn p.xc, .bool p.b] 26)).alloc (.cells #[.int .i64 q.o, .slice q.la q.ln q.lc, .int .i64 q.e.f, .int .i64 q.e.t, .int .i64 q.e.q.t, .int .i64 q.e.q.p, .slice q.e.q.a q.e.q.n q.e.q.c, .int .i64 q.e.d, .int .u64 q.e.h, .int .i64 q.e.v, .bool q.b, .int .u64 q.h] 45)).alloc (.cells #[.int .i64 0, .int .i64 0, .int .i64 0, .int .i64 0, .int .i64 0, .slice none 0 0, .slice none 0 0, .slice none 0 0, .slice none 0 0, .slice none 0 0, .bool false] 26)) (w.heap.size + 1) #[.int .i64 q.o, .slice q.la q.ln q.lc, .int .i64 q.e.f, .int .i64 q.e.t, .int .i64 q.e.q.t, .int .i64 q.e.q.p, .slice q.e.q.a q.e.q.n q.e.q.c, .int .i64 q.e.d, .int .u64 q.e.h, .int .i64 q.e.v, .bool q.b, .int .u64 q.h]) := ⟨by rw [← e1]; exact (Bk.new (w.alloc (.cells #[.int .i64 p.i, .int .i64 p.n, .int .i64 p.d, .int .i64 p.t, .int .i64 p.s, .slice p.ma p.mn p.mc, .slice p.la p.ln p.lc, .slice p.ha p.hn p.hc, .slice p.aa p.an p.ac, .slice p.xa p.xn p.xc, .bool p.b] 26)) #[.int .i64 q.o, .slice q.la q.ln q.lc, .int .i64 q.e.f, .int .i64 q.e.t, .int .i64 q.e.q.t, .int .i64 q.e.q.p, .slice q.e.q.a q.e.q.n q.e.q.c, .int .i64 q.e.d, .int .u64 q.e.h, .int .i64 q.e.v, .bool q.b, .int .u64 q.h] 45).al _⟩
 have HRB : Hk (Bk (((w.alloc (.cells #[.int .i64 p.i, .int .i64 p.n, .int .i64 p.d, .int .i64 p.t, .int .i64 p.s, .slice p.ma p.mn p.mc, .slice p.la p.ln p.lc, .slice p.ha p.hn p.hc, .slice p.aa p.an p.ac, .slice p.xa p.xn p.xc, .bool p.b] 26)).alloc (.cells #[.int .i64 q.o, .slice q.la q.ln q.lc, .int .i64 q.e.f, .int .i64 q.e.t, .int .i64 q.e.q.t, .int .i64 q.e.q.p, .slice q.e.q.a q.e.q.n q.e.q.c, .int .i64 q.e.d, .int .u64 q.e.h, .int .i64 q.e.v, .bool q.b, .int .u64 q.h] 45)).alloc (.cells #[.int .i64 0, .int .i64 0, .int .i64 0, .int .i64 0, .int .i64 0, .slice none 0 0, .slice none 0 0, .slice none 0 0, .slice none 0 0, .slice none 0 0, .bool false] 26)) (w.heap.size + 2) #[.int .i64 0, .int .i64 0, .int .i64 0, .int .i64 0, .int .i64 0, .slice none 0 0, .slice none 0 0, .slice none 0 0, .slice none 0 0, .slice none 0 0, .bool false]) := ⟨by rw [← e2]; exact Bk.new ((w.alloc (.cells #[.int .i64 p.i, .int .i64 p.n, .int .i64 p.d, .int .i64 p.t, .int .i64 p.s, .slice p.ma p.mn p.mc, .slice p.la p.ln p.lc, .slice p.ha p.hn p.hc, .slice p.aa p.an p.ac, .slice p.xa p.xn p.xc, .bool p.b] 26)).alloc (.cells #[.int .i64 q.o, .slice q.la q.ln q.lc, .int .i64 q.e.f, .int .i64 q.e.t, .int .i64 q.e.q.t, .int .i64 q.e.q.p, .slice q.e.q.a q.e.q.n q.e.q.c, .int .i64 q.e.d, .int .u64 q.e.h, .int .i64 q.e.v, .bool q.b, .int .u64 q.h] 45)) #[.int .i64 0, .int .i64 0, .int .i64 0, .int .i64 0, .int .i64 0, .slice none 0 0, .slice none 0 0, .slice none 0 0, .slice none 0 0, .slice none 0 0, .bool false] 26⟩
 have HDP : Hk (∀ X, Below w.heap.size w X → PvD X X.heap.size p) := ⟨fun X hX => h.later hX⟩
 have HS := Hk.mk hs
 clear e1 e2 h hs
 go_enter Tryz.func15, Tryz.ntmps15
 go_upto_region 1 with fail
 generalize (((w.alloc (.cells #[.int .i64 p.i, .int .i64 p.n, .int .i64 p.d, .int .i64 p.t, .int .i64 p.s, .slice p.ma p.mn p.mc, .slice p.la p.ln p.lc, .slice p.ha p.hn p.hc, .slice p.aa p.an p.ac, .slice p.xa p.xn p.xc, .bool p.b] 26)).alloc (.cells #[.int .i64 q.o, .slice q.la q.ln q.lc, .int .i64 q.e.f, .int .i64 q.e.t, .int .i64 q.e.q.t, .int .i64 q.e.q.p, .slice q.e.q.a q.e.q.n q.e.q.c, .int .i64 q.e.d, .int .u64 q.e.h, .int .i64 q.e.v, .bool q.b, .int .u64 q.h] 45)).alloc (.cells #[.int .i64 0, .int .i64 0, .int .i64 0, .int .i64 0, .int .i64 0, .slice none 0 0, .slice none 0 0, .slice none 0 0, .slice none 0 0, .slice none 0 0, .bool false] 26)) = V at *
 have c0 := HPB.out.c 0; have c1 := HPB.out.c 1; have c2 := HPB.out.c 2; have c3 := HPB.out.c 3; have c4 := HPB.out.c 4; have c5 := HPB.out.c 5; have c6 := HPB.out.c 6; have c7 := HPB.out.c 7; have c8 := HPB.out.c 8; have c9 := HPB.out.c 9; have c10 := HPB.out.c 10; have cl := HPB.out.lt; simp at c0 c1 c2 c3 c4 c5 c6 c7 c8 c9 c10
 go_upto_region 2 with (go_at_call 11; (with_reducible refine (copyp_any p _ (HDP.out _ HBW.out) HS.out).mono ?_); rintro e z ⟨u, rfl, ho, hab, g1, g2, g3, g4, g5, hb⟩; have HO := Hk.mk ho; have HAU := Hk.mk hab; have HSU := Hk.mk (HS.out.like (HDP.out _ HBW.out) ho.d hab g1 g2 g3 g4 g5); have HB2 := Hk.mk hb; clear ho hab g1 g2 g3 g4 g5 hb)
 clear c0 c1 c2 c3 c4 c5 c6 c7 c8 c9 c10 cl
 have HO2 : Hk (PvO (z.alloc (.cells #[.int .i64 u.i, .int .i64 u.n, .int .i64 u.d, .int .i64 u.t, .int .i64 u.s, .slice u.ma u.mn u.mc, .slice u.la u.ln u.lc, .slice u.ha u.hn u.hc, .slice u.aa u.an u.ac, .slice u.xa u.xn u.xc, .bool u.b] 26)) V.heap.size u) := ⟨HO.out.below ((Below.refl _ _).alloc (Nat.le_refl _) _)⟩
 have HP2 : Hk (Bk (z.alloc (.cells #[.int .i64 u.i, .int .i64 u.n, .int .i64 u.d, .int .i64 u.t, .int .i64 u.s, .slice u.ma u.mn u.mc, .slice u.la u.ln u.lc, .slice u.ha u.hn u.hc, .slice u.aa u.an u.ac, .slice u.xa u.xn u.xc, .bool u.b] 26)) w.heap.size #[.int .i64 p.i, .int .i64 p.n, .int .i64 p.d, .int .i64 p.t, .int .i64 p.s, .slice p.ma p.mn p.mc, .slice p.la p.ln p.lc, .slice p.ha p.hn p.hc, .slice p.aa p.an p.ac, .slice p.xa p.xn p.xc, .bool p.b]) := ⟨(HPB.out.below HB2.out).al _⟩
 have HA2 : Hk (Bk (z.alloc (.cells #[.int .i64 u.i, .int .i64 u.n, .int .i64 u.d, .int .i64 u.t, .int .i64 u.s, .slice u.ma u.mn u.mc, .slice u.la u.ln u.lc, .slice u.ha u.hn u.hc, .slice u.aa u.an u.ac, .slice u.xa u.xn u.xc, .bool u.b] 26)) (w.heap.size + 1) #[.int .i64 q.o, .slice q.la q.ln q.lc, .int .i64 q.e.f, .int .i64 q.e.t, .int .i64 q.e.q.t, .int .i64 q.e.q.p, .slice q.e.q.a q.e.q.n q.e.q.c, .int .i64 q.e.d, .int .u64 q.e.h, .int .i64 q.e.v, .bool q.b, .int .u64 q.h]) := ⟨(HAB.out.below HB2.out).al _⟩
 have HR2 : Hk (Bk (z.alloc (.cells #[.int .i64 u.i, .int .i64 u.n, .int .i64 u.d, .int .i64 u.t, .int .i64 u.s, .slice u.ma u.mn u.mc, .slice u.la u.ln u.lc, .slice u.ha u.hn u.hc, .slice u.aa u.an u.ac, .slice u.xa u.xn u.xc, .bool u.b] 26)) (w.heap.size + 2) #[.int .i64 0, .int .i64 0, .int .i64 0, .int .i64 0, .int .i64 0, .slice none 0 0, .slice none 0 0, .slice none 0 0, .slice none 0 0, .slice none 0 0, .bool false]) := ⟨(HRB.out.below HB2.out).al _⟩
 have HQ2 : Hk (Bk (z.alloc (.cells #[.int .i64 u.i, .int .i64 u.n, .int .i64 u.d, .int .i64 u.t, .int .i64 u.s, .slice u.ma u.mn u.mc, .slice u.la u.ln u.lc, .slice u.ha u.hn u.hc, .slice u.aa u.an u.ac, .slice u.xa u.xn u.xc, .bool u.b] 26)) z.heap.size #[.int .i64 u.i, .int .i64 u.n, .int .i64 u.d, .int .i64 u.t, .int .i64 u.s, .slice u.ma u.mn u.mc, .slice u.la u.ln u.lc, .slice u.ha u.hn u.hc, .slice u.aa u.an u.ac, .slice u.xa u.xn u.xc, .bool u.b]) := ⟨Bk.new z #[.int .i64 u.i, .int .i64 u.n, .int .i64 u.d, .int .i64 u.t, .int .i64 u.s, .slice u.ma u.mn u.mc, .slice u.la u.ln u.lc, .slice u.ha u.hn u.hc, .slice u.aa u.an u.ac, .slice u.xa u.xn u.xc, .bool u.b] 26⟩
 have HBV : Hk (Below w.heap.size w (z.alloc (.cells #[.int .i64 u.i, .int .i64 u.n, .int .i64 u.d, .int .i64 u.t, .int .i64 u.s, .slice u.ma u.mn u.mc, .slice u.la u.ln u.lc, .slice u.ha u.hn u.hc, .slice u.aa u.an u.ac, .slice u.xa u.xn u.xc, .bool u.b] 26))) := ⟨kw_al (HBW.out.trans (HB2.out.mono HBW.out.size)) (Nat.le_refl _) _⟩
 have HRV : Hk ((w.heap.size + 2) < V.heap.size) := ⟨HRB.out.lt⟩
 have NPR : ¬ w.heap.size = (w.heap.size + 2) := by omega
 have NQR : ¬ z.heap.size = (w.heap.size + 2) := by have h1 := HRB.out.lt; have h2 := HB2.out.size; omega
 clear HO HB2 HPB HAB HRB HBW
 generalize V.heap.size = B0 at *
 generalize z.heap.size = Q at *
 generalize (z.alloc (.cells #[.int .i64 u.i, .int .i64 u.n, .int .i64 u.d, .int .i64 u.t, .int .i64 u.s, .slice u.ma u.mn u.mc, .slice u.la u.ln u.lc, .slice u.ha u.hn u.hc, .slice u.aa u.an u.ac, .slice u.xa u.xn u.xc, .bool u.b] 26)) = V2 at *
 have HVF : Hk (∀ X, Below V2.heap.size V2 X → X.cell? ⟨w.heap.size, 0, none⟩ = some (.int .i64 p.i) ∧ X.cell? ⟨w.heap.size, 1, none⟩ = some (.int .i64 p.n) ∧ X.cell? ⟨w.heap.size, 2, none⟩ = some (.int .i64 p.d) ∧ X.cell? ⟨w.heap.size, 3, none⟩ = some (.int .i64 p.t) ∧ X.cell? ⟨w.heap.size, 4, none⟩ = some (.int .i64 p.s) ∧ X.cell? ⟨w.heap.size, 5, none⟩ = some (.slice p.ma p.mn p.mc) ∧ X.cell? ⟨w.heap.size, 6, none⟩ = some (.slice p.la p.ln p.lc) ∧ X.cell? ⟨w.heap.size, 7, none⟩ = some (.slice p.ha p.hn p.hc) ∧ X.cell? ⟨w.heap.size, 8, none⟩ = some (.slice p.aa p.an p.ac) ∧ X.cell? ⟨w.heap.size, 9, none⟩ = some (.slice p.xa p.xn p.xc) ∧ X.cell? ⟨w.heap.size, 10, none⟩ = some (.bool p.b) ∧ X.cell? ⟨Q, 0, none⟩ = some (.int .i64 u.i) ∧ X.cell? ⟨Q, 1, none⟩ = some (.int .i64 u.n) ∧ X.cell? ⟨Q, 2, none⟩ = some (.int .i64 u.d) ∧ X.cell? ⟨Q, 3, none⟩ = some (.int .i64 u.t) ∧ X.cell? ⟨Q, 4, none⟩ = some (.int .i64 u.s) ∧ X.cell? ⟨Q, 5, none⟩ = some (.slice u.ma u.mn u.mc) ∧ X.cell? ⟨Q, 6, none⟩ = some (.slice u.la u.ln u.lc) ∧ X.cell? ⟨Q, 7, none⟩ = some (.slice u.ha u.hn u.hc) ∧ X.cell? ⟨Q, 8, none⟩ = some (.slice u.aa u.an u.ac) ∧ X.cell? ⟨Q, 9, none⟩ = some (.slice u.xa u.xn u.xc) ∧ X.cell? ⟨Q, 10, none⟩ = some (.bool u.b) ∧ X.cell? ⟨w.heap.size + 1, 0, none⟩ = some (.int .i64 q.o) ∧ w.heap.size < X.heap.size ∧ Q < X.heap.size ∧ w.heap.size + 1 < X.heap.size) := ⟨fun X hX => by
  have hp := HP2.out.below hX
  have hu := HQ2.out.below hX
  have ha := HA2.out.below hX
  exact ⟨hp.c 0, hp.c 1, hp.c 2, hp.c 3, hp.c 4, hp.c 5, hp.c 6, hp.c 7, hp.c 8, hp.c 9, hp.c 10, hu.c 0, hu.c 1, hu.c 2, hu.c 3, hu.c 4, hu.c 5, hu.c 6, hu.c 7, hu.c 8, hu.c 9, hu.c 10, ha.c 0, hp.lt, hu.lt, ha.lt⟩⟩
 have HTR : Hk (∀ X, Below V2.heap.size V2 X → Below w.heap.size w X) := ⟨fun X hX => HBV.out.trans (hX.mono HBV.out.size)⟩
 have HDU : Hk (∀ X, Below V2.heap.size V2 X → PvD X X.heap.size u) := ⟨fun X hX => (HO2.out.below hX).d⟩
 have HV : Hk (Below V2.heap.size V2 V2) := ⟨Below.refl _ _⟩
 clear HP2 HA2 HQ2 HBV
 obtain ⟨y0, y1, y2, y3, y4, y5, y6, y7, y8, y9, y10, d0, d1, d2, d3, d4, d5, d6, d7, d8, d9, d10, a0, yl, dl, al⟩ := HVF.out _ HV.out
 have HKU : Hk (OkP u.ab) := ⟨by rw [HAU.out]; exact HOK.out⟩
 have HUN : Hk (u.n = p.n) := ⟨((ab_iff u p).1 HAU.out).2.1⟩
 go_upto_region 3 with (go_at_call 12; (with_reducible refine (rpeer_as true p _ (HDP.out _ (HTR.out _ HV.out)) HS.out ⟨⟨fun _ => rfl, fun _ => HOK.out⟩⟩).mono ?_); rintro e z ⟨rfl, hb⟩; have HV9 := Hk.mk (kw_step HV.out (Nat.le_refl _) hb); clear y0 y1 y2 y3 y4 y5 y6 y7 y8 y9 y10 d0 d1 d2 d3 d4 d5 d6 d7 d8 d9 d10 a0 yl dl al; clear hb; replace HV := HV9; clear HV9; obtain ⟨y0, y1, y2, y3, y4, y5, y6, y7, y8, y9, y10, d0, d1, d2, d3, d4, d5, d6, d7, d8, d9, d10, a0, yl, dl, al⟩ := HVF.out _ HV.out)
 go_upto_region 6 with fail
 have HV9 : Hk (Below V2.heap.size V2 ((z.alloc (.cells #[.int .i64 0, .int .i64 0, .int .i64 0, .int .i64 0, .int .i64 0, .slice none 0 0, .slice none 0 0, .slice none 0 0, .slice none 0 0, .slice none 0 0, .bool false] 26)).alloc (.cells #[.int .i64 0, .int .i64 0, .int .i64 0, .int .i64 0, .int .i64 0, .slice none 0 0, .slice none 0 0, .slice none 0 0, .slice none 0 0, .slice none 0 0, .bool false] 26))) := ⟨kw_al (kw_al HV.out (Nat.le_refl _) _) (Nat.le_refl _) _⟩
 clear y0 y1 y2 y3 y4 y5 y6 y7 y8 y9 y10 d0 d1 d2 d3 d4 d5 d6 d7 d8 d9 d10 a0 yl dl al
 replace HV := HV9
 clear HV9
 generalize ((z.alloc (.cells #[.int .i64 0, .int .i64 0, .int .i64 0, .int .i64 0, .int .i64 0, .slice none 0 0, .slice none 0 0, .slice none 0 0, .slice none 0 0, .slice none 0 0, .bool false] 26)).alloc (.cells #[.int .i64 0, .int .i64 0, .int .i64 0, .int .i64 0, .int .i64 0, .slice none 0 0, .slice none 0 0, .slice none 0 0, .slice none 0 0, .slice none 0 0, .bool false] 26)) = V3 at *
 obtain ⟨y0, y1, y2, y3, y4, y5, y6, y7, y8, y9, y10, d0, d1, d2, d3, d4, d5, d6, d7, d8, d9, d10, a0, yl, dl, al⟩ := HVF.out _ HV.out
 go_upto_region 32 with (first | (go_at_call 18; (with_reducible refine (HWI.out _).mono ?_); rintro e z ⟨rfl, hz⟩; have hb := below_m hz; clear hz; have HV9 := Hk.mk (kw_step HV.out (Nat.le_refl _) hb); clear y0 y1 y2 y3 y4 y5 y6 y7 y8 y9 y10 d0 d1 d2 d3 d4 d5 d6 d7 d8 d9 d10 a0 yl dl al; clear hb; replace HV := HV9; clear HV9; obtain ⟨y0, y1, y2, y3, y4, y5, y6, y7, y8, y9, y10, d0, d1, d2, d3, d4, d5, d6, d7, d8, d9, d10, a0, yl, dl, al⟩ := HVF.out _ HV.out) | (go_at_call 41; (with_reducible refine (rnotes_yes p _ (HDP.out _ (HTR.out _ HV.out)) HS.out HOK.out).mono ?_); rintro e z1 ⟨ra, rn, rc, RL, rfl, ho, hra, hrs, hb⟩; have HRD := Hk.mk ho.d; have HRA := Hk.mk hra; have HRS := Hk.mk hrs; clear ho hra hrs; have HV9 := Hk.mk (kw_step HV.out (Nat.le_refl _) hb); clear y0 y1 y2 y3 y4 y5 y6 y7 y8 y9 y10 d0 d1 d2 d3 d4 d5 d6 d7 d8 d9 d10 a0 yl dl al; clear hb; replace HV := HV9; clear HV9; obtain ⟨y0, y1, y2, y3, y4, y5, y6, y7, y8, y9, y10, d0, d1, d2, d3, d4, d5, d6, d7, d8, d9, d10, a0, yl, dl, al⟩ := HVF.out _ HV.out) | (go_at_call 42; (with_reducible refine (pnotes_yes u _ (HDU.out _ HV.out) HSU.out HKU.out).mono ?_); rintro e z2 ⟨a2, n2, c2, M, rfl, ho, hma, hn8, hms, hb⟩; have HOM := Hk.mk (ho.weak HV.out.size); have HMA : Hk (abN M = abN RL) := ⟨by rw [hma, HRA.out, HAU.out, HUN.out]⟩; have HMS := Hk.mk hms; have HN8 := Hk.mk hn8; obtain rfl : rn = n2 := (by have e1 := congrArg List.length HMA.out; rw [abN_len, abN_len] at e1; have e2 := ho.o.len; have e3 := HRD.out.q.len; omega); replace HRD := Hk.mk (HRD.out.later hb); clear ho hma hn8 hms; have HV9 := Hk.mk (kw_step HV.out (Nat.le_refl _) hb); clear y0 y1 y2 y3 y4 y5 y6 y7 y8 y9 y10 d0 d1 d2 d3 d4 d5 d6 d7 d8 d9 d10 a0 yl dl al; clear hb; replace HV := HV9; clear HV9; obtain ⟨y0, y1, y2, y3, y4, y5, y6, y7, y8, y9, y10, d0, d1, d2, d3, d4, d5, d6, d7, d8, d9, d10, a0, yl, dl, al⟩ := HVF.out _ HV.out) | (go_at_call 13; (with_reducible refine (num28_any _ _).mono ?_); rintro e z9 ⟨rfl, hz⟩; rw [hz]; clear hz z9) | (go_at_call 43; (with_reducible refine (eqnotes_yes a2 ra rn c2 rc M RL _ HOM.out.d HRD.out (by have := HN8.out; omega) HMS.out HRS.out HMA.out).mono ?_); rintro e z ⟨rfl, hb⟩; replace HOM := Hk.mk (HOM.out.below hb); clear HRD; have HV9 := Hk.mk (kw_step HV.out (Nat.le_refl _) hb); clear y0 y1 y2 y3 y4 y5 y6 y7 y8 y9 y10 d0 d1 d2 d3 d4 d5 d6 d7 d8 d9 d10 a0 yl dl al; clear hb; replace HV := HV9; clear HV9; obtain ⟨y0, y1, y2, y3, y4, y5, y6, y7, y8, y9, y10, d0, d1, d2, d3, d4, d5, d6, d7, d8, d9, d10, a0, yl, dl, al⟩ := HVF.out _ HV.out) | (go_at_call 44; (with_reducible refine (eqp_as true u p _ (HDU.out _ HV.out) (HDP.out _ (HTR.out _ HV.out)) HSU.out HS.out ⟨⟨fun _ => rfl, fun _ => HAU.out⟩⟩).mono ?_); rintro e z ⟨rfl, hb⟩; replace HOM := Hk.mk (HOM.out.below hb); have HV9 := Hk.mk (kw_step HV.out (Nat.le_refl _) hb); clear y0 y1 y2 y3 y4 y5 y6 y7 y8 y9 y10 d0 d1 d2 d3 d4 d5 d6 d7 d8 d9 d10 a0 yl dl al; clear hb; replace HV := HV9; clear HV9; obtain ⟨y0, y1, y2, y3, y4, y5, y6, y7, y8, y9, y10, d0, d1, d2, d3, d4, d5, d6, d7, d8, d9, d10, a0, yl, dl, al⟩ := HVF.out _ HV.out) | (go_at_call 45; (with_reducible refine (notes_own V2.heap.size rn c2 a2 _ (HOM.out.sht HMS.out (by have := HN8.out; omega)) HV.out.size).mono ?_); rintro e z ⟨rfl, hb⟩; have HV9 := Hk.mk (HV.out.trans hb); clear hb HOM; clear y0 y1 y2 y3 y4 y5 y6 y7 y8 y9 y10 d0 d1 d2 d3 d4 d5 d6 d7 d8 d9 d10 a0 yl dl al; replace HV := HV9; clear HV9; obtain ⟨y0, y1, y2, y3, y4, y5, y6, y7, y8, y9, y10, d0, d1, d2, d3, d4, d5, d6, d7, d8, d9, d10, a0, yl, dl, al⟩ := HVF.out _ HV.out))
 generalize z = V4 at *
 have HO4 := Hk.mk (HO2.out.below HV.out)
 have HR4 := Hk.mk (HR2.out.below HV.out).drew
 have HB4 := Hk.mk (HTR.out _ HV.out)
 have hRw : w.heap.size ≤ (w.heap.size + 2) := by omega
 clear HO2 HR2 HDU HVF HTR
 have r0 := HR4.out.c 0; have f0 := HR4.out.f 0; have r1 := HR4.out.c 1; have f1 := HR4.out.f 1; have r2 := HR4.out.c 2; have f2 := HR4.out.f 2; have r3 := HR4.out.c 3; have f3 := HR4.out.f 3; have r4 := HR4.out.c 4; have f4 := HR4.out.f 4; have r5 := HR4.out.c 5; have f5 := HR4.out.f 5; have r6 := HR4.out.c 6; have f6 := HR4.out.f 6; have r7 := HR4.out.c 7; have f7 := HR4.out.f 7; have r8 := HR4.out.c 8; have f8 := HR4.out.f 8; have r9 := HR4.out.c 9; have f9 := HR4.out.f 9; have r10 := HR4.out.c 10; have f10 := HR4.out.f 10; simp at r0 r1 r2 r3 r4 r5 r6 r7 r8 r9 r10
 refine wp_region_held_drew (S := (fun X => (∀ b o, b < V4.heap.size → ¬ b = (w.heap.size + 2) → X.cell? ⟨b, o, none⟩ = V4.cell? ⟨b, o, none⟩) ∧ StR w V4 (w.heap.size + 2) X)) (by kernel_rfl) ?_ (fun hHeld => ?_)
 ·exact (StR.start HB4.out).s
 have HI : Ix [0, 1, 2, 3, 4] := trivial
 iterate 5 (refine tkA HI (v := ?_) rfl (by kernel_rfl) (fun _ _ _ h => h) (.inl ⟨by rfl, fun wX hSw => ?_⟩) hHeld (fun HJ => ?_); rotate_left; (focus ((try dsimp only at hSw); go_simp; try with_reducible rfl)); clear HI; have HI := HJ; clear HJ; try simp only [Act.put, jjA, jjB, jjC, jjD, jjE, jjF])
 clear HI
 refine wpAnyH_ready (rs := [5]) (by kernel_rfl) (by simp) ?_
 refine AllReadyH.cons rfl (fun K hK => ?_) (AllReadyH.nil)
 go_simp
 ((go_at_call 44; (with_reducible refine (eqp_as true u p _ (hHeld.2.pd HO4.out HRV.out) (HDP.out _ hHeld.2.bw) HSU.out HS.out ⟨⟨fun _ => rfl, fun _ => HAU.out⟩⟩).mono ?_); rintro e zz ⟨rfl, hb⟩; first | (have HRz := Hk.mk (HR4.out.below hb); have m0 := HRz.out.c 0; have k0 := HRz.out.f 0; have m1 := HRz.out.c 1; have k1 := HRz.out.f 1; have m2 := HRz.out.c 2; have k2 := HRz.out.f 2; have m3 := HRz.out.c 3; have k3 := HRz.out.f 3; have m4 := HRz.out.c 4; have k4 := HRz.out.f 4; have m5 := HRz.out.c 5; have k5 := HRz.out.f 5; have m6 := HRz.out.c 6; have k6 := HRz.out.f 6; have m7 := HRz.out.c 7; have k7 := HRz.out.f 7; have m8 := HRz.out.c 8; have k8 := HRz.out.f 8; have m9 := HRz.out.c 9; have k9 := HRz.out.f 9; have m10 := HRz.out.c 10; have k10 := HRz.out.f 10; simp at m0 m1 m2 m3 m4 m5 m6 m7 m8 m9 m10) | (have HRz := Hk.mk ((((((((((((HR4.out.set 0 (.int .i64 p.i)).set 1 (.int .i64 p.n)).set 2 (.int .i64 p.d)).set 3 (.int .i64 p.t)).set 4 (.int .i64 p.s)).set 5 (.slice p.ma p.mn p.mc)).set 6 (.slice p.la p.ln p.lc)).set 7 (.slice p.ha p.hn p.hc)).set 8 (.slice p.aa p.an p.ac)).set 9 (.slice p.xa p.xn p.xc)).set 10 (.bool p.b)).below hb); have m0 := HRz.out.c 0; have k0 := HRz.out.f 0; have m1 := HRz.out.c 1; have k1 := HRz.out.f 1; have m2 := HRz.out.c 2; have k2 := HRz.out.f 2; have m3 := HRz.out.c 3; have k3 := HRz.out.f 3; have m4 := HRz.out.c 4; have k4 := HRz.out.f 4; have m5 := HRz.out.c 5; have k5 := HRz.out.f 5; have m6 := HRz.out.c 6; have k6 := HRz.out.f 6; have m7 := HRz.out.c 7; have k7 := HRz.out.f 7; have m8 := HRz.out.c 8; have k8 := HRz.out.f 8; have m9 := HRz.out.c 9; have k9 := HRz.out.f 9; have m10 := HRz.out.c 10; have k10 := HRz.out.f 10; simp at m0 m1 m2 m3 m4 m5 m6 m7 m8 m9 m10)))
 refine hK.out _ _ ?_ (fun hHeld => ?_)
 ·first | exact (hHeld.2.call hb).s | exact ((((((((((((hHeld.2.set hRw 0 _).set hRw 1 _).set hRw 2 _).set hRw 3 _).set hRw 4 _).set hRw 5 _).set hRw 6 _).set hRw 7 _).set hRw 8 _).set hRw 9 _).set hRw 10 _)).s
 clear hK K
 (try simp only [Act.put, jjA, jjB, jjC, jjD, jjE, jjF])
 have HI : Ix [6] := trivial
 (refine tkA HI (v := ?_) rfl (by kernel_rfl) (fun _ _ _ h => h) (.inl ⟨by rfl, fun wX hSw => ?_⟩) hHeld (fun HJ => ?_); rotate_left; (focus ((try dsimp only at hSw); go_simp; try with_reducible rfl)); clear HI; have HI := HJ; clear HJ; try simp only [Act.put, jjA, jjB, jjC, jjD, jjE, jjF])
 clear HI
 refine wpAnyH_ready (rs := [7]) (by kernel_rfl) (by simp) ?_
 refine AllReadyH.cons rfl (fun K hK => ?_) (AllReadyH.nil)
 go_simp
 refine hK.out _ _ ?_ (fun hHeld => ?_)
 ·first | exact (hHeld.2.call hb).s | exact ((((((((((((hHeld.2.set hRw 0 _).set hRw 1 _).set hRw 2 _).set hRw 3 _).set hRw 4 _).set hRw 5 _).set hRw 6 _).set hRw 7 _).set hRw 8 _).set hRw 9 _).set hRw 10 _)).s
 clear hK K
 (try simp only [Act.put, jjA, jjB, jjC, jjD, jjE, jjF])
 have HI : Ix [8] := trivial
 (refine tkA HI (v := ?_) rfl (by kernel_rfl) (fun _ _ _ h => h) (.inl ⟨by rfl, fun wX hSw => ?_⟩) hHeld (fun HJ => ?_); rotate_left; (focus ((try dsimp only at hSw); go_simp; try with_reducible rfl)); clear HI; have HI := HJ; clear HJ; try simp only [Act.put, jjA, jjB, jjC, jjD, jjE, jjF])
 clear HI
 refine wpAnyH_done (by kernel_rfl) ?_ _
 all_goals
  go_wp2_with fail
 all_goals
  refine bodyPost_ret (v := .tuple #[.agg #[.int .i64 p.i, .int .i64 p.n, .int .i64 p.d, .int .i64 p.t, .int .i64 p.s, .slice p.ma p.mn p.mc, .slice p.la p.ln p.lc, .slice p.ha p.hn p.hc, .slice p.aa p.an p.ac, .slice p.xa p.xn p.xc, .bool p.b], .bool true]) (by simp [results, Tryz.results15, go_sem, m0, m1, m2, m3, m4, m5, m6, m7, m8, m9, m10, k0, k1, k2, k3, k4, k5, k6, k7, k8, k9, k10]) rfl ⟨rfl, hHeld.2.bw⟩
end Go.Proofs.YtdpblimhfmfbnaaGreat
namespace Go.Proofs.YtdpblimhfmfbnaaGreat
open Go.ChangeShapes Go.WideShapes Go.ChangeAt Go.RowKit Go.Deep
def StepD (p : Pv) (r : Int) : Prop := ∀ (q : Av) (X : World), PvD X X.heap.size p → PvS p → AvD X X.heap.size q → SmC q.ll → SmC q.e.q.l → Calls Tryz.prog 15 #[.agg #[.int .i64 p.i, .int .i64 p.n, .int .i64 p.d, .int .i64 p.t, .int .i64 p.s, .slice p.ma p.mn p.mc, .slice p.la p.ln p.lc, .slice p.ha p.hn p.hc, .slice p.aa p.an p.ac, .slice p.xa p.xn p.xc, .bool p.b], .agg #[.int .i64 r, .slice q.la q.ln q.lc, .int .i64 q.e.f, .int .i64 q.e.t, .int .i64 q.e.q.t, .int .i64 q.e.q.p, .slice q.e.q.a q.e.q.n q.e.q.c, .int .i64 q.e.d, .int .u64 q.e.h, .int .i64 q.e.v, .bool q.b, .int .u64 q.h]] X fun e z => (∃ u : Pv, e = .returned (.tuple #[.agg #[.int .i64 u.i, .int .i64 u.n, .int .i64 u.d, .int .i64 u.t, .int .i64 u.s, .slice u.ma u.mn u.mc, .slice u.la u.ln u.lc, .slice u.ha u.hn u.hc, .slice u.aa u.an u.ac, .slice u.xa u.xn u.xc, .bool u.b], .bool true])) ∧ Below X.heap.size X z
theorem AsD.act {w : World} {B : Nat} {a : Option Addr} {n : Nat} {l : List Av} (h : AsD w B a n l) {k : Nat} (hk : k < n) {q : Av} (hq : l.getD k default = q) : AvD w B q ∧ q ∈ l ∧ ∃ b off, a = some ⟨b, off, none⟩ ∧ b < B ∧ ∀ j, j < 12 → w.cell? ⟨b, off + k * 12 + j, none⟩ = q.cs[j]? := by
 obtain ⟨b, off, e, hlt, hc⟩ := h.q.rd (by omega)
 have hk' : k < l.length := by rw [h.q.len]; exact hk
 have hg : l.getD k default = l[k] := by simp [List.getD, hk']
 rw [hg] at hq
 subst hq
 exact ⟨h.u _ (List.getElem_mem hk'), List.getElem_mem hk', b, off, e, hlt, fun j hj => hc k hk' j hj⟩
set_option maxRecDepth 100000 in
set_option maxHeartbeats 3200000 in
theorem only28_any (r : Int) (p : Pv) (la : Option Addr) (ln lc : Nat) (l : List Av) (w : World) (h : PvD w w.heap.size p) (hp : BdP p) (hl : ln ≤ 17592186044416) (ha : AsD w w.heap.size la ln l) (hst : Hk (∀ (q : Av) (X : World), PvD X X.heap.size p → PvS p → AvD X X.heap.size q → SmC q.ll → SmC q.e.q.l → Calls Tryz.prog 15 #[.agg #[.int .i64 p.i, .int .i64 p.n, .int .i64 p.d, .int .i64 p.t, .int .i64 p.s, .slice p.ma p.mn p.mc, .slice p.la p.ln p.lc, .slice p.ha p.hn p.hc, .slice p.aa p.an p.ac, .slice p.xa p.xn p.xc, .bool p.b], .agg #[.int .i64 r, .slice q.la q.ln q.lc, .int .i64 q.e.f, .int .i64 q.e.t, .int .i64 q.e.q.t, .int .i64 q.e.q.p, .slice q.e.q.a q.e.q.n q.e.q.c, .int .i64 q.e.d, .int .u64 q.e.h, .int .i64 q.e.v, .bool q.b, .int .u64 q.h]] X fun e z => (∃ u : Pv, e = .returned (.tuple #[.agg #[.int .i64 u.i, .int .i64 u.n, .int .i64 u.d, .int .i64 u.t, .int .i64 u.s, .slice u.ma u.mn u.mc, .slice u.la u.ln u.lc, .slice u.ha u.hn u.hc, .slice u.aa u.an u.ac, .slice u.xa u.xn u.xc, .bool u.b], .bool true])) ∧ Below X.heap.size X z)) :
  Calls Tryz.prog 17 #[.agg #[.int .i64 p.i, .int .i64 p.n, .int .i64 p.d, .int .i64 p.t, .int .i64 p.s, .slice p.ma p.mn p.mc, .slice p.la p.ln p.lc, .slice p.ha p.hn p.hc, .slice p.aa p.an p.ac, .slice p.xa p.xn p.xc, .bool p.b, .slice la ln lc], .int .i64 r] w fun e z => e = .returned (.bool true) ∧ Below w.heap.size w z := by
 have HST := hst
 have HBW : Hk (Below w.heap.size w (w.alloc (.cells #[.int .i64 p.i, .int .i64 p.n, .int .i64 p.d, .int .i64 p.t, .int .i64 p.s, .slice p.ma p.mn p.mc, .slice p.la p.ln p.lc, .slice p.ha p.hn p.hc, .slice p.aa p.an p.ac, .slice p.xa p.xn p.xc, .bool p.b, .slice la ln lc] 29))) := ⟨(Below.refl _ _).alloc (Nat.le_refl _) _⟩
 have HPX := Hk.mk (Bk.new w #[.int .i64 p.i, .int .i64 p.n, .int .i64 p.d, .int .i64 p.t, .int .i64 p.s, .slice p.ma p.mn p.mc, .slice p.la p.ln p.lc, .slice p.ha p.hn p.hc, .slice p.aa p.an p.ac, .slice p.xa p.xn p.xc, .bool p.b, .slice la ln lc] 29)
 have HDD : Hk (∀ X, Below w.heap.size w X → PvD X X.heap.size p) := ⟨fun X hX => h.later hX⟩
 have HAA : Hk (∀ X, Below w.heap.size w X → AsD X X.heap.size la ln l) := ⟨fun X hX => ha.later hX⟩
 have HP := Hk.mk hp
 have HLN := Hk.mk hl
 clear h hp hl ha hst
 go_enter Tryz.func17, Tryz.ntmps17
 go_upto_region 1 with fail
 generalize (w.alloc (.cells #[.int .i64 p.i, .int .i64 p.n, .int .i64 p.d, .int .i64 p.t, .int .i64 p.s, .slice p.ma p.mn p.mc, .slice p.la p.ln p.lc, .slice p.ha p.hn p.hc, .slice p.aa p.an p.ac, .slice p.xa p.xn p.xc, .bool p.b, .slice la ln lc] 29)) = V at *
 have c0 := HPX.out.c 0; have c1 := HPX.out.c 1; have c2 := HPX.out.c 2; have c3 := HPX.out.c 3; have c4 := HPX.out.c 4; have c5 := HPX.out.c 5; have c6 := HPX.out.c 6; have c7 := HPX.out.c 7; have c8 := HPX.out.c 8; have c9 := HPX.out.c 9; have c10 := HPX.out.c 10; have c11 := HPX.out.c 11; have cl := HPX.out.lt; simp at c0 c1 c2 c3 c4 c5 c6 c7 c8 c9 c10 c11
 go_upto_if 10 with (go_at_call 10; (with_reducible refine (heavy28_any p la ln lc l _ (HDD.out _ HBW.out) HP.out HLN.out (HAA.out _ HBW.out)).mono ?_); rintro e z ⟨hvy, rfl, hb, hh⟩; have HB := Hk.mk hb; clear hb)
 clear c0 c1 c2 c3 c4 c5 c6 c7 c8 c9 c10 c11 cl
 have HTR : Hk (∀ X, Below V.heap.size V X → Below w.heap.size w X) := ⟨fun X hX => HBW.out.trans (hX.mono HBW.out.size)⟩
 cases hvy
 ·obtain ⟨hs, -, -, hsm⟩ := hh.out rfl
  have HS := Hk.mk hs
  have HSM := Hk.mk hsm
  have HAV := Hk.mk (HAA.out V HBW.out)
  clear hs hsm hh HP HAA
  go_wp2
  go_loopw [5] (fun i wr => ∃ (j : Nat), i = .int .i64 j ∧ j ≤ ln ∧ j ≤ 12 ∧ Hk (Below V.heap.size V wr)) (fun i _ => ln - (intOf i).toNat)
  case atStart => exact ⟨0, rfl, Nat.zero_le _, by omega, HB⟩
  case round =>
   clear HB
   obtain ⟨j, rfl, hj, hj12, HB⟩ := hrel
   have HPY := Hk.mk (HPX.out.below HB.out)
   have c11 := HPY.out.c 11
   have cl := HPY.out.lt
   simp at c11
   by_cases hlt : j < ln
   ·by_cases h12 : j < 12
    ·have d12 : decide ((j : Int) < 12) = true := by rw [decide_eq_true_iff]; omega
     obtain ⟨q, hq⟩ : ∃ q, l.getD j default = q := ⟨_, rfl⟩
     obtain ⟨hqd, hqm, b, off, rfl, hbl, hcc⟩ := HAV.out.act hlt hq
     have HQ : Hk (∀ X, Below V.heap.size V X → AvD X X.heap.size q) := ⟨fun X hX => hqd.later hX⟩
     have HC1 := Hk.mk (HSM.out q hqm).1
     have HC2 := Hk.mk (HSM.out q hqm).2
     have cc := fun i hi => (HB.out.cell (p := ⟨b, off + j * 12 + i, none⟩) hbl).trans (hcc i hi)
     have k0 : wr.cell? ⟨b, off + j * 12, none⟩ = some (.int .i64 q.o) := cc 0 (by decide)
     have k1 : wr.cell? ⟨b, off + j * 12 + 1, none⟩ = some (.slice q.la q.ln q.lc) := cc 1 (by decide)
     have k2 : wr.cell? ⟨b, off + j * 12 + 2, none⟩ = some (.int .i64 q.e.f) := cc 2 (by decide)
     have k3 : wr.cell? ⟨b, off + j * 12 + 3, none⟩ = some (.int .i64 q.e.t) := cc 3 (by decide)
     have k4 : wr.cell? ⟨b, off + j * 12 + 4, none⟩ = some (.int .i64 q.e.q.t) := cc 4 (by decide)
     have k5 : wr.cell? ⟨b, off + j * 12 + 5, none⟩ = some (.int .i64 q.e.q.p) := cc 5 (by decide)
     have k6 : wr.cell? ⟨b, off + j * 12 + 6, none⟩ = some (.slice q.e.q.a q.e.q.n q.e.q.c) := cc 6 (by decide)
     have k7 : wr.cell? ⟨b, off + j * 12 + 7, none⟩ = some (.int .i64 q.e.d) := cc 7 (by decide)
     have k8 : wr.cell? ⟨b, off + j * 12 + 8, none⟩ = some (.int .u64 q.e.h) := cc 8 (by decide)
     have k9 : wr.cell? ⟨b, off + j * 12 + 9, none⟩ = some (.int .i64 q.e.v) := cc 9 (by decide)
     have k10 : wr.cell? ⟨b, off + j * 12 + 10, none⟩ = some (.bool q.b) := cc 10 (by decide)
     have k11 : wr.cell? ⟨b, off + j * 12 + 11, none⟩ = some (.int .u64 q.h) := cc 11 (by decide)
     have bl : b < wr.heap.size := Nat.lt_of_lt_of_le hbl HB.out.size
     have i1 : (0 : Int) ≤ (j : Int) := by omega
     have i2 : (j : Int) < (ln : Int) := by omega
     have HLT : Hk (j < ln ∧ j < 12) := ⟨hlt, h12⟩
     have gj : IntKind.i64.wrap ((j : Int) + 1) = ((j + 1 : Nat) : Int) := by push_cast; exact wr27 (by omega) (by omega)
     clear cc hcc hqd hqm hq hbl hj hj12 hlt h12
     go_upto_region 8 with fail
     have HA8 : Hk (Bk (wr.alloc (.cells #[.int .i64 r, .slice q.la q.ln q.lc, .int .i64 q.e.f, .int .i64 q.e.t, .int .i64 q.e.q.t, .int .i64 q.e.q.p, .slice q.e.q.a q.e.q.n q.e.q.c, .int .i64 q.e.d, .int .u64 q.e.h, .int .i64 q.e.v, .bool q.b, .int .u64 q.h] 45)) wr.heap.size #[.int .i64 r, .slice q.la q.ln q.lc, .int .i64 q.e.f, .int .i64 q.e.t, .int .i64 q.e.q.t, .int .i64 q.e.q.p, .slice q.e.q.a q.e.q.n q.e.q.c, .int .i64 q.e.d, .int .u64 q.e.h, .int .i64 q.e.v, .bool q.b, .int .u64 q.h]) := ⟨Bk.new wr #[.int .i64 r, .slice q.la q.ln q.lc, .int .i64 q.e.f, .int .i64 q.e.t, .int .i64 q.e.q.t, .int .i64 q.e.q.p, .slice q.e.q.a q.e.q.n q.e.q.c, .int .i64 q.e.d, .int .u64 q.e.h, .int .i64 q.e.v, .bool q.b, .int .u64 q.h] 45⟩
     have HB8 : Hk (Below V.heap.size V (wr.alloc (.cells #[.int .i64 r, .slice q.la q.ln q.lc, .int .i64 q.e.f, .int .i64 q.e.t, .int .i64 q.e.q.t, .int .i64 q.e.q.p, .slice q.e.q.a q.e.q.n q.e.q.c, .int .i64 q.e.d, .int .u64 q.e.h, .int .i64 q.e.v, .bool q.b, .int .u64 q.h] 45))) := ⟨kw_al HB.out (Nat.le_refl _) _⟩
     clear k0 k1 k2 k3 k4 k5 k6 k7 k8 k9 k10 k11 c11 cl bl i1 i2 HPY HB
     generalize wr.heap.size = A at *
     generalize (wr.alloc (.cells #[.int .i64 r, .slice q.la q.ln q.lc, .int .i64 q.e.f, .int .i64 q.e.t, .int .i64 q.e.q.t, .int .i64 q.e.q.p, .slice q.e.q.a q.e.q.n q.e.q.c, .int .i64 q.e.d, .int .u64 q.e.h, .int .i64 q.e.v, .bool q.b, .int .u64 q.h] 45)) = V8 at *
     have HPY := Hk.mk (HPX.out.below HB8.out)
     have y0 := HPY.out.c 0; have y1 := HPY.out.c 1; have y2 := HPY.out.c 2; have y3 := HPY.out.c 3; have y4 := HPY.out.c 4; have y5 := HPY.out.c 5; have y6 := HPY.out.c 6; have y7 := HPY.out.c 7; have y8 := HPY.out.c 8; have y9 := HPY.out.c 9; have y10 := HPY.out.c 10; have yl := HPY.out.lt; simp at y0 y1 y2 y3 y4 y5 y6 y7 y8 y9 y10
     have c0 := HA8.out.c 0; have c1 := HA8.out.c 1; have c2 := HA8.out.c 2; have c3 := HA8.out.c 3; have c4 := HA8.out.c 4; have c5 := HA8.out.c 5; have c6 := HA8.out.c 6; have c7 := HA8.out.c 7; have c8 := HA8.out.c 8; have c9 := HA8.out.c 9; have c10 := HA8.out.c 10; have c11 := HA8.out.c 11; have cl := HA8.out.lt; simp at c0 c1 c2 c3 c4 c5 c6 c7 c8 c9 c10 c11
     go_wp2_with (go_at_call 15; (with_reducible refine (HST.out q _ (HDD.out _ (HTR.out _ HB8.out)) HS.out ((HQ.out _ HB8.out)) HC1.out HC2.out).mono ?_); rintro e z9 ⟨⟨u, rfl⟩, hb⟩; have HB9 : Hk (Below V.heap.size V (z9.alloc (.cells #[.int .i64 u.i, .int .i64 u.n, .int .i64 u.d, .int .i64 u.t, .int .i64 u.s, .slice u.ma u.mn u.mc, .slice u.la u.ln u.lc, .slice u.ha u.hn u.hc, .slice u.aa u.an u.ac, .slice u.xa u.xn u.xc, .bool u.b] 26))) := ⟨kw_al (kw_step HB8.out (Nat.le_refl _) hb) (Nat.le_refl _) _⟩; clear hb)
     exact ⟨⟨j + 1, rfl, by have := HLT.out; omega, by have := HLT.out; omega, HB9⟩, by have := HLT.out; simp only [intOf]; omega⟩
    ·have d12 : decide ((j : Int) < 12) = false := by rw [decide_eq_false_iff_not]; omega
     have i2 : (j : Int) < (ln : Int) := by omega
     go_wp2_with (go_at_call 16; (with_reducible refine (wakes28_any _).mono ?_); rintro e z9 ⟨rfl, hb⟩; replace HB := Hk.mk (kw_step HB.out (Nat.le_refl _) hb); clear hb)
     go_ret
     exact ⟨rfl, HTR.out _ HB.out⟩
   ·obtain rfl : j = ln := by omega
    go_wp2_with (go_at_call 16; (with_reducible refine (wakes28_any _).mono ?_); rintro e z9 ⟨rfl, hb⟩; replace HB := Hk.mk (kw_step HB.out (Nat.le_refl _) hb); clear hb)
    go_ret
    exact ⟨rfl, HTR.out _ HB.out⟩
 ·go_wp2
  go_ret
  exact ⟨rfl, HTR.out _ HB.out⟩
end Go.Proofs.YtdpblimhfmfbnaaGreat
