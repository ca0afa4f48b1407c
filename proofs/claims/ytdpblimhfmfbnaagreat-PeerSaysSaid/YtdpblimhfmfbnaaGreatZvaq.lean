import Derived.Deep.QuietTactic
import Derived.BigQuiet
import Derived.Deep.RegionWith
import Derived.Deep.RegionHeld3
import Derived.Deep.DeepCutAuto
import Derived.Deep.DeepFit
import Derived.Outline
import Derived.Test.YtdpblimhfmfbnaaGreatZvap
import Derived.Test.YtdpblimhfmfbnaaGreatZvo
import Derived.Test.YtdpblimhfmfbnaaGreatZvg
import Derived.Test.YtdpblimhfmfbnaaGreatZvb
import Derived.Test.YtdpblimhfmfbnaaGreatZvan
import Derived.Test.YtdpblimhfmfbnaaGreatZvaa
import Derived.Test.YtdpblimhfmfbnaaGreatZva
import Derived.Test.YtdpblimhfmfbnaaGreatZvac
import Derived.Test.YtdpblimhfmfbnaaGreatZvad
set_option linter.unusedVariables false
set_option linter.unusedSimpArgs false
namespace Go.Proofs.YtdpblimhfmfbnaaGreat
open Go.ChangeShapes Go.WideShapes Go.ChangeAt Go.RowKit Go.Deep
section
variable {w : World} {B N3 N4 g k n' c' : Nat} {y : Int} {u' : List Int}
theorem fr_num (w : World) (g k : Nat) (y : Int) : Fr (fun j => j = g) w (w.setCell ⟨g, k, none⟩ (.int .i64 y)) := Fr.setCell (M := fun j => j = g) (p := ⟨g, k, none⟩) (Fr.refl _ w) (fun _ => rfl) _
theorem OwnI.num {n c : Nat} {a : Option Addr} {u : List Int} (h : OwnI w B (.slice a n c) n u) (hq : ∃ W0, Nq W0 N3 a n u) (o : OwnI w B (.slice (some ⟨g, 0, none⟩) n' c') n' u') (h3 : N3 ≤ g) : OwnI (w.setCell ⟨g, k, none⟩ (.int .i64 y)) B (.slice a n c) n u := by
 by_cases hn : n = 0
 ·subst hn
  obtain ⟨u2, h2⟩ := (Sn.setI o k y).p _ _ _ _ h
  have e1 := h2.1
  have e2 := h.1
  obtain rfl : u2 = u := by rw [List.eq_nil_of_length_eq_zero e1, List.eq_nil_of_length_eq_zero e2]
  exact h2
 ·obtain ⟨W0, hq⟩ := hq
  obtain ⟨b, off, e, hb, _⟩ := hq.rd (by omega)
  subst e
  exact Fr.owni h (fr_num w g k y) fun j hj e => by
   simp [Value.ownBlock] at hj
   omega
theorem OwE.num {n c : Nat} {a : Option Addr} {u : List Int} (h : OwE w B a n c u) (hq : ∃ W0, Nq W0 N3 a n u) (o : OwnI w B (.slice (some ⟨g, 0, none⟩) n' c') n' u') (h3 : N3 ≤ g) : OwE (w.setCell ⟨g, k, none⟩ (.int .i64 y)) B a n c u := h.imp (fun h => h.num hq o h3) id
theorem kt_num (o : OwnI w B (.slice (some ⟨g, 0, none⟩) n' c') n' u') (k : Nat) (y : Int) : Kt 3 B w (w.setCell ⟨g, k, none⟩ (.int .i64 y)) := by
 obtain ⟨cur, fr, e⟩ := o.typ (j := g) rfl
 exact Kt.set (o.lt g rfl).1 e k _
theorem OwC.num {n : Nat} {v : Value} {l : List Cv} (h : OwC w B v n l) (hq : ∀ x, x ∈ l → ∃ W0, Nq W0 N3 x.a x.m x.u) (o : OwnI w B (.slice (some ⟨g, 0, none⟩) n' c') n' u') (h3 : N3 ≤ g) : OwC (w.setCell ⟨g, k, none⟩ (.int .i64 y)) B v n l := ⟨(kt_num o k y).ow h.o (by decide), fun x hx => (h.u x hx).num (hq x hx) o h3⟩
theorem OwCE.num {n c : Nat} {a : Option Addr} {l : List Cv} (h : OwCE w B a n c l) (hq : (∃ W0, CmD W0 N3 a n l) ∨ OwCE w N4 a n c l) (o : OwnI w B (.slice (some ⟨g, 0, none⟩) n' c') n' u') (h3 : N3 ≤ g) (h4 : g < N4) (hB : B ≤ N4) : OwCE (w.setCell ⟨g, k, none⟩ (.int .i64 y)) B a n c l := by
 rcases hq with ⟨W0, hq⟩ | hq
 ·exact h.imp (fun h => h.num (fun x hx => ⟨W0, hq.u x hx⟩) o h3) id
 ·exact (hq.up (fr_num w g k y) (fun j hj e => by omega)).weak hB
theorem OwN.num {n : Nat} {v : Value} {l : List Iv} (h : OwN w B v n l) (hq : ∀ x, x ∈ l → (∃ W0, CmD W0 N3 x.a x.n x.l) ∨ OwCE w N4 x.a x.n x.c x.l) (o : OwnI w B (.slice (some ⟨g, 0, none⟩) n' c') n' u') (h3 : N3 ≤ g) (h4 : g < N4) (hB : B ≤ N4) : OwN (w.setCell ⟨g, k, none⟩ (.int .i64 y)) B v n l := ⟨(kt_num o k y).ow h.o (by decide), fun x hx => (h.u x hx).num (hq x hx) o h3 h4 hB⟩
theorem OwnI.put {n c : Nat} {u : List Int} (h : OwnI w B (.slice (some ⟨g, 0, none⟩) n c) n u) (k : Nat) (y : Int) : OwnI (w.setCell ⟨g, k, none⟩ (.int .i64 y)) B (.slice (some ⟨g, 0, none⟩) n c) n (u.set k y) := by
 refine ⟨by rw [List.length_set]; exact h.1, ?_⟩
 have := (h.2.stored k (.int .i64 y)).1
 rw [List.map_set]
 exact this
end
theorem PvO.has {w : World} {B N3 N4 g k : Nat} {y : Int} {p : Pv} (h : PvO w B p) (e : p.ha = some ⟨g, 0, none⟩) (hm : ∀ x, x ∈ p.ml → (∃ W0, CmD W0 N3 x.a x.n x.l) ∨ OwCE w N4 x.a x.n x.c x.l) (hl : ∀ x, x ∈ p.ll → (∃ W0, CmD W0 N3 x.a x.n x.l) ∨ OwCE w N4 x.a x.n x.c x.l) (ha : OwnI w N4 (.slice p.aa p.an p.ac) p.an p.al) (h3 : N3 ≤ g) (h4 : g < N4) (hB : B ≤ N4) : PvO (w.setCell ⟨g, k, none⟩ (.int .i64 y)) B { p with hl := p.hl.set k y } := by
 have o := h.h
 rw [e] at o
 refine ⟨h.m.num hm o h3 h4 hB, h.l.num hl o h3 h4 hB, ?_, (Fr.owni ha (fr_num w g k y) (fun j hj e => by have := (ha.lt j hj).1; omega)).weak hB, (kt_num o k y).ow h.x (by decide)⟩
 show OwnI _ B (.slice p.ha p.hn p.hc) p.hn (p.hl.set k y)
 rw [e]
 exact o.put k y
theorem PvO.acked {w : World} {B N4 N5 g k : Nat} {y : Int} {p : Pv} (h : PvO w B p) (e : p.aa = some ⟨g, 0, none⟩) (hm : ∀ x, x ∈ p.ml → (∃ W0, CmD W0 N4 x.a x.n x.l) ∨ OwCE w N5 x.a x.n x.c x.l) (hl : ∀ x, x ∈ p.ll → (∃ W0, CmD W0 N4 x.a x.n x.l) ∨ OwCE w N5 x.a x.n x.c x.l) (hh : ∃ W0 hl0, Nq W0 N4 p.ha p.hn hl0) (h3 : N4 ≤ g) (h4 : g < N5) (hB : B ≤ N5) : PvO (w.setCell ⟨g, k, none⟩ (.int .i64 y)) B { p with al := p.al.set k y } := by
 have o := h.a
 rw [e] at o
 have hq : ∃ W0, Nq W0 N4 p.ha p.hn p.hl := by
  obtain ⟨W0, hl0, hh⟩ := hh
  refine ⟨w, h.h.nq2.len, fun hn => ?_⟩
  obtain ⟨b, off, e1, _, hc⟩ := h.h.nq2.rd hn
  obtain ⟨b', off', e2, hb, _⟩ := hh.rd hn
  rw [e1] at e2
  injection e2 with e2
  injection e2 with e3 e4
  subst e3
  exact ⟨b, off, e1, hb, hc⟩
 refine ⟨h.m.num hm o h3 h4 hB, h.l.num hl o h3 h4 hB, h.h.num hq o h3, ?_, (kt_num o k y).ow h.x (by decide)⟩
 show OwnI _ B (.slice p.aa p.an p.ac) p.an (p.al.set k y)
 rw [e]
 exact o.put k y
end Go.Proofs.YtdpblimhfmfbnaaGreat
namespace Go.Proofs.YtdpblimhfmfbnaaGreat
open Go.ChangeShapes Go.WideShapes Go.ChangeAt Go.RowKit Go.Deep
theorem smC_like {L l : List Cv} (h : abC L = abC l) (h1 : ∀ x, x ∈ L → x.u.length = x.m) (h2 : ∀ x, x ∈ l → x.u.length = x.m) (hs : SmC l) : SmC L := ⟨by have e := congrArg List.length h; rw [abC_len, abC_len] at e; have := hs.n; omega, fun x hx => by
 have hm : x.ab ∈ abC L := List.mem_map_of_mem hx
 rw [h] at hm
 obtain ⟨y, hy, e⟩ := List.mem_map.1 hm
 have e2 : y.u = x.u := congrArg (fun c => c.f.u) e
 have := hs.m y hy
 rw [← h1 x hx, ← e2, h2 y hy]
 exact this⟩
def noneI : In := ⟨-1, 0, []⟩
def lackM (p : Pm) (k : Nat) : In := p.m.getD (p.a.getD k 0 - minL p.a).toNat noneI
def noteM (p : Pm) (k : Nat) : Nm := ⟨p.i, (k : Int) + 1, lackM p k, if p.x.length = 0 then -1 else p.t - 1, if p.x.length = 0 then 0 else p.x.getD (p.x.length - 1) 0, p.h.getD k 0⟩
def nsM (p : Pm) : Nat → List Nm
 | 0 => []
 | k + 1 => if (k : Int) + 1 = p.i then nsM p k else nsM p k ++ [noteM p k]
structure LkP (p : Pv) (k : Nat) (low ak : Int) : Prop where
 lo : minL p.al = low
 aq : p.al.getD k 0 = ak
 le : low ≤ ak
 l0 : 0 ≤ low
 l1 : ak ≤ 1099511627776
 mt : ∀ j, j < p.mn → (p.ml.getD j default).t = low + 1 + j
end Go.Proofs.YtdpblimhfmfbnaaGreat
namespace Go.Proofs.YtdpblimhfmfbnaaGreat
open Go.RowKit
structure Ty (w : World) (P : Nat) (T : TypeId) : Prop where
 ex : ∃ cs fr, w.heap[P]? = some (.cells cs T fr)
theorem Ty.lt {w : World} {P : Nat} {T : TypeId} (h : Ty w P T) : P < w.heap.size := by
 obtain ⟨cs, fr, h⟩ := h.ex; exact lt_of_block h
theorem Ty.new (w : World) (cs : Array Value) (T : TypeId) : Ty (w.alloc (.cells cs T)) w.heap.size T := ⟨cs, _, heap_alloc_new w _⟩
theorem Ty.of_block {w w' : World} {P : Nat} {T : TypeId} (h : Ty w P T) (e : w'.heap[P]? = w.heap[P]?) : Ty w' P T := by
 obtain ⟨cs, fr, h⟩ := h.ex; exact ⟨cs, fr, by rw [e]; exact h⟩
theorem Ty.al {w : World} {P : Nat} {T : TypeId} (h : Ty w P T) (o : Obj) : Ty (w.alloc o) P T := h.of_block (Below.heap_alloc w o P h.lt)
theorem Ty.below {w w' : World} {P : Nat} {T : TypeId} (h : Ty w P T) (hb : Below w.heap.size w w') : Ty w' P T := h.of_block (hb.block P h.lt)
theorem Ty.set {w : World} {P : Nat} {T : TypeId} (h : Ty w P T) (p : Addr) (v : Value) : Ty (w.setCell p v) P T := by
 by_cases e : P = p.block
 ·subst e
  have hlt := h.lt
  obtain ⟨cs, fr, h⟩ := h.ex
  have h' : w.heap[p.block] = .cells cs T fr := by simpa [Array.getElem?_eq_getElem hlt] using h
  refine ⟨(if p.spot.isSome then cs else cs.setIfInBounds p.off v), fr, ?_⟩
  show (w.heap.modify p.block _)[p.block]? = _
  rw [Array.getElem?_eq_getElem (by simpa using hlt), Array.getElem_modify_self, h']
 ·exact h.of_block (Below.heap_setCell _ _ _ _ e)
theorem Ty.grown {w w' : World} {P : Nat} {T : TypeId} {row : Option Nat} (h : Ty w P T) (hg : w.grownBy w' row) (hne : row ≠ some P) : Ty w' P T := h.of_block (hg.block P h.lt (fun e => hne e.symm))
theorem Bk.grown {w w' : World} {P : Nat} {cs : Array Value} {row : Option Nat} (h : Bk w P cs) (hg : w.grownBy w' row) (hne : row ≠ some P) : Bk w' P cs := by
 have hlt := h.lt
 obtain ⟨T, h⟩ := h.bl; exact ⟨T, by rw [hg.block P hlt (fun e => hne e.symm)]; exact h⟩
end Go.Proofs.YtdpblimhfmfbnaaGreat
namespace Go.Proofs.YtdpblimhfmfbnaaGreat
open List renaming getElem_toArray → jjA, getElem_cons_succ → jjB, getElem_cons_zero → jjC, setIfInBounds_toArray → jjD, set_cons_zero → jjE, set_cons_succ → jjF
open Go.ChangeShapes Go.WideShapes Go.ChangeAt Go.RowKit Go.Deep
def sayI (p : Pm) (c : List Cm) : In := ⟨p.s + 1, p.i, c⟩
def CcR (w : World) (B : Nat) (a : Option Addr) (n c : Nat) (L l : List Cv) : Prop := OwC w B (.slice a n c) n L ∧ abC L = abC l
theorem CcR.below {w z : World} {B n c : Nat} {a : Option Addr} {L l : List Cv} (h : CcR w B a n c L l) (hb : Below w.heap.size w z) : CcR z B a n c L l := ⟨h.1.below hb, h.2⟩
theorem CcR.oth {w z : World} {B n c P : Nat} {a : Option Addr} {L l : List Cv} (h : CcR w B a n c L l) (hf : Fr (fun q => q = P) w z) (ht : Ty w P 40) : CcR z B a n c L l := ⟨⟨h.1.o.fr hf fun j hj e => by
  subst e
  obtain ⟨cur, fr, e1⟩ := h.1.o.typ hj
  obtain ⟨cs, fr2, e2⟩ := ht.ex
  rw [e1] at e2
  injection e2 with e2
  injection e2 with _ e2
  exact absurd e2 (by decide), fun x hx => (h.1.u x hx).imp (fun k => Fr.owni k hf fun j hj e => by
  subst e
  obtain ⟨cur, fr, e1⟩ := k.typ hj
  obtain ⟨cs, fr2, e2⟩ := ht.ex
  rw [e1] at e2
  injection e2 with e2
  injection e2 with _ e2
  exact absurd e2 (by decide)) id⟩, h.2⟩
set_option maxRecDepth 100000 in
set_option maxHeartbeats 3200000 in
theorem rsay_state (p : Pv) (la : Option Addr) (ln lc : Nat) (w : World) (h : PvD w w.heap.size p) (hs : PvS p) (hk : OkP p.ab) (E : p.s = p.t + p.d - 1 ∨ p.s = 1099511627776) :
  Calls Tryz.prog 50 #[.agg (jjP p), .slice la ln lc] w fun e z => e = .returned (.tuple #[.agg (jjP p), .int .i64 10]) ∧ Below w.heap.size w z := by
 have HE := Hk.mk E
 clear E
 have HBW : Hk (Below w.heap.size w ((w.alloc (.cells (jjP p) 26)).alloc (.cells jjZ 26))) := ⟨((Below.refl _ _).alloc (Nat.le_refl _) _).alloc (by simp) _⟩
 have HPB : Hk (Bx ((w.alloc (.cells (jjP p) 26)).alloc (.cells jjZ 26)) w.heap.size p) := ⟨(Bx.new w p).al _⟩
 have e1 : (w.alloc (.cells (jjP p) 26)).heap.size = w.heap.size + 1 := by simp
 have HRB : Hk (Bx ((w.alloc (.cells (jjP p) 26)).alloc (.cells jjZ 26)) (w.heap.size + 1) nilV) := ⟨by rw [← e1]; exact Bx.new (w.alloc (.cells (jjP p) 26)) nilV⟩
 have HDP : Hk (∀ X, Below w.heap.size w X → PvD X X.heap.size p) := ⟨fun X hX => h.later hX⟩
 have HS := Hk.mk hs
 have g1 : IntKind.i64.wrap (p.t + p.d) = p.t + p.d := wr27 (by have := hk.c.t1; have := hk.c.d1; have e1 : p.ab.t = p.t := rfl; have e2 : p.ab.d = p.d := rfl; omega) (by have := hk.c.t2; have := hk.c.d2; have e1 : p.ab.t = p.t := rfl; have e2 : p.ab.d = p.d := rfl; omega)
 have g2 : IntKind.i64.wrap (p.t + p.d - 1) = p.t + p.d - 1 := wr27 (by have := hk.c.t1; have := hk.c.d1; have e1 : p.ab.t = p.t := rfl; have e2 : p.ab.d = p.d := rfl; omega) (by have := hk.c.t2; have := hk.c.d2; have e1 : p.ab.t = p.t := rfl; have e2 : p.ab.d = p.d := rfl; omega)
 have g3 : IntKind.i64.wrap (p.s + 1) = p.s + 1 := wr27 (by have := hk.c.s1; have := hk.c.d1; have e1 : p.ab.s = p.s := rfl; have e2 : p.ab.d = p.d := rfl; omega) (by have := hk.c.s3; have e1 : p.ab.s = p.s := rfl; omega)
 have HOK := Hk.mk hk
 clear e1 h hs hk
 go_enter Tryz.func50, Tryz.ntmps50
 go_upto_region 1 with fail
 generalize ((w.alloc (.cells (jjP p) 26)).alloc (.cells jjZ 26)) = V at *
 have y0 := HPB.out.bk.c 0; have y1 := HPB.out.bk.c 1; have y2 := HPB.out.bk.c 2; have y3 := HPB.out.bk.c 3; have y4 := HPB.out.bk.c 4; have y5 := HPB.out.bk.c 5; have y6 := HPB.out.bk.c 6; have y7 := HPB.out.bk.c 7; have y8 := HPB.out.bk.c 8; have y9 := HPB.out.bk.c 9; have y10 := HPB.out.bk.c 10; have yl := HPB.out.lt; simp at y0 y1 y2 y3 y4 y5 y6 y7 y8 y9 y10
 by_cases e1 : p.s = p.t + p.d - 1
 ·have f1 : (p.s == p.t + p.d - 1) = true := beq_iff_eq.2 e1
  clear e1
  go_upto_region 2 with fail
  have r0 := HRB.out.bk.c 0; have f0 := HRB.out.bk.f 0; have r1 := HRB.out.bk.c 1; have f1 := HRB.out.bk.f 1; have r2 := HRB.out.bk.c 2; have f2 := HRB.out.bk.f 2; have r3 := HRB.out.bk.c 3; have f3 := HRB.out.bk.f 3; have r4 := HRB.out.bk.c 4; have f4 := HRB.out.bk.f 4; have r5 := HRB.out.bk.c 5; have f5 := HRB.out.bk.f 5; have r6 := HRB.out.bk.c 6; have f6 := HRB.out.bk.f 6; have r7 := HRB.out.bk.c 7; have f7 := HRB.out.bk.f 7; have r8 := HRB.out.bk.c 8; have f8 := HRB.out.bk.f 8; have r9 := HRB.out.bk.c 9; have f9 := HRB.out.bk.f 9; have r10 := HRB.out.bk.c 10; have f10 := HRB.out.bk.f 10; have rl := HRB.out.lt; simp at r0 r1 r2 r3 r4 r5 r6 r7 r8 r9 r10
  have HFB := Hk.mk ((Kt.put (B := w.heap.size) HRB.out (by omega) p).bl)
  go_wp2
  refine bodyPost_ret (v := .tuple #[.agg (jjP p), .int .i64 10]) (by simp [results, Tryz.results50, go_sem, r0, r1, r2, r3, r4, r5, r6, r7, r8, r9, r10, f0, f1, f2, f3, f4, f5, f6, f7, f8, f9, f10]) rfl ⟨rfl, HBW.out.trans HFB.out⟩
 ·have f1 : (p.s == p.t + p.d - 1) = false := beq_eq_false_iff_ne.2 e1
  have f2 : (p.s == 1099511627776) = true := beq_iff_eq.2 (HE.out.resolve_left e1)
  clear e1
  go_upto_region 2 with fail
  have r0 := HRB.out.bk.c 0; have f0 := HRB.out.bk.f 0; have r1 := HRB.out.bk.c 1; have f1 := HRB.out.bk.f 1; have r2 := HRB.out.bk.c 2; have f2 := HRB.out.bk.f 2; have r3 := HRB.out.bk.c 3; have f3 := HRB.out.bk.f 3; have r4 := HRB.out.bk.c 4; have f4 := HRB.out.bk.f 4; have r5 := HRB.out.bk.c 5; have f5 := HRB.out.bk.f 5; have r6 := HRB.out.bk.c 6; have f6 := HRB.out.bk.f 6; have r7 := HRB.out.bk.c 7; have f7 := HRB.out.bk.f 7; have r8 := HRB.out.bk.c 8; have f8 := HRB.out.bk.f 8; have r9 := HRB.out.bk.c 9; have f9 := HRB.out.bk.f 9; have r10 := HRB.out.bk.c 10; have f10 := HRB.out.bk.f 10; have rl := HRB.out.lt; simp at r0 r1 r2 r3 r4 r5 r6 r7 r8 r9 r10
  have HFB := Hk.mk ((Kt.put (B := w.heap.size) HRB.out (by omega) p).bl)
  go_wp2
  refine bodyPost_ret (v := .tuple #[.agg (jjP p), .int .i64 10]) (by simp [results, Tryz.results50, go_sem, r0, r1, r2, r3, r4, r5, r6, r7, r8, r9, r10, f0, f1, f2, f3, f4, f5, f6, f7, f8, f9, f10]) rfl ⟨rfl, HBW.out.trans HFB.out⟩
set_option maxRecDepth 100000 in
set_option maxHeartbeats 3200000 in
theorem rsay_form (p : Pv) (la : Option Addr) (ln lc : Nat) (l : List Cv) (w : World) (h : PvD w w.heap.size p) (hs : PvS p) (hk : OkP p.ab) (hl : CmD w w.heap.size la ln l) (hsl : SmC l) (E : ¬ (p.s = p.t + p.d - 1 ∨ p.s = 1099511627776)) (EM : okN (sayI p.ab (abC l)) = false) :
  Calls Tryz.prog 50 #[.agg (jjP p), .slice la ln lc] w fun e z => e = .returned (.tuple #[.agg (jjP p), .int .i64 1]) ∧ Below w.heap.size w z := by
 have HEM : Hk (okN ⟨p.s + 1, p.i, abC l⟩ = false) := ⟨EM⟩
 have HSL := Hk.mk hsl
 have f1 : (p.s == p.t + p.d - 1) = false := beq_eq_false_iff_ne.2 fun e => E (.inl e)
 have f2 : (p.s == 1099511627776) = false := beq_eq_false_iff_ne.2 fun e => E (.inr e)
 have HLW := Hk.mk hl
 clear E EM hl hsl
 have HBW : Hk (Below w.heap.size w ((w.alloc (.cells (jjP p) 26)).alloc (.cells jjZ 26))) := ⟨((Below.refl _ _).alloc (Nat.le_refl _) _).alloc (by simp) _⟩
 have HPB : Hk (Bx ((w.alloc (.cells (jjP p) 26)).alloc (.cells jjZ 26)) w.heap.size p) := ⟨(Bx.new w p).al _⟩
 have e1 : (w.alloc (.cells (jjP p) 26)).heap.size = w.heap.size + 1 := by simp
 have HRB : Hk (Bx ((w.alloc (.cells (jjP p) 26)).alloc (.cells jjZ 26)) (w.heap.size + 1) nilV) := ⟨by rw [← e1]; exact Bx.new (w.alloc (.cells (jjP p) 26)) nilV⟩
 have HDP : Hk (∀ X, Below w.heap.size w X → PvD X X.heap.size p) := ⟨fun X hX => h.later hX⟩
 have HS := Hk.mk hs
 have g1 : IntKind.i64.wrap (p.t + p.d) = p.t + p.d := wr27 (by have := hk.c.t1; have := hk.c.d1; have e1 : p.ab.t = p.t := rfl; have e2 : p.ab.d = p.d := rfl; omega) (by have := hk.c.t2; have := hk.c.d2; have e1 : p.ab.t = p.t := rfl; have e2 : p.ab.d = p.d := rfl; omega)
 have g2 : IntKind.i64.wrap (p.t + p.d - 1) = p.t + p.d - 1 := wr27 (by have := hk.c.t1; have := hk.c.d1; have e1 : p.ab.t = p.t := rfl; have e2 : p.ab.d = p.d := rfl; omega) (by have := hk.c.t2; have := hk.c.d2; have e1 : p.ab.t = p.t := rfl; have e2 : p.ab.d = p.d := rfl; omega)
 have g3 : IntKind.i64.wrap (p.s + 1) = p.s + 1 := wr27 (by have := hk.c.s1; have := hk.c.d1; have e1 : p.ab.s = p.s := rfl; have e2 : p.ab.d = p.d := rfl; omega) (by have := hk.c.s3; have e1 : p.ab.s = p.s := rfl; omega)
 have HOK := Hk.mk hk
 clear e1 h hs hk
 go_enter Tryz.func50, Tryz.ntmps50
 go_upto_region 1 with fail
 generalize ((w.alloc (.cells (jjP p) 26)).alloc (.cells jjZ 26)) = V at *
 have y0 := HPB.out.bk.c 0; have y1 := HPB.out.bk.c 1; have y2 := HPB.out.bk.c 2; have y3 := HPB.out.bk.c 3; have y4 := HPB.out.bk.c 4; have y5 := HPB.out.bk.c 5; have y6 := HPB.out.bk.c 6; have y7 := HPB.out.bk.c 7; have y8 := HPB.out.bk.c 8; have y9 := HPB.out.bk.c 9; have y10 := HPB.out.bk.c 10; have yl := HPB.out.lt; simp at y0 y1 y2 y3 y4 y5 y6 y7 y8 y9 y10
 have HLD : Hk (CmD V V.heap.size la ln l) := ⟨HLW.out.later HBW.out⟩
 go_upto_region 3 with fail
 clear f1 f2
 have L0V : V.heap.size ≤ V.heap.size := Nat.le_refl _
 apply reg_merge
 intro HG4
 apply reg_merge
 intro HG3
 apply reg_merge
 intro HG2
 apply reg_merge
 intro HG1
 refine wp_region_held_drew (S := fun Z => (∀ b o, b < V.heap.size → Z.cell? ⟨b, o, none⟩ = V.cell? ⟨b, o, none⟩)) (by kernel_rfl) (fun _ _ _ => rfl) (fun hHeld => ?_)
 have HB : Hk (Below V.heap.size V V.drew) := ⟨(Below.refl _ _).drew⟩
 obtain ⟨WZ, hWe⟩ : ∃ WZ, V.drew = WZ := ⟨_, rfl⟩
 rw [hWe] at HB hHeld ⊢
 clear hWe
 have HI : Ix [0, 1, 2, 3, 4, 5] := trivial
 iterate 6 (refine tkA HI (v := ?_) rfl (by kernel_rfl) (fun _ _ _ h => h) (.inl ⟨by rfl, fun wX hSw => ?_⟩) hHeld (fun HJ => ?_); rotate_left; (focus ((try dsimp only at hSw); go_simp; try with_reducible rfl)); clear HI; have HI := HJ; clear HJ; try simp only [Act.put, jjA, jjB, jjC, jjD, jjE, jjF])
 clear HI
 refine wpAnyH_ready (rs := [6, 8]) (by kernel_rfl) (by simp) ?_
 refine AllReadyH.cons rfl (fun K hK => ?_) (AllReadyH.cons rfl (fun K hK => ?_) (AllReadyH.nil))
 ·skip
  go_simp
  ((go_at_call 51; (with_reducible refine (copycs_any la ln lc l _ (HLD.out.later HB.out) HSL.out).mono ?_); rintro e z ⟨v, L, rfl, ho, hab, hb⟩; obtain ⟨a2, c2, rfl⟩ := ho.form; have HCO : Hk (CcR z V.heap.size a2 ln c2 L l) := ⟨⟨ho.weak (kw_le HB.out L0V), hab⟩⟩; clear ho hab))
  replace HB := Hk.mk (kw_step HB.out L0V hb)
  clear hb
  refine hK.out _ _ ?_ (fun hHeld2 => ?_)
  ·exact kw_s HB.out
  clear hK K hHeld
  have hHeld := hHeld2
  clear hHeld2
  (try simp only [Act.put, jjA, jjB, jjC, jjD, jjE, jjF])
  have HI : Ix [7] := trivial
  (refine tkA HI (v := ?_) rfl (by kernel_rfl) (fun _ _ _ h => h) (.inl ⟨by rfl, fun wX hSw => ?_⟩) hHeld (fun HJ => ?_); rotate_left; (focus ((try dsimp only at hSw); go_simp; try with_reducible rfl)); clear HI; have HI := HJ; clear HJ; try simp only [Act.put, jjA, jjB, jjC, jjD, jjE, jjF])
  clear HI
  refine reg_cast (l' := #[true, true, true, true, true, true, true, true, false, false]) (by kernel_rfl) ?_
  revert hHeld
  revert HCO
  revert HB
  revert L
  revert c2
  revert a2
  revert z
  exact HG1.out
 ·skip
  go_simp
  have L_Xi := kw_le HB.out L0V
  have HT_Xi := Hk.mk (Ty.new WZ #[.int .i64 0, .int .i64 0, .slice none 0 0] 40)
  have HP_Xi : Hk (Bk _ _ #[.int .i64 0, .int .i64 0, .slice none 0 0]) := ⟨Bk.new WZ #[.int .i64 0, .int .i64 0, .slice none 0 0] 40⟩
  replace HB := Hk.mk (kw_al HB.out L0V (.cells #[.int .i64 0, .int .i64 0, .slice none 0 0] 40))
  refine hK.out _ _ ?_ (fun hHeld2 => ?_)
  ·exact kw_s HB.out
  clear hK K hHeld
  have hHeld := hHeld2
  clear hHeld2
  (try simp only [Act.put, jjA, jjB, jjC, jjD, jjE, jjF])
  generalize WZ.heap.size = Xi at *
  generalize WZ.alloc (.cells #[.int .i64 0, .int .i64 0, .slice none 0 0] 40) = WZx at *
  refine reg_cast (l' := #[true, true, true, true, true, true, false, false, true, false]) (by kernel_rfl) ?_
  revert hHeld
  revert L_Xi
  revert HT_Xi
  revert HP_Xi
  revert HB
  revert Xi
  revert WZx
  exact HG2.out
 intro WZ a2 c2 L HB HCO hHeld
 refine wpAnyH_ready (rs := [8]) (by kernel_rfl) (by simp) ?_
 refine AllReadyH.cons rfl (fun K hK => ?_) (AllReadyH.nil)
 ·skip
  go_simp
  have hb := kw_al (Below.refl WZ.heap.size WZ) (Nat.le_refl _) (.cells #[.int .i64 0, .int .i64 0, .slice none 0 0] 40)
  replace HCO := Hk.mk (HCO.out.below hb)
  clear hb
  have L_Xi := kw_le HB.out L0V
  have HT_Xi := Hk.mk (Ty.new WZ #[.int .i64 0, .int .i64 0, .slice none 0 0] 40)
  have HP_Xi : Hk (Bk _ _ #[.int .i64 0, .int .i64 0, .slice none 0 0]) := ⟨Bk.new WZ #[.int .i64 0, .int .i64 0, .slice none 0 0] 40⟩
  replace HB := Hk.mk (kw_al HB.out L0V (.cells #[.int .i64 0, .int .i64 0, .slice none 0 0] 40))
  refine hK.out _ _ ?_ (fun hHeld2 => ?_)
  ·exact kw_s HB.out
  clear hK K hHeld
  have hHeld := hHeld2
  clear hHeld2
  (try simp only [Act.put, jjA, jjB, jjC, jjD, jjE, jjF])
  generalize WZ.heap.size = Xi at *
  generalize WZ.alloc (.cells #[.int .i64 0, .int .i64 0, .slice none 0 0] 40) = WZx at *
  refine reg_cast (l' := #[true, true, true, true, true, true, true, true, true, false]) (by kernel_rfl) ?_
  revert hHeld
  revert HCO
  revert L_Xi
  revert HT_Xi
  revert HP_Xi
  revert HB
  revert L
  revert c2
  revert a2
  revert Xi
  revert WZx
  exact HG3.out
 intro WZ Xi HB HP_Xi HT_Xi L_Xi hHeld
 refine wpAnyH_ready (rs := [6]) (by kernel_rfl) (by simp) ?_
 refine AllReadyH.cons rfl (fun K hK => ?_) (AllReadyH.nil)
 ·skip
  go_simp
  ((go_at_call 51; (with_reducible refine (copycs_any la ln lc l _ (HLD.out.later HB.out) HSL.out).mono ?_); rintro e z ⟨v, L, rfl, ho, hab, hb⟩; obtain ⟨a2, c2, rfl⟩ := ho.form; have HCO : Hk (CcR z V.heap.size a2 ln c2 L l) := ⟨⟨ho.weak (kw_le HB.out L0V), hab⟩⟩; clear ho hab))
  replace HP_Xi := Hk.mk (HP_Xi.out.below hb)
  replace HT_Xi := Hk.mk (HT_Xi.out.below hb)
  replace HB := Hk.mk (kw_step HB.out L0V hb)
  clear hb
  refine hK.out _ _ ?_ (fun hHeld2 => ?_)
  ·exact kw_s HB.out
  clear hK K hHeld
  have hHeld := hHeld2
  clear hHeld2
  (try simp only [Act.put, jjA, jjB, jjC, jjD, jjE, jjF])
  have HI : Ix [7] := trivial
  (refine tkA HI (v := ?_) rfl (by kernel_rfl) (fun _ _ _ h => h) (.inl ⟨by rfl, fun wX hSw => ?_⟩) hHeld (fun HJ => ?_); rotate_left; (focus ((try dsimp only at hSw); go_simp; try with_reducible rfl)); clear HI; have HI := HJ; clear HJ; try simp only [Act.put, jjA, jjB, jjC, jjD, jjE, jjF])
  clear HI
  refine reg_cast (l' := #[true, true, true, true, true, true, true, true, true, false]) (by kernel_rfl) ?_
  revert hHeld
  revert HCO
  revert L_Xi
  revert HT_Xi
  revert HP_Xi
  revert HB
  revert L
  revert c2
  revert a2
  revert Xi
  revert z
  exact HG3.out
 intro WZ Xi a2 c2 L HB HP_Xi HT_Xi L_Xi HCO hHeld
 refine wpAnyH_ready (rs := [9]) (by kernel_rfl) (by simp) ?_
 refine AllReadyH.cons rfl (fun K hK => ?_) (AllReadyH.nil)
 ·skip
  have st_c0 : WZ.cell? ⟨Xi, 0, none⟩ = some (.int .i64 0) := HP_Xi.out.c 0
  have st_f0 : WZ.frozen? ⟨Xi, 0, none⟩ = false := HP_Xi.out.f 0
  have st_c1 : WZ.cell? ⟨Xi, 1, none⟩ = some (.int .i64 0) := HP_Xi.out.c 1
  have st_f1 : WZ.frozen? ⟨Xi, 1, none⟩ = false := HP_Xi.out.f 1
  have st_c2 : WZ.cell? ⟨Xi, 2, none⟩ = some (.slice none 0 0) := HP_Xi.out.c 2
  have st_f2 : WZ.frozen? ⟨Xi, 2, none⟩ = false := HP_Xi.out.f 2
  go_simp
  clear st_c0 st_f0
  clear st_c1 st_f1
  clear st_c2 st_f2
  replace HP_Xi : Hk (Bk _ Xi #[.int .i64 (p.s + 1), .int .i64 p.i, .slice a2 ln c2]) := ⟨(Bk.set ((Bk.set ((Bk.set (HP_Xi.out) 0 (.int .i64 (p.s + 1)))) 1 (.int .i64 p.i))) 2 (.slice a2 ln c2))⟩
  have hfr := (show Fr (fun q => q = Xi) WZ _ from (Fr.setCell (p := ⟨Xi, 2, none⟩) ((Fr.setCell (p := ⟨Xi, 1, none⟩) ((Fr.setCell (p := ⟨Xi, 0, none⟩) ((Fr.refl (fun q => q = Xi) WZ)) (fun _ => rfl) (.int .i64 (p.s + 1)))) (fun _ => rfl) (.int .i64 p.i))) (fun _ => rfl) (.slice a2 ln c2)))
  replace HCO := Hk.mk (HCO.out.oth hfr HT_Xi.out)
  clear hfr
  replace HT_Xi := Hk.mk (Ty.set ((Ty.set ((Ty.set (HT_Xi.out) ⟨Xi, 0, none⟩ (.int .i64 (p.s + 1)))) ⟨Xi, 1, none⟩ (.int .i64 p.i))) ⟨Xi, 2, none⟩ (.slice a2 ln c2))
  replace HB := Hk.mk (Below.setCell (p := ⟨Xi, 2, none⟩) ((Below.setCell (p := ⟨Xi, 1, none⟩) ((Below.setCell (p := ⟨Xi, 0, none⟩) (HB.out) L_Xi (.int .i64 (p.s + 1)))) L_Xi (.int .i64 p.i))) L_Xi (.slice a2 ln c2))
  refine hK.out _ _ ?_ (fun hHeld2 => ?_)
  ·exact kw_s HB.out
  clear hK K hHeld
  have hHeld := hHeld2
  clear hHeld2
  (try simp only [Act.put, jjA, jjB, jjC, jjD, jjE, jjF])
  generalize (World.setCell (World.setCell (World.setCell WZ ⟨Xi, 0, none⟩ (.int .i64 (p.s + 1))) ⟨Xi, 1, none⟩ (.int .i64 p.i)) ⟨Xi, 2, none⟩ (.slice a2 ln c2)) = WZx at *
  refine reg_cast (l' := #[true, true, true, true, true, true, true, true, true, true]) (by kernel_rfl) ?_
  revert hHeld
  revert HCO
  revert L_Xi
  revert HT_Xi
  revert HP_Xi
  revert HB
  revert L
  revert c2
  revert a2
  revert Xi
  revert WZx
  exact HG4.out
 intro WZ Xi a2 c2 L HB HP_Xi HT_Xi L_Xi HCO hHeld
 refine wpAnyH_done (by kernel_rfl) ?_ _
 clear hHeld g1 g2 g3
 have HP4 := Hk.mk (HPB.out.below HB.out)
 have HR4 := Hk.mk (HRB.out.below HB.out)
 have HB4 := Hk.mk (HBW.out.trans (HB.out.mono HBW.out.size))
 have HXI := HP_Xi
 have HTX := HT_Xi
 have HVL : Hk (w.heap.size ≤ V.heap.size) := ⟨HBW.out.size⟩
 have HXV := Hk.mk L_Xi
 clear y0 y1 y2 y3 y4 y5 y6 y7 y8 y9 y10 yl
 clear HPB HRB HBW HB HP_Xi HT_Xi L_Xi
 have HPB := HP4
 have HRB := HR4
 have HBW := HB4
 clear HP4 HR4 HB4
 have HCD := Hk.mk HCO.out.1.d
 have HCA : Hk (abC L = abC l) := ⟨HCO.out.2⟩
 have HSC : Hk (SmC L) := ⟨smC_like HCO.out.2 (fun x hx => (HCO.out.1.u x hx).nq.len) (fun x hx => (HLW.out.u x hx).len) HSL.out⟩
 have y0 := HPB.out.bk.c 0; have y1 := HPB.out.bk.c 1; have y2 := HPB.out.bk.c 2; have y3 := HPB.out.bk.c 3; have y4 := HPB.out.bk.c 4; have y5 := HPB.out.bk.c 5; have y6 := HPB.out.bk.c 6; have y7 := HPB.out.bk.c 7; have y8 := HPB.out.bk.c 8; have y9 := HPB.out.bk.c 9; have y10 := HPB.out.bk.c 10; have yl := HPB.out.lt; simp at y0 y1 y2 y3 y4 y5 y6 y7 y8 y9 y10
 have i0 := HXI.out.c 0
 have i1 := HXI.out.c 1
 have i2 := HXI.out.c 2
 have il := HXI.out.lt
 simp at i0 i1 i2
 go_upto_region 5 with (go_at_call 65; (with_reducible refine (rmay27_as false (p.s + 1) p.i a2 ln c2 L _ HCD.out HSC.out ⟨by rw [HCA.out]; exact HEM.out⟩).mono ?_); rintro e z ⟨rfl, hb⟩; have HP9 := Hk.mk (HPB.out.below hb); have HR9 := Hk.mk (HRB.out.below hb); have HB9 := Hk.mk (HBW.out.trans (hb.mono HBW.out.size)); clear hb HPB HRB HBW; clear y0 y1 y2 y3 y4 y5 y6 y7 y8 y9 y10 yl; have HPB := HP9; have HRB := HR9; have HBW := HB9; clear HP9 HR9 HB9; have y0 := HPB.out.bk.c 0; have y1 := HPB.out.bk.c 1; have y2 := HPB.out.bk.c 2; have y3 := HPB.out.bk.c 3; have y4 := HPB.out.bk.c 4; have y5 := HPB.out.bk.c 5; have y6 := HPB.out.bk.c 6; have y7 := HPB.out.bk.c 7; have y8 := HPB.out.bk.c 8; have y9 := HPB.out.bk.c 9; have y10 := HPB.out.bk.c 10; have yl := HPB.out.lt; simp at y0 y1 y2 y3 y4 y5 y6 y7 y8 y9 y10)
 have r0 := HRB.out.bk.c 0; have f0 := HRB.out.bk.f 0; have r1 := HRB.out.bk.c 1; have f1 := HRB.out.bk.f 1; have r2 := HRB.out.bk.c 2; have f2 := HRB.out.bk.f 2; have r3 := HRB.out.bk.c 3; have f3 := HRB.out.bk.f 3; have r4 := HRB.out.bk.c 4; have f4 := HRB.out.bk.f 4; have r5 := HRB.out.bk.c 5; have f5 := HRB.out.bk.f 5; have r6 := HRB.out.bk.c 6; have f6 := HRB.out.bk.f 6; have r7 := HRB.out.bk.c 7; have f7 := HRB.out.bk.f 7; have r8 := HRB.out.bk.c 8; have f8 := HRB.out.bk.f 8; have r9 := HRB.out.bk.c 9; have f9 := HRB.out.bk.f 9; have r10 := HRB.out.bk.c 10; have f10 := HRB.out.bk.f 10; have rl := HRB.out.lt; simp at r0 r1 r2 r3 r4 r5 r6 r7 r8 r9 r10
 have HFB := Hk.mk ((Kt.put (B := w.heap.size) HRB.out (by omega) p).bl)
 go_wp2
 refine bodyPost_ret (v := .tuple #[.agg (jjP p), .int .i64 1]) (by simp [results, Tryz.results50, go_sem, r0, r1, r2, r3, r4, r5, r6, r7, r8, r9, r10, f0, f1, f2, f3, f4, f5, f6, f7, f8, f9, f10]) rfl ⟨rfl, HBW.out.trans HFB.out⟩
end Go.Proofs.YtdpblimhfmfbnaaGreat
namespace Go.Proofs.YtdpblimhfmfbnaaGreat
open List renaming getElem_toArray → jjA, getElem_cons_succ → jjB, getElem_cons_zero → jjC, setIfInBounds_toArray → jjD, set_cons_zero → jjE, set_cons_succ → jjF
open Go.ChangeShapes Go.WideShapes Go.ChangeAt Go.RowKit Go.Deep
def sayM (p : Pm) (c : List Cm) (M : List In) : Pm := { p with l := M, m := if 1 < p.n then p.m ++ [sayI p c] else p.m, s := p.s + 1, h := p.h.set (p.i.toNat - 1) (p.s + 1), a := p.a.set (p.i.toNat - 1) (p.s + 1) }
theorem Ow.spare {α : Type} {S : Sh α} {T : TypeId} {w : World} {base n c : Nat} {a : Option Addr} {l : List α} (h : Ow S T w base (.slice a n c) n l) : n ≤ c ∧ c ≤ 9223372036854775807 ∧ ((a = none ∧ n = 0 ∧ c = 0) ∨ ∃ g off, a = some ⟨g, off, none⟩) := by
 rcases h.row.2 with ⟨e, h0⟩ | ⟨g, cap, cur, e, hb, hh, hc, hm, _⟩
 ·injection e with e1 e2 e3
  subst e1 e3
  exact ⟨by omega, by omega, .inl ⟨rfl, h0, rfl⟩⟩
 ·injection e with e1 e2 e3
  subst e1 e3
  exact ⟨hc, by unfold maxLen at hm; omega, .inr ⟨g, 0, rfl⟩⟩
theorem smI_put {M2 ll : List Iv} {L : List Cv} {s i : Int} {M : List In} (hp : M.length = (abI ll).length + 1 ∧ ∀ y, y ∈ M → y = ⟨s, i, abC L⟩ ∨ y ∈ abI ll) (ha : abI M2 = M) (hM : ∀ x, x ∈ M2 → ∀ c, c ∈ x.l → c.u.length = c.m) (hl : ∀ x, x ∈ ll → ∀ c, c ∈ x.l → c.u.length = c.m) (hL : ∀ c, c ∈ L → c.u.length = c.m) (hs : SmI ll) (hsL : SmC L) (hn : ll.length + 1 ≤ 1048576) : SmI M2 := ⟨by
 have e := congrArg List.length ha
 rw [abI_len] at e
 have := hp.1
 rw [abI_len] at this
 omega, fun x hx => by
 have hm : x.ab ∈ abI M2 := List.mem_map_of_mem hx
 rw [ha] at hm
 rcases hp.2 _ hm with h | h
 ·exact smC_like (congrArg In.l h : abC x.l = abC L) (hM x hx) hL hsL
 ·obtain ⟨y, hy, e⟩ := List.mem_map.1 h
  exact smC_like (congrArg In.l e : abC y.l = abC x.l).symm (hM x hx) (hl y hy) (hs.m y hy)⟩
theorem smI_snoc {l : List Iv} {x : Iv} (h : SmI l) (hx : SmC x.l) (hn : l.length + 1 ≤ 1048576) : SmI (l ++ [x]) := ⟨by rw [List.length_append]; exact hn, fun y hy => by
 rcases List.mem_append.1 hy with hy | hy
 ·exact h.m y hy
 ·obtain rfl := List.mem_singleton.1 hy
  exact hx⟩
theorem HKI5 {B n c n' : Nat} {a : Option Addr} {v : Value} {xs : List Value} {L : List Cv} {V5 z5 W z9 : World} {o : Obj} (k : Kt 40 B W z9) (hg : W.grownBy z9 v.ownBlock) (hr : W.ownsRow B 40 3 v n' xs) (ho : OwC z5 V5.drew.heap.size (.slice a n c) n L) (hz : Below V5.heap.size V5 z5) (hW : W = z5.alloc o := by rfl) : OwCE z9 V5.heap.size a n c L := by
 subst hW
 have h1 : OwC (z5.alloc o) V5.heap.size (.slice a n c) n L := ho.below (below_al _ _)
 have hf : Fr (fun j => v.ownBlock = some j) (z5.alloc o) z9 := (Fr.refl _ _).grown hg (fun j _ e => e)
 have ht : ∀ j cur T fr, (z5.alloc o).heap[j]? = some (Obj.cells cur T fr) → v.ownBlock = some j → T = 40 := fun j cur T fr e hj => by
  rcases hr.2 with ⟨rfl, _⟩ | ⟨g, cap, cur', rfl, hb, hh, _⟩
  ·simp [Value.ownBlock] at hj
  ·simp [Value.ownBlock] at hj
   subst hj
   rw [hh] at e
   injection e with e
   injection e with _ e
   exact e.symm
 refine .inl ⟨h1.o.fr hf fun j hj e => ?_, fun x hx => (h1.u x hx).imp (fun q => Fr.owni q hf fun j hj e => ?_) id⟩
 ·obtain ⟨cur, fr, e1⟩ := h1.o.typ hj
  exact absurd (ht j _ _ _ e1 e) (by decide)
 ·obtain ⟨cur, fr, e1⟩ := q.typ hj
  exact absurd (ht j _ _ _ e1 e) (by decide)
theorem OwnI.base {w : World} {B N g n c : Nat} {u : List Int} (h : OwnI w B (.slice (some ⟨g, 0, none⟩) n c) n u) (hN : N ≤ g) : OwnI w N (.slice (some ⟨g, 0, none⟩) n c) n u := ⟨h.1, h.2.1, by
 rcases h.2.2 with ⟨e, _⟩ | ⟨g', cap, cur, e, hb, r⟩
 ·cases e
 ·injection e with e1 e2 e3
  injection e1 with e1
  injection e1 with e1
  subst e1 e3
  exact .inr ⟨g, c, cur, rfl, hN, r⟩⟩
set_option maxRecDepth 100000 in
set_option maxHeartbeats 6400000 in
theorem rsay_yes (p : Pv) (la : Option Addr) (ln lc : Nat) (l : List Cv) (M : List In) (w : World) (h : PvD w w.heap.size p) (hs : PvS p) (hk : OkP p.ab) (hl : CmD w w.heap.size la ln l) (hsl : SmC l) (E : ¬ (p.s = p.t + p.d - 1 ∨ p.s = 1099511627776)) (EM : okN (sayI p.ab (abC l)) = true) (EP : putN (sayI p.ab (abC l)) p.ab.l = some M) (hmn : p.mn + 1 ≤ 1048576) (hln : p.ln + 1 ≤ 1048576) :
  Calls Tryz.prog 50 #[.agg (jjP p), .slice la ln lc] w fun e z => ∃ q : Pv, e = .returned (.tuple #[.agg (jjP q), .int .i64 0]) ∧ PvO z w.heap.size q ∧ q.ab = sayM p.ab (abC l) M ∧ PvS q ∧ Below w.heap.size w z := by
 obtain ⟨ii, hii, hiz0, hiz1, hiz2⟩ := info_parts info_in
 have HEM : Hk (okN ⟨p.s + 1, p.i, abC l⟩ = true) := ⟨EM⟩
 have HEQ : Hk (putN ⟨p.s + 1, p.i, abC l⟩ (abI p.ll) = some M) := ⟨EP⟩
 have HSL := Hk.mk hsl
 have f1 : (p.s == p.t + p.d - 1) = false := beq_eq_false_iff_ne.2 fun e => E (.inl e)
 have f2 : (p.s == 1099511627776) = false := beq_eq_false_iff_ne.2 fun e => E (.inr e)
 have HLW := Hk.mk hl
 have HMN := Hk.mk hmn
 have HLN2 := Hk.mk hln
 clear E EM EP hl hsl hmn hln
 have HBW : Hk (Below w.heap.size w ((w.alloc (.cells (jjP p) 26)).alloc (.cells jjZ 26))) := ⟨((Below.refl _ _).alloc (Nat.le_refl _) _).alloc (by simp) _⟩
 have HPB : Hk (Bx ((w.alloc (.cells (jjP p) 26)).alloc (.cells jjZ 26)) w.heap.size p) := ⟨(Bx.new w p).al _⟩
 have e1 : (w.alloc (.cells (jjP p) 26)).heap.size = w.heap.size + 1 := by simp
 have HRB : Hk (Bx ((w.alloc (.cells (jjP p) 26)).alloc (.cells jjZ 26)) (w.heap.size + 1) nilV) := ⟨by rw [← e1]; exact Bx.new (w.alloc (.cells (jjP p) 26)) nilV⟩
 have HDP : Hk (∀ X, Below w.heap.size w X → PvD X X.heap.size p) := ⟨fun X hX => h.later hX⟩
 have HS := Hk.mk hs
 have g1 : IntKind.i64.wrap (p.t + p.d) = p.t + p.d := wr27 (by have := hk.c.t1; have := hk.c.d1; have e1 : p.ab.t = p.t := rfl; have e2 : p.ab.d = p.d := rfl; omega) (by have := hk.c.t2; have := hk.c.d2; have e1 : p.ab.t = p.t := rfl; have e2 : p.ab.d = p.d := rfl; omega)
 have g2 : IntKind.i64.wrap (p.t + p.d - 1) = p.t + p.d - 1 := wr27 (by have := hk.c.t1; have := hk.c.d1; have e1 : p.ab.t = p.t := rfl; have e2 : p.ab.d = p.d := rfl; omega) (by have := hk.c.t2; have := hk.c.d2; have e1 : p.ab.t = p.t := rfl; have e2 : p.ab.d = p.d := rfl; omega)
 have g3 : IntKind.i64.wrap (p.s + 1) = p.s + 1 := wr27 (by have := hk.c.s1; have := hk.c.d1; have e1 : p.ab.s = p.s := rfl; have e2 : p.ab.d = p.d := rfl; omega) (by have := hk.c.s3; have e1 : p.ab.s = p.s := rfl; omega)
 have HOK := Hk.mk hk
 clear e1 h hs hk
 go_enter Tryz.func50, Tryz.ntmps50
 go_upto_region 1 with fail
 generalize ((w.alloc (.cells (jjP p) 26)).alloc (.cells jjZ 26)) = V at *
 obtain ⟨y0, y1, y2, y3, y4, y5, y6, y7, y8, y9, y10, yl⟩ := HPB.out.cs
 have HLD : Hk (CmD V V.heap.size la ln l) := ⟨HLW.out.later HBW.out⟩
 go_upto_region 3 with fail
 clear f1 f2
 have L0V : V.heap.size ≤ V.heap.size := Nat.le_refl _
 apply reg_merge
 intro HG4
 apply reg_merge
 intro HG3
 apply reg_merge
 intro HG2
 apply reg_merge
 intro HG1
 refine wp_region_held_drew (S := fun Z => (∀ b o, b < V.heap.size → Z.cell? ⟨b, o, none⟩ = V.cell? ⟨b, o, none⟩)) (by kernel_rfl) (fun _ _ _ => rfl) (fun hHeld => ?_)
 have HB : Hk (Below V.heap.size V V.drew) := ⟨(Below.refl _ _).drew⟩
 obtain ⟨WZ, hWe⟩ : ∃ WZ, V.drew = WZ := ⟨_, rfl⟩
 rw [hWe] at HB hHeld ⊢
 clear hWe
 have HI : Ix [0, 1, 2, 3, 4, 5] := trivial
 iterate 6 (refine tkA HI (v := ?_) rfl (by kernel_rfl) (fun _ _ _ h => h) (.inl ⟨by rfl, fun wX hSw => ?_⟩) hHeld (fun HJ => ?_); rotate_left; (focus ((try dsimp only at hSw); go_simp; try with_reducible rfl)); clear HI; have HI := HJ; clear HJ; try simp only [Act.put, jjA, jjB, jjC, jjD, jjE, jjF])
 clear HI
 refine wpAnyH_ready (rs := [6, 8]) (by kernel_rfl) (by simp) ?_
 refine AllReadyH.cons rfl (fun K hK => ?_) (AllReadyH.cons rfl (fun K hK => ?_) (AllReadyH.nil))
 ·skip
  go_simp
  ((go_at_call 51; (with_reducible refine (copycs_any la ln lc l _ (HLD.out.later HB.out) HSL.out).mono ?_); rintro e z ⟨v, L, rfl, ho, hab, hb⟩; obtain ⟨a2, c2, rfl⟩ := ho.form; have HCO : Hk (CcR z V.heap.size a2 ln c2 L l) := ⟨⟨ho.weak (kw_le HB.out L0V), hab⟩⟩; clear ho hab))
  replace HB := Hk.mk (kw_step HB.out L0V hb)
  clear hb
  refine hK.out _ _ ?_ (fun hHeld2 => ?_)
  ·exact kw_s HB.out
  clear hK K hHeld
  have hHeld := hHeld2
  clear hHeld2
  (try simp only [Act.put, jjA, jjB, jjC, jjD, jjE, jjF])
  have HI : Ix [7] := trivial
  (refine tkA HI (v := ?_) rfl (by kernel_rfl) (fun _ _ _ h => h) (.inl ⟨by rfl, fun wX hSw => ?_⟩) hHeld (fun HJ => ?_); rotate_left; (focus ((try dsimp only at hSw); go_simp; try with_reducible rfl)); clear HI; have HI := HJ; clear HJ; try simp only [Act.put, jjA, jjB, jjC, jjD, jjE, jjF])
  clear HI
  refine reg_cast (l' := #[true, true, true, true, true, true, true, true, false, false]) (by kernel_rfl) ?_
  revert hHeld
  revert HCO
  revert HB
  revert L
  revert c2
  revert a2
  revert z
  exact HG1.out
 ·skip
  go_simp
  have L_Xi := kw_le HB.out L0V
  have HT_Xi := Hk.mk (Ty.new WZ #[.int .i64 0, .int .i64 0, .slice none 0 0] 40)
  have HP_Xi : Hk (Bk _ _ #[.int .i64 0, .int .i64 0, .slice none 0 0]) := ⟨Bk.new WZ #[.int .i64 0, .int .i64 0, .slice none 0 0] 40⟩
  replace HB := Hk.mk (kw_al HB.out L0V (.cells #[.int .i64 0, .int .i64 0, .slice none 0 0] 40))
  refine hK.out _ _ ?_ (fun hHeld2 => ?_)
  ·exact kw_s HB.out
  clear hK K hHeld
  have hHeld := hHeld2
  clear hHeld2
  (try simp only [Act.put, jjA, jjB, jjC, jjD, jjE, jjF])
  generalize WZ.heap.size = Xi at *
  generalize WZ.alloc (.cells #[.int .i64 0, .int .i64 0, .slice none 0 0] 40) = WZx at *
  refine reg_cast (l' := #[true, true, true, true, true, true, false, false, true, false]) (by kernel_rfl) ?_
  revert hHeld
  revert L_Xi
  revert HT_Xi
  revert HP_Xi
  revert HB
  revert Xi
  revert WZx
  exact HG2.out
 intro WZ a2 c2 L HB HCO hHeld
 refine wpAnyH_ready (rs := [8]) (by kernel_rfl) (by simp) ?_
 refine AllReadyH.cons rfl (fun K hK => ?_) (AllReadyH.nil)
 ·skip
  go_simp
  have hb := kw_al (Below.refl WZ.heap.size WZ) (Nat.le_refl _) (.cells #[.int .i64 0, .int .i64 0, .slice none 0 0] 40)
  replace HCO := Hk.mk (HCO.out.below hb)
  clear hb
  have L_Xi := kw_le HB.out L0V
  have HT_Xi := Hk.mk (Ty.new WZ #[.int .i64 0, .int .i64 0, .slice none 0 0] 40)
  have HP_Xi : Hk (Bk _ _ #[.int .i64 0, .int .i64 0, .slice none 0 0]) := ⟨Bk.new WZ #[.int .i64 0, .int .i64 0, .slice none 0 0] 40⟩
  replace HB := Hk.mk (kw_al HB.out L0V (.cells #[.int .i64 0, .int .i64 0, .slice none 0 0] 40))
  refine hK.out _ _ ?_ (fun hHeld2 => ?_)
  ·exact kw_s HB.out
  clear hK K hHeld
  have hHeld := hHeld2
  clear hHeld2
  (try simp only [Act.put, jjA, jjB, jjC, jjD, jjE, jjF])
  generalize WZ.heap.size = Xi at *
  generalize WZ.alloc (.cells #[.int .i64 0, .int .i64 0, .slice none 0 0] 40) = WZx at *
  refine reg_cast (l' := #[true, true, true, true, true, true, true, true, true, false]) (by kernel_rfl) ?_
  revert hHeld
  revert HCO
  revert L_Xi
  revert HT_Xi
  revert HP_Xi
  revert HB
  revert L
  revert c2
  revert a2
  revert Xi
  revert WZx
  exact HG3.out
 intro WZ Xi HB HP_Xi HT_Xi L_Xi hHeld
 refine wpAnyH_ready (rs := [6]) (by kernel_rfl) (by simp) ?_
 refine AllReadyH.cons rfl (fun K hK => ?_) (AllReadyH.nil)
 ·skip
  go_simp
  ((go_at_call 51; (with_reducible refine (copycs_any la ln lc l _ (HLD.out.later HB.out) HSL.out).mono ?_); rintro e z ⟨v, L, rfl, ho, hab, hb⟩; obtain ⟨a2, c2, rfl⟩ := ho.form; have HCO : Hk (CcR z V.heap.size a2 ln c2 L l) := ⟨⟨ho.weak (kw_le HB.out L0V), hab⟩⟩; clear ho hab))
  replace HP_Xi := Hk.mk (HP_Xi.out.below hb)
  replace HT_Xi := Hk.mk (HT_Xi.out.below hb)
  replace HB := Hk.mk (kw_step HB.out L0V hb)
  clear hb
  refine hK.out _ _ ?_ (fun hHeld2 => ?_)
  ·exact kw_s HB.out
  clear hK K hHeld
  have hHeld := hHeld2
  clear hHeld2
  (try simp only [Act.put, jjA, jjB, jjC, jjD, jjE, jjF])
  have HI : Ix [7] := trivial
  (refine tkA HI (v := ?_) rfl (by kernel_rfl) (fun _ _ _ h => h) (.inl ⟨by rfl, fun wX hSw => ?_⟩) hHeld (fun HJ => ?_); rotate_left; (focus ((try dsimp only at hSw); go_simp; try with_reducible rfl)); clear HI; have HI := HJ; clear HJ; try simp only [Act.put, jjA, jjB, jjC, jjD, jjE, jjF])
  clear HI
  refine reg_cast (l' := #[true, true, true, true, true, true, true, true, true, false]) (by kernel_rfl) ?_
  revert hHeld
  revert HCO
  revert L_Xi
  revert HT_Xi
  revert HP_Xi
  revert HB
  revert L
  revert c2
  revert a2
  revert Xi
  revert z
  exact HG3.out
 intro WZ Xi a2 c2 L HB HP_Xi HT_Xi L_Xi HCO hHeld
 refine wpAnyH_ready (rs := [9]) (by kernel_rfl) (by simp) ?_
 refine AllReadyH.cons rfl (fun K hK => ?_) (AllReadyH.nil)
 ·skip
  have st_c0 : WZ.cell? ⟨Xi, 0, none⟩ = some (.int .i64 0) := HP_Xi.out.c 0
  have st_f0 : WZ.frozen? ⟨Xi, 0, none⟩ = false := HP_Xi.out.f 0
  have st_c1 : WZ.cell? ⟨Xi, 1, none⟩ = some (.int .i64 0) := HP_Xi.out.c 1
  have st_f1 : WZ.frozen? ⟨Xi, 1, none⟩ = false := HP_Xi.out.f 1
  have st_c2 : WZ.cell? ⟨Xi, 2, none⟩ = some (.slice none 0 0) := HP_Xi.out.c 2
  have st_f2 : WZ.frozen? ⟨Xi, 2, none⟩ = false := HP_Xi.out.f 2
  go_simp
  clear st_c0 st_f0
  clear st_c1 st_f1
  clear st_c2 st_f2
  replace HP_Xi : Hk (Bk _ Xi #[.int .i64 (p.s + 1), .int .i64 p.i, .slice a2 ln c2]) := ⟨(Bk.set ((Bk.set ((Bk.set (HP_Xi.out) 0 (.int .i64 (p.s + 1)))) 1 (.int .i64 p.i))) 2 (.slice a2 ln c2))⟩
  have hfr := (show Fr (fun q => q = Xi) WZ _ from (Fr.setCell (p := ⟨Xi, 2, none⟩) ((Fr.setCell (p := ⟨Xi, 1, none⟩) ((Fr.setCell (p := ⟨Xi, 0, none⟩) ((Fr.refl (fun q => q = Xi) WZ)) (fun _ => rfl) (.int .i64 (p.s + 1)))) (fun _ => rfl) (.int .i64 p.i))) (fun _ => rfl) (.slice a2 ln c2)))
  replace HCO := Hk.mk (HCO.out.oth hfr HT_Xi.out)
  clear hfr
  replace HT_Xi := Hk.mk (Ty.set ((Ty.set ((Ty.set (HT_Xi.out) ⟨Xi, 0, none⟩ (.int .i64 (p.s + 1)))) ⟨Xi, 1, none⟩ (.int .i64 p.i))) ⟨Xi, 2, none⟩ (.slice a2 ln c2))
  replace HB := Hk.mk (Below.setCell (p := ⟨Xi, 2, none⟩) ((Below.setCell (p := ⟨Xi, 1, none⟩) ((Below.setCell (p := ⟨Xi, 0, none⟩) (HB.out) L_Xi (.int .i64 (p.s + 1)))) L_Xi (.int .i64 p.i))) L_Xi (.slice a2 ln c2))
  refine hK.out _ _ ?_ (fun hHeld2 => ?_)
  ·exact kw_s HB.out
  clear hK K hHeld
  have hHeld := hHeld2
  clear hHeld2
  (try simp only [Act.put, jjA, jjB, jjC, jjD, jjE, jjF])
  generalize (World.setCell (World.setCell (World.setCell WZ ⟨Xi, 0, none⟩ (.int .i64 (p.s + 1))) ⟨Xi, 1, none⟩ (.int .i64 p.i)) ⟨Xi, 2, none⟩ (.slice a2 ln c2)) = WZx at *
  refine reg_cast (l' := #[true, true, true, true, true, true, true, true, true, true]) (by kernel_rfl) ?_
  revert hHeld
  revert HCO
  revert L_Xi
  revert HT_Xi
  revert HP_Xi
  revert HB
  revert L
  revert c2
  revert a2
  revert Xi
  revert WZx
  exact HG4.out
 intro WZ Xi a2 c2 L HB HP_Xi HT_Xi L_Xi HCO hHeld
 refine wpAnyH_done (by kernel_rfl) ?_ _
 clear hHeld g1 g2 g3
 have HP4 := Hk.mk (HPB.out.below HB.out)
 have HR4 := Hk.mk (HRB.out.below HB.out)
 have HB4 := Hk.mk (HBW.out.trans (HB.out.mono HBW.out.size))
 have HXI := HP_Xi
 have HTX := HT_Xi
 have HVL : Hk (w.heap.size ≤ V.heap.size) := ⟨HBW.out.size⟩
 have HXV := Hk.mk L_Xi
 clear y0 y1 y2 y3 y4 y5 y6 y7 y8 y9 y10 yl
 clear HPB HRB HBW HB HP_Xi HT_Xi L_Xi
 have HPB := HP4
 have HRB := HR4
 have HBW := HB4
 clear HP4 HR4 HB4
 have HCD := Hk.mk HCO.out.1.d
 have HCA : Hk (abC L = abC l) := ⟨HCO.out.2⟩
 have HSC : Hk (SmC L) := ⟨smC_like HCO.out.2 (fun x hx => (HCO.out.1.u x hx).nq.len) (fun x hx => (HLW.out.u x hx).len) HSL.out⟩
 obtain ⟨y0, y1, y2, y3, y4, y5, y6, y7, y8, y9, y10, yl⟩ := HPB.out.cs
 have i0 := HXI.out.c 0
 have i1 := HXI.out.c 1
 have i2 := HXI.out.c 2
 have il := HXI.out.lt
 simp at i0 i1 i2
 have HCW : Hk (OwC WZ V.heap.size (.slice a2 ln c2) ln L) := ⟨HCO.out.1⟩
 have HVW : Hk (V.heap.size ≤ WZ.heap.size) := ⟨Nat.le_of_lt (Nat.lt_of_le_of_lt HXV.out HXI.out.lt)⟩
 go_upto_region 6 with (go_at_call 65; (with_reducible refine (rmay27_as true (p.s + 1) p.i a2 ln c2 L _ HCD.out HSC.out ⟨by rw [HCA.out]; exact HEM.out⟩).mono ?_); rintro e z ⟨rfl, hb⟩; have HP9 := Hk.mk (HPB.out.below hb); have HR9 := Hk.mk (HRB.out.below hb); have HX9 := Hk.mk (HXI.out.below hb); have HO9 := Hk.mk (HCW.out.below hb); have HVZ : Hk (V.heap.size ≤ z.heap.size) := ⟨Nat.le_trans HVW.out hb.size⟩; have HB9 := Hk.mk (HBW.out.trans (hb.mono HBW.out.size)); clear hb HPB HRB HBW HXI HCW HCO HCD; clear y0 y1 y2 y3 y4 y5 y6 y7 y8 y9 y10 yl; clear i0 i1 i2 il; have HPB := HP9; have HRB := HR9; have HBW := HB9; have HXI := HX9; have HCW := HO9; clear HP9 HR9 HB9 HX9 HO9; obtain ⟨y0, y1, y2, y3, y4, y5, y6, y7, y8, y9, y10, yl⟩ := HPB.out.cs)
 go_upto_region 7 with (go_at_call 11; (with_reducible refine (copyq_any p _ (HDP.out _ HBW.out) HS.out).mono ?_); rintro e z3 ⟨u, N3, N4, rfl, ho, hlay, hn3, hab, g1, g2, g3, g4, g5, hb⟩; have HO := Hk.mk ho; have HLY := Hk.mk hlay; have HN3 := Hk.mk hn3; have HAU := Hk.mk hab; have HSU := Hk.mk (HS.out.like (HDP.out _ HBW.out) ho.d hab g1 g2 g3 g4 g5); have HB3 := Hk.mk hb; have HLN : Hk (u.hn = p.hn ∧ u.an = p.an) := ⟨⟨g3, g4⟩⟩; have HLM : Hk (u.mn = p.mn ∧ u.ln = p.ln) := ⟨⟨g1, g2⟩⟩; clear ho hlay hn3 hab g1 g2 g3 g4 g5 hb)
 have HO3 : Hk (PvO (z3.alloc (.cells (jjP u) 26)) z.heap.size u) := ⟨HO.out.below (below_al _ _)⟩
 have HQ3 : Hk (Bx (z3.alloc (.cells (jjP u) 26)) z3.heap.size u) := ⟨Bx.new z3 u⟩
 have HP3 : Hk (Bx (z3.alloc (.cells (jjP u) 26)) w.heap.size p) := ⟨(HPB.out.below HB3.out).al _⟩
 have HR3 : Hk (Bx (z3.alloc (.cells (jjP u) 26)) (w.heap.size + 1) nilV) := ⟨(HRB.out.below HB3.out).al _⟩
 have HX3 : Hk (Bk (z3.alloc (.cells (jjP u) 26)) Xi #[.int .i64 (p.s + 1), .int .i64 p.i, .slice a2 ln c2]) := ⟨(HXI.out.below HB3.out).al _⟩
 have HC3 : Hk (OwC (z3.alloc (.cells (jjP u) 26)) V.heap.size (.slice a2 ln c2) ln L) := ⟨(HCW.out.below HB3.out).below (below_al _ _)⟩
 have HBV : Hk (Below w.heap.size w (z3.alloc (.cells (jjP u) 26))) := ⟨kw_al (HBW.out.trans (HB3.out.mono HBW.out.size)) (Nat.le_refl _) _⟩
 have HQR : Hk (z.heap.size ≤ z3.heap.size ∧ ¬ (w.heap.size + 1) = z3.heap.size ∧ ¬ w.heap.size = z3.heap.size ∧ w.heap.size ≤ z.heap.size ∧ ¬ Xi = z3.heap.size ∧ Xi < z.heap.size) := ⟨by have h1 := HRB.out.lt; have h2 := HB3.out.size; have h3 := HXI.out.lt; omega⟩
 have HK1 : Hk (0 < p.hn ∧ 0 < p.an ∧ 1 ≤ p.i ∧ p.i.toNat - 1 < p.hn ∧ p.i.toNat - 1 < p.an ∧ p.i ≤ 8) := ⟨by
  have h1 := HOK.out.k.h1
  have h2 := HOK.out.k.a1
  have h3 : p.ab.h.length = p.hl.length := rfl
  have h4 : p.ab.a.length = p.al.length := rfl
  have h5 := (HDP.out w (Below.refl _ _)).h.len
  have h6 := (HDP.out w (Below.refl _ _)).a.len
  have h7 := HOK.out.c.i1
  have h8 := HOK.out.c.i2
  have h9 := HOK.out.c.n2
  have e1 : p.ab.i = p.i := rfl
  have e2 : p.ab.n = p.n := rfl
  omega⟩
 have HML : Hk (∀ x, x ∈ u.ml → ∃ W0, CmD W0 N3 x.a x.n x.l) := ⟨fun x hx => ⟨_, HLY.out.m.u x hx⟩⟩
 have HHQ : Hk (∃ W0, Nq W0 N4 u.ha u.hn u.hl) := ⟨⟨_, HLY.out.hq⟩⟩
 have HAQ : Hk (OwnI (z3.alloc (.cells (jjP u) 26)) N4 (.slice u.aa u.an u.ac) u.an u.al) := ⟨HLY.out.a.below (below_al _ _)⟩
 obtain ⟨ga, ea, hga1, hga2⟩ : ∃ ga, u.aa = some ⟨ga, 0, none⟩ ∧ N4 ≤ ga ∧ ga < z3.heap.size := by
  rcases HLY.out.a.blk with ⟨_, e, _⟩ | ⟨ga, e, h1, h2, _⟩
  ·have := HK1.out; have := HLN.out; omega
  ·exact ⟨ga, e, h1, h2⟩
 obtain ⟨gh, eh, hgh1, hgh2⟩ : ∃ gh, u.ha = some ⟨gh, 0, none⟩ ∧ N3 ≤ gh ∧ gh < N4 := by
  obtain ⟨b, off, e, hb, _⟩ := HLY.out.hq.rd (by have := HK1.out; have := HLN.out; omega)
  rcases HLY.out.h.blk with ⟨_, e, _⟩ | ⟨gh, e1, h1, h2, _⟩
  ·have := HK1.out; have := HLN.out; omega
  ·rw [e1] at e
   injection e with e
   injection e with e2 e3
   subst e2
   exact ⟨gh, e1, h1, hb⟩
 have HGA : Hk (u.aa = some ⟨ga, 0, none⟩ ∧ N4 ≤ ga ∧ ga < z3.heap.size) := ⟨⟨ea, hga1, hga2⟩⟩
 have HGH : Hk (u.ha = some ⟨gh, 0, none⟩ ∧ N3 ≤ gh ∧ gh < N4) := ⟨⟨eh, hgh1, hgh2⟩⟩
 have HN34 : Hk (z.heap.size ≤ N3 ∧ N3 ≤ N4 ∧ N4 ≤ (z3.alloc (.cells (jjP u) 26)).heap.size) := ⟨⟨HN3.out, HLY.out.le, by simp; omega⟩⟩
 have HFI := Hk.mk HO3.out.l.o.spare
 have HLL : Hk (∀ x, x ∈ u.ll → ∀ c, c ∈ x.l → c.u.length = c.m) := ⟨fun x hx c hc => ((HO3.out.d.l.u x hx).u c hc).len⟩
 have HLC : Hk (∀ c, c ∈ L → c.u.length = c.m) := ⟨fun c hc => (HC3.out.d.u c hc).len⟩
 have HLL2 : Hk (u.ll.length + 1 ≤ 1048576) := ⟨by have h1 := HO3.out.d.l.q.len; have h2 := HLM.out.2; have h3 := HLN2.out; omega⟩
 have HMLT : Hk (∀ j, Value.ownBlock (.slice u.ma u.mn u.mc) = some j → j < (z3.alloc (.cells (jjP u) 26)).heap.size) := ⟨fun j hj => (HO3.out.m.o.lt j hj).2⟩
 have HV3 : Hk (z.heap.size ≤ (z3.alloc (.cells (jjP u) 26)).heap.size ∧ z3.heap.size < (z3.alloc (.cells (jjP u) 26)).heap.size ∧ V.heap.size ≤ z.heap.size) := ⟨by have h1 := HB3.out.size; have h2 := HVZ.out; simp; omega⟩
 have HEP : Hk (putN (⟨p.s + 1, p.i, a2, ln, c2, L⟩ : Iv).ab (abI u.ll) = some M) := ⟨by
  obtain ⟨-, -, -, -, -, -, b7, -⟩ := (ab_iff u p).1 HAU.out
  rw [b7]
  show putN (⟨p.s + 1, p.i, abC L⟩ : In) (abI p.ll) = some M
  rw [HCA.out]
  exact HEQ.out⟩
 clear HO HB3 HPB HRB HBW HXI HCW HLY HN3 ea hga1 hga2 eh hgh1 hgh2
 generalize z.heap.size = B0 at *
 generalize z3.heap.size = Q at *
 generalize (z3.alloc (.cells (jjP u) 26)) = V3 at *
 clear y0 y1 y2 y3 y4 y5 y6 y7 y8 y9 y10 yl
 obtain ⟨y0, y1, y2, y3, y4, y5, y6, y7, y8, y9, y10, yl⟩ := HP3.out.cs
 obtain ⟨d0, d1, d2, d3, d4, d5, d6, d7, d8, d9, d10, dl⟩ := HQ3.out.cs; obtain ⟨-, -, -, -, q4, q5, q6, -, -, -, -⟩ := HQ3.out.fs
 have i0 := HX3.out.c 0
 have i1 := HX3.out.c 1
 have i2 := HX3.out.c 2
 have il := HX3.out.lt
 simp at i0 i1 i2
 go_upto_region 8 with (go_at_call 69; (with_reducible refine (rput_any ⟨p.s + 1, p.i, a2, ln, c2, L⟩ (some M) u.la u.ln u.lc u.ll _ HO3.out.d.l HSU.out.l HC3.out.d HSC.out HFI.out.1 HFI.out.2.1 HFI.out.2.2 HEP).mono ?_); rintro e z4 hput; obtain ⟨s2, n2, e2, M2, rfl, hm2, ha2⟩ := hput.yes M rfl; have hb := hput.bl; have HV4 : Hk (V3.heap.size ≤ z4.heap.size) := ⟨hput.bl.size⟩; have HMB := Hk.mk hm2; have HA2 := Hk.mk ha2; have HQ4 := Hk.mk (HQ3.out.below hb); have HP4 := Hk.mk (HP3.out.below hb); have HR4 := Hk.mk (HR3.out.below hb); have HX4 := Hk.mk (HX3.out.below hb); have HC4 := Hk.mk (HC3.out.below hb); have HO4 := Hk.mk (HO3.out.below hb); have HB4 := Hk.mk (HBV.out.trans (hb.mono HBV.out.size)); clear hput hm2 ha2 hb; clear y0 y1 y2 y3 y4 y5 y6 y7 y8 y9 y10 yl; clear d0 d1 d2 d3 d4 d5 d6 d7 d8 d9 d10 dl q4 q5 q6; obtain ⟨d0, d1, d2, d3, d4, d5, d6, d7, d8, d9, d10, dl⟩ := HQ4.out.cs; obtain ⟨-, -, -, -, q4, q5, q6, -, -, -, -⟩ := HQ4.out.fs)
 obtain ⟨u1, hu1⟩ : ∃ x : Pv, x = { u with la := s2, ln := n2, lc := e2, ll := M2 } := ⟨_, rfl⟩
 have HF5 : Hk (Fr (fun j => j = Q) z4 (z4.setCell ⟨Q, 6, none⟩ (.slice s2 n2 e2))) := ⟨Fr.setCell (M := fun j => j = Q) (p := ⟨Q, 6, none⟩) (Fr.refl _ z4) (fun _ => rfl) _⟩
 have HQ5 : Hk (Bx (z4.setCell ⟨Q, 6, none⟩ (.slice s2 n2 e2)) Q u1) := ⟨by rw [hu1]; exact HQ4.out.set 6 _ _ rfl⟩
 have HR5 : Hk (Bx (z4.setCell ⟨Q, 6, none⟩ (.slice s2 n2 e2)) (w.heap.size + 1) nilV) := ⟨HR4.out.oth HQR.out.2.1 _ _⟩
 have HP5 : Hk (Bx (z4.setCell ⟨Q, 6, none⟩ (.slice s2 n2 e2)) w.heap.size p) := ⟨HP4.out.oth HQR.out.2.2.1 _ _⟩
 have HX5 : Hk (Bk (z4.setCell ⟨Q, 6, none⟩ (.slice s2 n2 e2)) Xi #[.int .i64 (p.s + 1), .int .i64 p.i, .slice a2 ln c2]) := ⟨HX4.out.oth HQR.out.2.2.2.2.1 _ _⟩
 have HK5 := Hk.mk (Kt.set HQR.out.1 HQ4.out.bl 6 (.slice s2 n2 e2))
 have HK5v := Hk.mk (Kt.set (B := V.heap.size) (Nat.le_trans HV3.out.2.2 HQR.out.1) HQ4.out.bl 6 (.slice s2 n2 e2))
 have HC5 : Hk (OwC (z4.setCell ⟨Q, 6, none⟩ (.slice s2 n2 e2)) V.heap.size (.slice a2 ln c2) ln L) := ⟨HK5v.out.owc HC4.out (by decide) (by decide)⟩
 have HO5 : Hk (PvO (z4.setCell ⟨Q, 6, none⟩ (.slice s2 n2 e2)) B0 u1) := ⟨by rw [hu1]; exact HK5.out.pvo (HO4.out.setl (HMB.out.weak HV3.out.1))⟩
 have HM5 : Hk (OwN (z4.setCell ⟨Q, 6, none⟩ (.slice s2 n2 e2)) V3.heap.size (.slice s2 n2 e2) n2 M2) := ⟨HMB.out.up HF5.out (fun j hj e => by have := HV3.out.2.1; omega)⟩
 have HB5 := Hk.mk (HB4.out.trans (HK5.out.bl.mono HQR.out.2.2.2.1))
 have HL5 : Hk (B0 ≤ (z4.setCell ⟨Q, 6, none⟩ (.slice s2 n2 e2)).heap.size) := ⟨Nat.le_trans HQR.out.1 (Nat.le_of_lt HQ5.out.lt)⟩
 have HSM := Hk.mk (put_mem HEP.out)
 have HV35 : Hk (V3.heap.size ≤ (z4.setCell ⟨Q, 6, none⟩ (.slice s2 n2 e2)).heap.size) := ⟨Nat.le_trans HV4.out HK5.out.bl.size⟩
 have HU1 := Hk.mk hu1
 clear hu1 HF5 HQ4 HR4 HP4 HX4 HK5 HK5v HC4 HO4 HMB HB4 HQ3 HR3 HP3 HX3 HC3 HO3 HBV
 clear i0 i1 i2 il
 clear d0 d1 d2 d3 d4 d5 d6 d7 d8 d9 d10 dl q4 q5 q6
 generalize (z4.setCell ⟨Q, 6, none⟩ (.slice s2 n2 e2)) = V5 at *
 obtain ⟨y0, y1, y2, y3, y4, y5, y6, y7, y8, y9, y10, yl⟩ := HP5.out.cs
 obtain ⟨d0, d1, d2, d3, d4, d5, d6, d7, d8, d9, d10, dl⟩ := HQ5.out.cs; obtain ⟨-, -, -, -, q4, q5, q6, -, -, -, -⟩ := HQ5.out.fs
 obtain ⟨bb, f0⟩ : ∃ bb, decide ((1 : Int) < p.n) = bb := ⟨_, rfl⟩
 go_upto_if 47 with fail
 have HF0 := Hk.mk f0
 clear f0
 go_cut [] (fun wx => ∃ u2 : Pv, Hk (Bx wx Q u2) ∧ Hk (PvO wx B0 u2) ∧ Hk (∀ x, x ∈ u2.ml → (∃ W0, CmD W0 N3 x.a x.n x.l) ∨ OwCE wx V3.heap.size x.a x.n x.c x.l) ∧ Hk (OwN wx V3.heap.size (.slice s2 n2 e2) n2 M2) ∧ Hk (∃ ma mn mc ml, u2 = { u1 with ma := ma, mn := mn, mc := mc, ml := ml } ∧ abI ml = (if 1 < p.n then abI u.ml ++ [sayI p.ab (abC l)] else abI u.ml) ∧ SmI ml) ∧ Hk (Bx wx (w.heap.size + 1) nilV) ∧ Hk (Bx wx w.heap.size p) ∧ Hk (Below w.heap.size w wx))
 case first =>
  cases bb
  ·go_wp2
   go_meet
   case rel => exact ⟨u1, HQ5, HO5, ⟨fun x hx => .inl (HML.out x (by rw [HU1.out] at hx; exact hx))⟩, HM5, ⟨u1.ma, u1.mn, u1.mc, u1.ml, rfl, by rw [if_neg (of_decide_eq_false HF0.out), HU1.out], by rw [HU1.out]; exact HSU.out.m⟩, HR5, HP5, HB5⟩
  ·have HCX : Hk (OwC V5.drew V.heap.size (.slice a2 ln c2) ln L) := ⟨HC5.out.below ((Below.refl _ _).drew)⟩
   have i0 := HX5.out.c 0
   have i1 := HX5.out.c 1
   have i2 := HX5.out.c 2
   have il := HX5.out.lt
   have xb := HQR.out.2.2.2.2.2
   simp at i0 i1 i2
   have hxm : u1.ma = u.ma ∧ u1.mn = u.mn ∧ u1.mc = u.mc ∧ u1.ml = u.ml := by rw [HU1.out]; exact ⟨rfl, rfl, rfl, rfl⟩
   have HXM := Hk.mk hxm
   rw [hxm.1, hxm.2.1, hxm.2.2.1] at d5
   clear hxm d0 d1 d2 d3 d4 d6 d7 d8 d9 d10 q4 q6
   go_upto_region 9 with fail
   refine wp_region_held_drew (S := (fun X => (∀ b o, b < B0 → X.cell? ⟨b, o, none⟩ = V5.cell? ⟨b, o, none⟩) ∧ Below B0 V5 X)) (by kernel_rfl) ?_ (fun hHeld => ?_)
   ·exact kw_S ((Below.refl _ _).drew)
   have HI : Ix [0, 2] := trivial
   iterate 2 (refine tkA HI (v := ?_) rfl (by kernel_rfl) (fun _ _ _ h => h) (.inl ⟨by rfl, fun wX hSw => ?_⟩) hHeld (fun HJ => ?_); rotate_left; (focus ((try dsimp only at hSw); go_simp; try with_reducible rfl)); clear HI; have HI := HJ; clear HJ; try simp only [Act.put, jjA, jjB, jjC, jjD, jjE, jjF])
   clear HI
   refine wpAnyH_ready (rs := [1, 3]) (by kernel_rfl) (by simp) ?_
   refine AllReadyH.cons rfl (fun K hK => ?_) (AllReadyH.cons rfl (fun K hK => ?_) (AllReadyH.nil))
   ·skip
    go_simp
    refine hK.out _ _ ?_ (fun hHeld => ?_)
    ·first | exact kw_S hHeld.2 | exact kw_S (kw_step hHeld.2 HL5.out hb) | exact kw_S (kw_al hHeld.2 HL5.out _) | exact kw_S HB9a.out | exact kw_S (Below.setCell (p := ⟨Q, 5, none⟩) hHeld.2 HQR.out.1 _)
    clear hK K
    (try simp only [Act.put, jjA, jjB, jjC, jjD, jjE, jjF])
    refine wpAnyH_ready (rs := [3]) (by kernel_rfl) (by simp) ?_
    refine AllReadyH.cons rfl (fun K hK => ?_) (AllReadyH.nil)
    go_simp
    ((go_at_call 64; (with_reducible refine (copyin_any (p.s + 1) p.i a2 ln c2 L _ HCX.out.d HSC.out).mono ?_); rintro e z5 ⟨a3, c3, L3, rfl, ho, hab, hb⟩; have HO3c := Hk.mk ho; have HA3c := Hk.mk hab; have HZ5 : Hk (Below V5.heap.size V5 z5) := ⟨kw_step ((Below.refl _ _).drew) (Nat.le_refl _) hb⟩; have y5 := (HQ5.out.below HZ5.out).bk.c 5; have yl9 := (HQ5.out.below HZ5.out).lt; have eM := HXM.out; simp at y5; rw [eM.1, eM.2.1, eM.2.2.1] at y5; clear ho hab eM))
    refine hK.out _ _ ?_ (fun hHeld => ?_)
    ·first | exact kw_S hHeld.2 | exact kw_S (kw_step hHeld.2 HL5.out hb) | exact kw_S (kw_al hHeld.2 HL5.out _) | exact kw_S HB9a.out | exact kw_S (Below.setCell (p := ⟨Q, 5, none⟩) hHeld.2 HQR.out.1 _)
    clear hK K
    (try simp only [Act.put, jjA, jjB, jjC, jjD, jjE, jjF])
    refine wpAnyH_ready (rs := [4]) (by kernel_rfl) (by simp) ?_
    refine AllReadyH.cons rfl (fun K hK => ?_) (AllReadyH.nil)
    go_simp
    refine hK.out _ _ ?_ (fun hHeld => ?_)
    ·first | exact kw_S hHeld.2 | exact kw_S (kw_step hHeld.2 HL5.out hb) | exact kw_S (kw_al hHeld.2 HL5.out _) | exact kw_S HB9a.out | exact kw_S (Below.setCell (p := ⟨Q, 5, none⟩) hHeld.2 HQR.out.1 _)
    clear hK K
    (try simp only [Act.put, jjA, jjB, jjC, jjD, jjE, jjF])
    refine wpAnyH_ready (rs := [5]) (by kernel_rfl) (by simp) ?_
    refine AllReadyH.cons rfl (fun K hK => ?_) (AllReadyH.nil)
    (have HOA : Hk (PvO (z5.alloc (.cells #[.int .i64 (p.s + 1), .int .i64 p.i, .slice a3 ln c3] 40)) B0 u1) := ⟨(HO5.out.below HZ5.out).below (below_al _ _)⟩; have HRW : Hk (World.ownsRow (z5.alloc (.cells #[.int .i64 (p.s + 1), .int .i64 p.i, .slice a3 ln c3] 40)) B0 40 3 (.slice u.ma u.mn u.mc) u.mn (flt shI u.ml)) := ⟨by have := HOA.out.m.o.row; rw [HXM.out.1, HXM.out.2.1, HXM.out.2.2.1, HXM.out.2.2.2] at this; exact this⟩; have HBL : Hk (B0 ≤ (z5.alloc (.cells #[.int .i64 (p.s + 1), .int .i64 p.i, .slice a3 ln c3] 40)).heap.size) := ⟨Nat.le_trans HL5.out (Nat.le_trans HZ5.out.size (by simp))⟩; refine step_append27 (by rfl) (.tmp 49) (.tmp 52) 22 (by rfl) B0 40 ii (.agg #[.int .i64 0, .int .i64 0, .slice none 0 0]) 3 40 Tryz.underlying22 hii hiz0 hiz1 hiz2 (by rfl) (by decide) (.slice u.ma u.mn u.mc) u.mn (flt shI u.ml) (by rfl) HRW.out ⟨z5.heap.size, 0, none⟩ 1 1 ((⟨p.s + 1, p.i, a3, ln, c3, L3⟩ : Iv).cs) (by rfl) (by rfl) (lit_at z5 _ _) (is_one _) (by have h1 := HMN.out; have h2 := HLM.out.1; unfold maxLen; omega) (by have h1 := HMN.out; have h2 := HLM.out.1; omega) HBL.out ?_; intro v9 z9 hown hgrow; obtain ⟨g9, c9, rfl, hcc9, hg9, hg9'⟩ := row_slice hown (by omega); have HKI := Hk.mk (Kt.grown HBL.out HRW.out hgrow); have HOWN := Hk.mk hown; have HGRW := Hk.mk hgrow; have HQ9a := Hk.mk (((HQ5.out.below HZ5.out).al (.cells #[.int .i64 (p.s + 1), .int .i64 p.i, .slice a3 ln c3] 40)).kt HKI.out (by decide)); have HB9a : Hk (Below B0 V5 z9) := ⟨((HZ5.out.mono HL5.out).trans ((below_al z5 (.cells #[.int .i64 (p.s + 1), .int .i64 p.i, .slice a3 ln c3] 40)).mono (Nat.le_trans HL5.out HZ5.out.size))).trans HKI.out.bl⟩; have w5 := HQ9a.out.bk.c 5; have wf5 := HQ9a.out.bk.f 5; have wl5 := HQ9a.out.lt; simp at w5; clear hown hgrow)
    refine hK.out _ _ ?_ (fun hHeld => ?_)
    ·first | exact kw_S hHeld.2 | exact kw_S (kw_step hHeld.2 HL5.out hb) | exact kw_S (kw_al hHeld.2 HL5.out _) | exact kw_S HB9a.out | exact kw_S (Below.setCell (p := ⟨Q, 5, none⟩) hHeld.2 HQR.out.1 _)
    clear hK K
    (try simp only [Act.put, jjA, jjB, jjC, jjD, jjE, jjF])
    have HI : Ix [6] := trivial
    (refine tkA HI (v := ?_) rfl (by kernel_rfl) (fun _ _ _ h => h) (.inl ⟨by rfl, fun wX hSw => ?_⟩) hHeld (fun HJ => ?_); rotate_left; (focus ((try dsimp only at hSw); go_simp; try with_reducible rfl)); clear HI; have HI := HJ; clear HJ; try simp only [Act.put, jjA, jjB, jjC, jjD, jjE, jjF])
    clear HI
    refine wpAnyH_ready (rs := [7]) (by kernel_rfl) (by simp) ?_
    refine AllReadyH.cons rfl (fun K hK => ?_) (AllReadyH.nil)
    go_simp
    refine hK.out _ _ ?_ (fun hHeld => ?_)
    ·first | exact kw_S hHeld.2 | exact kw_S (kw_step hHeld.2 HL5.out hb) | exact kw_S (kw_al hHeld.2 HL5.out _) | exact kw_S HB9a.out | exact kw_S (Below.setCell (p := ⟨Q, 5, none⟩) hHeld.2 HQR.out.1 _)
    clear hK K
    (try simp only [Act.put, jjA, jjB, jjC, jjD, jjE, jjF])
    refine wpAnyH_done (by kernel_rfl) ?_ _
    have HFQ : Hk (Fr (fun j => j = Q) z9 (z9.setCell ⟨Q, 5, none⟩ (.slice (some ⟨g9, 0, none⟩) (u.mn + 1) c9))) := ⟨Fr.setCell (M := fun j => j = Q) (p := ⟨Q, 5, none⟩) (Fr.refl _ z9) (fun _ => rfl) _⟩
    have HKQ := Hk.mk (Kt.set HQR.out.1 HQ9a.out.bl 5 (.slice (some ⟨g9, 0, none⟩) (u.mn + 1) c9))
    have HN9 : Hk (OwCE z9 V5.heap.size a3 ln c3 L3) := ⟨HKI5 HKI.out HGRW.out HRW.out HO3c.out HZ5.out⟩
    have HM9 : Hk (OwN z9 V3.heap.size (.slice s2 n2 e2) n2 M2) := ⟨((HM5.out.below HZ5.out).below (below_al _ _)).up ((Fr.refl (fun j => Value.ownBlock (.slice u.ma u.mn u.mc) = some j) _).grown HGRW.out (fun j _ e => e)) (fun j hj e => by have := HMLT.out j e; omega)⟩
    have HML9 : Hk (OwN z9 B0 (.slice (some ⟨g9, 0, none⟩) (u.mn + 1) c9) (u.mn + 1) (u.ml ++ [(⟨p.s + 1, p.i, a3, ln, c3, L3⟩ : Iv)])) := ⟨⟨by have h1 := HOA.out.m.o.len; rw [HXM.out.2.1, HXM.out.2.2.2] at h1; rw [List.length_append, h1]; rfl, by rw [flt_app, flt_one1]; exact HOWN.out⟩, fun y hy => by
     rcases List.mem_append.1 hy with hy | hy
     ·exact HKI.out.owce (HOA.out.m.u y (by rw [HXM.out.2.2.2]; exact hy)) (by decide) (by decide)
     ·obtain rfl := List.mem_singleton.1 hy
      exact HN9.out.weak HL5.out⟩
    have HO9a : Hk (PvO z9 B0 { u1 with ma := some ⟨g9, 0, none⟩, mn := u.mn + 1, mc := c9, ml := u.ml ++ [(⟨p.s + 1, p.i, a3, ln, c3, L3⟩ : Iv)] }) := ⟨HML9.out, by rw [HU1.out]; exact HM9.out.weak HV3.out.1, HKI.out.owni HOA.out.h (by decide), HKI.out.owni HOA.out.a (by decide), HKI.out.ow HOA.out.x (by decide)⟩
    go_wp2
    go_meet
    case rel => exact ⟨{ u1 with ma := some ⟨g9, 0, none⟩, mn := u.mn + 1, mc := c9, ml := u.ml ++ [(⟨p.s + 1, p.i, a3, ln, c3, L3⟩ : Iv)] }, ⟨HQ9a.out.set 5 _ _ rfl⟩, ⟨HKQ.out.pvo HO9a.out⟩, ⟨fun x hx => by
      rcases List.mem_append.1 hx with hx | hx
      ·exact .inl (HML.out x hx)
      ·obtain rfl := List.mem_singleton.1 hx
       exact .inr ((HN9.out.up HFQ.out (fun j hj e => by have h1 := HV35.out; have h2 := HV3.out.2.1; omega)).weak HV35.out)⟩, ⟨HM9.out.up HFQ.out (fun j hj e => by have := HV3.out.2.1; omega)⟩, ⟨_, _, _, _, rfl, by
      rw [if_pos (of_decide_eq_true HF0.out), abI_app]
      show abI u.ml ++ [(⟨p.s + 1, p.i, abC L3⟩ : In)] = abI u.ml ++ [⟨p.s + 1, p.i, abC l⟩]
      rw [HA3c.out, HCA.out], smI_snoc HSU.out.m (smC_like HA3c.out (fun x hx => (HO3c.out.u x hx).nq.len) HLC.out HSC.out) (by have h1 := HOA.out.m.o.len; rw [HXM.out.2.1, HXM.out.2.2.2] at h1; have h2 := HMN.out; have h3 := HLM.out.1; omega)⟩, ⟨((((HR5.out.below HZ5.out).al (.cells #[.int .i64 (p.s + 1), .int .i64 p.i, .slice a3 ln c3] 40)).kt HKI.out (by decide)).oth HQR.out.2.1 _ _)⟩, ⟨((((HP5.out.below HZ5.out).al (.cells #[.int .i64 (p.s + 1), .int .i64 p.i, .slice a3 ln c3] 40)).kt HKI.out (by decide)).oth HQR.out.2.2.1 _ _)⟩, ⟨(HB5.out.trans (HB9a.out.mono HQR.out.2.2.2.1)).trans (HKQ.out.bl.mono HQR.out.2.2.2.1)⟩⟩
   ·skip
    go_simp
    ((go_at_call 64; (with_reducible refine (copyin_any (p.s + 1) p.i a2 ln c2 L _ HCX.out.d HSC.out).mono ?_); rintro e z5 ⟨a3, c3, L3, rfl, ho, hab, hb⟩; have HO3c := Hk.mk ho; have HA3c := Hk.mk hab; have HZ5 : Hk (Below V5.heap.size V5 z5) := ⟨kw_step ((Below.refl _ _).drew) (Nat.le_refl _) hb⟩; have y5 := (HQ5.out.below HZ5.out).bk.c 5; have yl9 := (HQ5.out.below HZ5.out).lt; have eM := HXM.out; simp at y5; rw [eM.1, eM.2.1, eM.2.2.1] at y5; clear ho hab eM))
    refine hK.out _ _ ?_ (fun hHeld => ?_)
    ·first | exact kw_S hHeld.2 | exact kw_S (kw_step hHeld.2 HL5.out hb) | exact kw_S (kw_al hHeld.2 HL5.out _) | exact kw_S HB9a.out | exact kw_S (Below.setCell (p := ⟨Q, 5, none⟩) hHeld.2 HQR.out.1 _)
    clear hK K
    (try simp only [Act.put, jjA, jjB, jjC, jjD, jjE, jjF])
    refine wpAnyH_ready (rs := [1, 4]) (by kernel_rfl) (by simp) ?_
    refine AllReadyH.cons rfl (fun K hK => ?_) (AllReadyH.cons rfl (fun K hK => ?_) (AllReadyH.nil))
    ·skip
     go_simp
     refine hK.out _ _ ?_ (fun hHeld => ?_)
     ·first | exact kw_S hHeld.2 | exact kw_S (kw_step hHeld.2 HL5.out hb) | exact kw_S (kw_al hHeld.2 HL5.out _) | exact kw_S HB9a.out | exact kw_S (Below.setCell (p := ⟨Q, 5, none⟩) hHeld.2 HQR.out.1 _)
     clear hK K
     (try simp only [Act.put, jjA, jjB, jjC, jjD, jjE, jjF])
     refine wpAnyH_ready (rs := [4]) (by kernel_rfl) (by simp) ?_
     refine AllReadyH.cons rfl (fun K hK => ?_) (AllReadyH.nil)
     go_simp
     refine hK.out _ _ ?_ (fun hHeld => ?_)
     ·first | exact kw_S hHeld.2 | exact kw_S (kw_step hHeld.2 HL5.out hb) | exact kw_S (kw_al hHeld.2 HL5.out _) | exact kw_S HB9a.out | exact kw_S (Below.setCell (p := ⟨Q, 5, none⟩) hHeld.2 HQR.out.1 _)
     clear hK K
     (try simp only [Act.put, jjA, jjB, jjC, jjD, jjE, jjF])
     refine wpAnyH_ready (rs := [5]) (by kernel_rfl) (by simp) ?_
     refine AllReadyH.cons rfl (fun K hK => ?_) (AllReadyH.nil)
     (have HOA : Hk (PvO (z5.alloc (.cells #[.int .i64 (p.s + 1), .int .i64 p.i, .slice a3 ln c3] 40)) B0 u1) := ⟨(HO5.out.below HZ5.out).below (below_al _ _)⟩; have HRW : Hk (World.ownsRow (z5.alloc (.cells #[.int .i64 (p.s + 1), .int .i64 p.i, .slice a3 ln c3] 40)) B0 40 3 (.slice u.ma u.mn u.mc) u.mn (flt shI u.ml)) := ⟨by have := HOA.out.m.o.row; rw [HXM.out.1, HXM.out.2.1, HXM.out.2.2.1, HXM.out.2.2.2] at this; exact this⟩; have HBL : Hk (B0 ≤ (z5.alloc (.cells #[.int .i64 (p.s + 1), .int .i64 p.i, .slice a3 ln c3] 40)).heap.size) := ⟨Nat.le_trans HL5.out (Nat.le_trans HZ5.out.size (by simp))⟩; refine step_append27 (by rfl) (.tmp 49) (.tmp 52) 22 (by rfl) B0 40 ii (.agg #[.int .i64 0, .int .i64 0, .slice none 0 0]) 3 40 Tryz.underlying22 hii hiz0 hiz1 hiz2 (by rfl) (by decide) (.slice u.ma u.mn u.mc) u.mn (flt shI u.ml) (by rfl) HRW.out ⟨z5.heap.size, 0, none⟩ 1 1 ((⟨p.s + 1, p.i, a3, ln, c3, L3⟩ : Iv).cs) (by rfl) (by rfl) (lit_at z5 _ _) (is_one _) (by have h1 := HMN.out; have h2 := HLM.out.1; unfold maxLen; omega) (by have h1 := HMN.out; have h2 := HLM.out.1; omega) HBL.out ?_; intro v9 z9 hown hgrow; obtain ⟨g9, c9, rfl, hcc9, hg9, hg9'⟩ := row_slice hown (by omega); have HKI := Hk.mk (Kt.grown HBL.out HRW.out hgrow); have HOWN := Hk.mk hown; have HGRW := Hk.mk hgrow; have HQ9a := Hk.mk (((HQ5.out.below HZ5.out).al (.cells #[.int .i64 (p.s + 1), .int .i64 p.i, .slice a3 ln c3] 40)).kt HKI.out (by decide)); have HB9a : Hk (Below B0 V5 z9) := ⟨((HZ5.out.mono HL5.out).trans ((below_al z5 (.cells #[.int .i64 (p.s + 1), .int .i64 p.i, .slice a3 ln c3] 40)).mono (Nat.le_trans HL5.out HZ5.out.size))).trans HKI.out.bl⟩; have w5 := HQ9a.out.bk.c 5; have wf5 := HQ9a.out.bk.f 5; have wl5 := HQ9a.out.lt; simp at w5; clear hown hgrow)
     refine hK.out _ _ ?_ (fun hHeld => ?_)
     ·first | exact kw_S hHeld.2 | exact kw_S (kw_step hHeld.2 HL5.out hb) | exact kw_S (kw_al hHeld.2 HL5.out _) | exact kw_S HB9a.out | exact kw_S (Below.setCell (p := ⟨Q, 5, none⟩) hHeld.2 HQR.out.1 _)
     clear hK K
     (try simp only [Act.put, jjA, jjB, jjC, jjD, jjE, jjF])
     have HI : Ix [6] := trivial
     (refine tkA HI (v := ?_) rfl (by kernel_rfl) (fun _ _ _ h => h) (.inl ⟨by rfl, fun wX hSw => ?_⟩) hHeld (fun HJ => ?_); rotate_left; (focus ((try dsimp only at hSw); go_simp; try with_reducible rfl)); clear HI; have HI := HJ; clear HJ; try simp only [Act.put, jjA, jjB, jjC, jjD, jjE, jjF])
     clear HI
     refine wpAnyH_ready (rs := [7]) (by kernel_rfl) (by simp) ?_
     refine AllReadyH.cons rfl (fun K hK => ?_) (AllReadyH.nil)
     go_simp
     refine hK.out _ _ ?_ (fun hHeld => ?_)
     ·first | exact kw_S hHeld.2 | exact kw_S (kw_step hHeld.2 HL5.out hb) | exact kw_S (kw_al hHeld.2 HL5.out _) | exact kw_S HB9a.out | exact kw_S (Below.setCell (p := ⟨Q, 5, none⟩) hHeld.2 HQR.out.1 _)
     clear hK K
     (try simp only [Act.put, jjA, jjB, jjC, jjD, jjE, jjF])
     refine wpAnyH_done (by kernel_rfl) ?_ _
     have HFQ : Hk (Fr (fun j => j = Q) z9 (z9.setCell ⟨Q, 5, none⟩ (.slice (some ⟨g9, 0, none⟩) (u.mn + 1) c9))) := ⟨Fr.setCell (M := fun j => j = Q) (p := ⟨Q, 5, none⟩) (Fr.refl _ z9) (fun _ => rfl) _⟩
     have HKQ := Hk.mk (Kt.set HQR.out.1 HQ9a.out.bl 5 (.slice (some ⟨g9, 0, none⟩) (u.mn + 1) c9))
     have HN9 : Hk (OwCE z9 V5.heap.size a3 ln c3 L3) := ⟨HKI5 HKI.out HGRW.out HRW.out HO3c.out HZ5.out⟩
     have HM9 : Hk (OwN z9 V3.heap.size (.slice s2 n2 e2) n2 M2) := ⟨((HM5.out.below HZ5.out).below (below_al _ _)).up ((Fr.refl (fun j => Value.ownBlock (.slice u.ma u.mn u.mc) = some j) _).grown HGRW.out (fun j _ e => e)) (fun j hj e => by have := HMLT.out j e; omega)⟩
     have HML9 : Hk (OwN z9 B0 (.slice (some ⟨g9, 0, none⟩) (u.mn + 1) c9) (u.mn + 1) (u.ml ++ [(⟨p.s + 1, p.i, a3, ln, c3, L3⟩ : Iv)])) := ⟨⟨by have h1 := HOA.out.m.o.len; rw [HXM.out.2.1, HXM.out.2.2.2] at h1; rw [List.length_append, h1]; rfl, by rw [flt_app, flt_one1]; exact HOWN.out⟩, fun y hy => by
      rcases List.mem_append.1 hy with hy | hy
      ·exact HKI.out.owce (HOA.out.m.u y (by rw [HXM.out.2.2.2]; exact hy)) (by decide) (by decide)
      ·obtain rfl := List.mem_singleton.1 hy
       exact HN9.out.weak HL5.out⟩
     have HO9a : Hk (PvO z9 B0 { u1 with ma := some ⟨g9, 0, none⟩, mn := u.mn + 1, mc := c9, ml := u.ml ++ [(⟨p.s + 1, p.i, a3, ln, c3, L3⟩ : Iv)] }) := ⟨HML9.out, by rw [HU1.out]; exact HM9.out.weak HV3.out.1, HKI.out.owni HOA.out.h (by decide), HKI.out.owni HOA.out.a (by decide), HKI.out.ow HOA.out.x (by decide)⟩
     go_wp2
     go_meet
     case rel => exact ⟨{ u1 with ma := some ⟨g9, 0, none⟩, mn := u.mn + 1, mc := c9, ml := u.ml ++ [(⟨p.s + 1, p.i, a3, ln, c3, L3⟩ : Iv)] }, ⟨HQ9a.out.set 5 _ _ rfl⟩, ⟨HKQ.out.pvo HO9a.out⟩, ⟨fun x hx => by
       rcases List.mem_append.1 hx with hx | hx
       ·exact .inl (HML.out x hx)
       ·obtain rfl := List.mem_singleton.1 hx
        exact .inr ((HN9.out.up HFQ.out (fun j hj e => by have h1 := HV35.out; have h2 := HV3.out.2.1; omega)).weak HV35.out)⟩, ⟨HM9.out.up HFQ.out (fun j hj e => by have := HV3.out.2.1; omega)⟩, ⟨_, _, _, _, rfl, by
       rw [if_pos (of_decide_eq_true HF0.out), abI_app]
       show abI u.ml ++ [(⟨p.s + 1, p.i, abC L3⟩ : In)] = abI u.ml ++ [⟨p.s + 1, p.i, abC l⟩]
       rw [HA3c.out, HCA.out], smI_snoc HSU.out.m (smC_like HA3c.out (fun x hx => (HO3c.out.u x hx).nq.len) HLC.out HSC.out) (by have h1 := HOA.out.m.o.len; rw [HXM.out.2.1, HXM.out.2.2.2] at h1; have h2 := HMN.out; have h3 := HLM.out.1; omega)⟩, ⟨((((HR5.out.below HZ5.out).al (.cells #[.int .i64 (p.s + 1), .int .i64 p.i, .slice a3 ln c3] 40)).kt HKI.out (by decide)).oth HQR.out.2.1 _ _)⟩, ⟨((((HP5.out.below HZ5.out).al (.cells #[.int .i64 (p.s + 1), .int .i64 p.i, .slice a3 ln c3] 40)).kt HKI.out (by decide)).oth HQR.out.2.2.1 _ _)⟩, ⟨(HB5.out.trans (HB9a.out.mono HQR.out.2.2.2.1)).trans (HKQ.out.bl.mono HQR.out.2.2.2.1)⟩⟩
    ·skip
     go_simp
     refine hK.out _ _ ?_ (fun hHeld => ?_)
     ·first | exact kw_S hHeld.2 | exact kw_S (kw_step hHeld.2 HL5.out hb) | exact kw_S (kw_al hHeld.2 HL5.out _) | exact kw_S HB9a.out | exact kw_S (Below.setCell (p := ⟨Q, 5, none⟩) hHeld.2 HQR.out.1 _)
     clear hK K
     (try simp only [Act.put, jjA, jjB, jjC, jjD, jjE, jjF])
     refine wpAnyH_ready (rs := [1]) (by kernel_rfl) (by simp) ?_
     refine AllReadyH.cons rfl (fun K hK => ?_) (AllReadyH.nil)
     go_simp
     refine hK.out _ _ ?_ (fun hHeld => ?_)
     ·first | exact kw_S hHeld.2 | exact kw_S (kw_step hHeld.2 HL5.out hb) | exact kw_S (kw_al hHeld.2 HL5.out _) | exact kw_S HB9a.out | exact kw_S (Below.setCell (p := ⟨Q, 5, none⟩) hHeld.2 HQR.out.1 _)
     clear hK K
     (try simp only [Act.put, jjA, jjB, jjC, jjD, jjE, jjF])
     refine wpAnyH_ready (rs := [5]) (by kernel_rfl) (by simp) ?_
     refine AllReadyH.cons rfl (fun K hK => ?_) (AllReadyH.nil)
     (have HOA : Hk (PvO (z5.alloc (.cells #[.int .i64 (p.s + 1), .int .i64 p.i, .slice a3 ln c3] 40)) B0 u1) := ⟨(HO5.out.below HZ5.out).below (below_al _ _)⟩; have HRW : Hk (World.ownsRow (z5.alloc (.cells #[.int .i64 (p.s + 1), .int .i64 p.i, .slice a3 ln c3] 40)) B0 40 3 (.slice u.ma u.mn u.mc) u.mn (flt shI u.ml)) := ⟨by have := HOA.out.m.o.row; rw [HXM.out.1, HXM.out.2.1, HXM.out.2.2.1, HXM.out.2.2.2] at this; exact this⟩; have HBL : Hk (B0 ≤ (z5.alloc (.cells #[.int .i64 (p.s + 1), .int .i64 p.i, .slice a3 ln c3] 40)).heap.size) := ⟨Nat.le_trans HL5.out (Nat.le_trans HZ5.out.size (by simp))⟩; refine step_append27 (by rfl) (.tmp 49) (.tmp 52) 22 (by rfl) B0 40 ii (.agg #[.int .i64 0, .int .i64 0, .slice none 0 0]) 3 40 Tryz.underlying22 hii hiz0 hiz1 hiz2 (by rfl) (by decide) (.slice u.ma u.mn u.mc) u.mn (flt shI u.ml) (by rfl) HRW.out ⟨z5.heap.size, 0, none⟩ 1 1 ((⟨p.s + 1, p.i, a3, ln, c3, L3⟩ : Iv).cs) (by rfl) (by rfl) (lit_at z5 _ _) (is_one _) (by have h1 := HMN.out; have h2 := HLM.out.1; unfold maxLen; omega) (by have h1 := HMN.out; have h2 := HLM.out.1; omega) HBL.out ?_; intro v9 z9 hown hgrow; obtain ⟨g9, c9, rfl, hcc9, hg9, hg9'⟩ := row_slice hown (by omega); have HKI := Hk.mk (Kt.grown HBL.out HRW.out hgrow); have HOWN := Hk.mk hown; have HGRW := Hk.mk hgrow; have HQ9a := Hk.mk (((HQ5.out.below HZ5.out).al (.cells #[.int .i64 (p.s + 1), .int .i64 p.i, .slice a3 ln c3] 40)).kt HKI.out (by decide)); have HB9a : Hk (Below B0 V5 z9) := ⟨((HZ5.out.mono HL5.out).trans ((below_al z5 (.cells #[.int .i64 (p.s + 1), .int .i64 p.i, .slice a3 ln c3] 40)).mono (Nat.le_trans HL5.out HZ5.out.size))).trans HKI.out.bl⟩; have w5 := HQ9a.out.bk.c 5; have wf5 := HQ9a.out.bk.f 5; have wl5 := HQ9a.out.lt; simp at w5; clear hown hgrow)
     refine hK.out _ _ ?_ (fun hHeld => ?_)
     ·first | exact kw_S hHeld.2 | exact kw_S (kw_step hHeld.2 HL5.out hb) | exact kw_S (kw_al hHeld.2 HL5.out _) | exact kw_S HB9a.out | exact kw_S (Below.setCell (p := ⟨Q, 5, none⟩) hHeld.2 HQR.out.1 _)
     clear hK K
     (try simp only [Act.put, jjA, jjB, jjC, jjD, jjE, jjF])
     have HI : Ix [6] := trivial
     (refine tkA HI (v := ?_) rfl (by kernel_rfl) (fun _ _ _ h => h) (.inl ⟨by rfl, fun wX hSw => ?_⟩) hHeld (fun HJ => ?_); rotate_left; (focus ((try dsimp only at hSw); go_simp; try with_reducible rfl)); clear HI; have HI := HJ; clear HJ; try simp only [Act.put, jjA, jjB, jjC, jjD, jjE, jjF])
     clear HI
     refine wpAnyH_ready (rs := [7]) (by kernel_rfl) (by simp) ?_
     refine AllReadyH.cons rfl (fun K hK => ?_) (AllReadyH.nil)
     go_simp
     refine hK.out _ _ ?_ (fun hHeld => ?_)
     ·first | exact kw_S hHeld.2 | exact kw_S (kw_step hHeld.2 HL5.out hb) | exact kw_S (kw_al hHeld.2 HL5.out _) | exact kw_S HB9a.out | exact kw_S (Below.setCell (p := ⟨Q, 5, none⟩) hHeld.2 HQR.out.1 _)
     clear hK K
     (try simp only [Act.put, jjA, jjB, jjC, jjD, jjE, jjF])
     refine wpAnyH_done (by kernel_rfl) ?_ _
     have HFQ : Hk (Fr (fun j => j = Q) z9 (z9.setCell ⟨Q, 5, none⟩ (.slice (some ⟨g9, 0, none⟩) (u.mn + 1) c9))) := ⟨Fr.setCell (M := fun j => j = Q) (p := ⟨Q, 5, none⟩) (Fr.refl _ z9) (fun _ => rfl) _⟩
     have HKQ := Hk.mk (Kt.set HQR.out.1 HQ9a.out.bl 5 (.slice (some ⟨g9, 0, none⟩) (u.mn + 1) c9))
     have HN9 : Hk (OwCE z9 V5.heap.size a3 ln c3 L3) := ⟨HKI5 HKI.out HGRW.out HRW.out HO3c.out HZ5.out⟩
     have HM9 : Hk (OwN z9 V3.heap.size (.slice s2 n2 e2) n2 M2) := ⟨((HM5.out.below HZ5.out).below (below_al _ _)).up ((Fr.refl (fun j => Value.ownBlock (.slice u.ma u.mn u.mc) = some j) _).grown HGRW.out (fun j _ e => e)) (fun j hj e => by have := HMLT.out j e; omega)⟩
     have HML9 : Hk (OwN z9 B0 (.slice (some ⟨g9, 0, none⟩) (u.mn + 1) c9) (u.mn + 1) (u.ml ++ [(⟨p.s + 1, p.i, a3, ln, c3, L3⟩ : Iv)])) := ⟨⟨by have h1 := HOA.out.m.o.len; rw [HXM.out.2.1, HXM.out.2.2.2] at h1; rw [List.length_append, h1]; rfl, by rw [flt_app, flt_one1]; exact HOWN.out⟩, fun y hy => by
      rcases List.mem_append.1 hy with hy | hy
      ·exact HKI.out.owce (HOA.out.m.u y (by rw [HXM.out.2.2.2]; exact hy)) (by decide) (by decide)
      ·obtain rfl := List.mem_singleton.1 hy
       exact HN9.out.weak HL5.out⟩
     have HO9a : Hk (PvO z9 B0 { u1 with ma := some ⟨g9, 0, none⟩, mn := u.mn + 1, mc := c9, ml := u.ml ++ [(⟨p.s + 1, p.i, a3, ln, c3, L3⟩ : Iv)] }) := ⟨HML9.out, by rw [HU1.out]; exact HM9.out.weak HV3.out.1, HKI.out.owni HOA.out.h (by decide), HKI.out.owni HOA.out.a (by decide), HKI.out.ow HOA.out.x (by decide)⟩
     go_wp2
     go_meet
     case rel => exact ⟨{ u1 with ma := some ⟨g9, 0, none⟩, mn := u.mn + 1, mc := c9, ml := u.ml ++ [(⟨p.s + 1, p.i, a3, ln, c3, L3⟩ : Iv)] }, ⟨HQ9a.out.set 5 _ _ rfl⟩, ⟨HKQ.out.pvo HO9a.out⟩, ⟨fun x hx => by
       rcases List.mem_append.1 hx with hx | hx
       ·exact .inl (HML.out x hx)
       ·obtain rfl := List.mem_singleton.1 hx
        exact .inr ((HN9.out.up HFQ.out (fun j hj e => by have h1 := HV35.out; have h2 := HV3.out.2.1; omega)).weak HV35.out)⟩, ⟨HM9.out.up HFQ.out (fun j hj e => by have := HV3.out.2.1; omega)⟩, ⟨_, _, _, _, rfl, by
       rw [if_pos (of_decide_eq_true HF0.out), abI_app]
       show abI u.ml ++ [(⟨p.s + 1, p.i, abC L3⟩ : In)] = abI u.ml ++ [⟨p.s + 1, p.i, abC l⟩]
       rw [HA3c.out, HCA.out], smI_snoc HSU.out.m (smC_like HA3c.out (fun x hx => (HO3c.out.u x hx).nq.len) HLC.out HSC.out) (by have h1 := HOA.out.m.o.len; rw [HXM.out.2.1, HXM.out.2.2.2] at h1; have h2 := HMN.out; have h3 := HLM.out.1; omega)⟩, ⟨((((HR5.out.below HZ5.out).al (.cells #[.int .i64 (p.s + 1), .int .i64 p.i, .slice a3 ln c3] 40)).kt HKI.out (by decide)).oth HQR.out.2.1 _ _)⟩, ⟨((((HP5.out.below HZ5.out).al (.cells #[.int .i64 (p.s + 1), .int .i64 p.i, .slice a3 ln c3] 40)).kt HKI.out (by decide)).oth HQR.out.2.2.1 _ _)⟩, ⟨(HB5.out.trans (HB9a.out.mono HQR.out.2.2.2.1)).trans (HKQ.out.bl.mono HQR.out.2.2.2.1)⟩⟩
 case rest =>
 obtain ⟨u2, HQ6, HO6, HMX, HM6, HU2, HR6, HP6, HB6⟩ := hcut
 clear HQ5 HO5 HM5 HR5 HP5 HB5 HX5 HC5 HF0 HL5
 clear y0 y1 y2 y3 y4 y5 y6 y7 y8 y9 y10 yl
 clear d0 d1 d2 d3 d4 d5 d6 d7 d8 d9 d10 dl q4 q5 q6
 have HS2 : Hk (u2.s = p.s) := ⟨by obtain ⟨_, _, _, _, e, _⟩ := HU2.out; rw [e, HU1.out]; exact ((ab_iff u p).1 HAU.out).2.2.2.2.1⟩
 obtain ⟨y0, y1, y2, y3, y4, y5, y6, y7, y8, y9, y10, yl⟩ := HP6.out.cs
 obtain ⟨d0, d1, d2, d3, d4, d5, d6, d7, d8, d9, d10, dl⟩ := HQ6.out.cs; obtain ⟨-, -, -, -, q4, q5, q6, -, -, -, -⟩ := HQ6.out.fs
 have gs : IntKind.i64.wrap (u2.s + 1) = u2.s + 1 := wr27 (by have h1 := HS2.out; have h2 := HOK.out.c.s1; have h3 := HOK.out.c.d1; have e1 : p.ab.s = p.s := rfl; omega) (by have h1 := HS2.out; have h2 := HOK.out.c.s3; have e1 : p.ab.s = p.s := rfl; omega)
 obtain ⟨kk, hkk⟩ : ∃ kk : Nat, p.i = (kk : Int) + 1 := ⟨p.i.toNat - 1, by have := HK1.out; omega⟩
 have gi : IntKind.i64.wrap (p.i - 1) = (kk : Int) := by rw [wr27 (by have := HK1.out; omega) (by have := HK1.out; omega)]; omega
 have HKK : Hk (p.i.toNat - 1 = kk ∧ kk < p.hn ∧ kk < p.an) := ⟨by have := HK1.out; omega⟩
 clear hkk
 go_upto_region 11 with fail
 obtain ⟨u3, hu3⟩ : ∃ x : Pv, x = { u2 with s := u2.s + 1 } := ⟨_, rfl⟩
 have HF6 : Hk (Fr (fun j => j = Q) wc (wc.setCell ⟨Q, 4, none⟩ (.int .i64 (u2.s + 1)))) := ⟨Fr.setCell (M := fun j => j = Q) (p := ⟨Q, 4, none⟩) (Fr.refl _ wc) (fun _ => rfl) _⟩
 have HQ7 : Hk (Bx (wc.setCell ⟨Q, 4, none⟩ (.int .i64 (u2.s + 1))) Q u3) := ⟨by rw [hu3]; exact HQ6.out.set 4 _ _ rfl⟩
 have HR7 : Hk (Bx (wc.setCell ⟨Q, 4, none⟩ (.int .i64 (u2.s + 1))) (w.heap.size + 1) nilV) := ⟨HR6.out.oth HQR.out.2.1 _ _⟩
 have HP7 : Hk (Bx (wc.setCell ⟨Q, 4, none⟩ (.int .i64 (u2.s + 1))) w.heap.size p) := ⟨HP6.out.oth HQR.out.2.2.1 _ _⟩
 have HK7 := Hk.mk (Kt.set HQR.out.1 HQ6.out.bl 4 (.int .i64 (u2.s + 1)))
 have HO7 : Hk (PvO (wc.setCell ⟨Q, 4, none⟩ (.int .i64 (u2.s + 1))) B0 u3) := ⟨by rw [hu3]; have o := HK7.out.pvo HO6.out; exact ⟨o.m, o.l, o.h, o.a, o.x⟩⟩
 have HM7 : Hk (OwN (wc.setCell ⟨Q, 4, none⟩ (.int .i64 (u2.s + 1))) V3.heap.size (.slice s2 n2 e2) n2 M2) := ⟨HM6.out.up HF6.out (fun j hj e => by have := HV3.out.2.1; omega)⟩
 have HX7 : Hk (∀ x, x ∈ u3.ml → (∃ W0, CmD W0 N3 x.a x.n x.l) ∨ OwCE (wc.setCell ⟨Q, 4, none⟩ (.int .i64 (u2.s + 1))) V3.heap.size x.a x.n x.c x.l) := ⟨fun x hx => (HMX.out x (by rw [hu3] at hx; exact hx)).imp id (fun o => o.up HF6.out (fun j hj e => by have := HV3.out.2.1; omega))⟩
 have HB7 := Hk.mk (HB6.out.trans (HK7.out.bl.mono HQR.out.2.2.2.1))
 have HSS : Hk (u3.s = u2.s + 1) := ⟨by rw [hu3]⟩
 have HEH : Hk (u3.ha = some ⟨gh, 0, none⟩ ∧ u3.aa = some ⟨ga, 0, none⟩ ∧ u3.hn = p.hn ∧ u3.an = p.an ∧ u3.ll = M2 ∧ u3.ha = u.ha ∧ u3.hn = u.hn) := ⟨by obtain ⟨_, _, _, _, e, _⟩ := HU2.out; rw [hu3, e, HU1.out]; exact ⟨HGH.out.1, HGA.out.1, HLN.out.1, HLN.out.2, rfl, rfl, rfl⟩⟩
 have HU3 := Hk.mk hu3
 clear hu3 HF6 HQ6 HR6 HP6 HK7 HO6 HM6 HMX HB6 gs
 clear y0 y1 y2 y3 y4 y5 y6 y7 y8 y9 y10 yl
 clear d0 d1 d2 d3 d4 d5 d6 d7 d8 d9 d10 dl q4 q5 q6
 generalize (wc.setCell ⟨Q, 4, none⟩ (.int .i64 (u2.s + 1))) = V7 at *
 have HOH : Hk (OwnI V7 B0 (.slice (some ⟨gh, 0, none⟩) p.hn u3.hc) p.hn u3.hl) := ⟨by have := HO7.out.h; rw [HEH.out.1, HEH.out.2.2.1] at this; exact this⟩
 obtain ⟨b8, o8, e8, _, hc8⟩ := HOH.out.nq2.at_ (by have := HK1.out; omega)
 injection e8 with e8
 injection e8 with e81 e82
 subst e81 e82
 have xh : V7.cell? ⟨gh, kk, none⟩ = some (.int .i64 (u3.hl.getD kk 0)) := by have := hc8 kk HKK.out.2.1; rw [Nat.zero_add] at this; exact this
 have fh := HOH.out.2.frozenAt kk
 clear hc8
 obtain ⟨y0, y1, y2, y3, y4, y5, y6, y7, y8, y9, y10, yl⟩ := HP7.out.cs
 obtain ⟨d0, d1, d2, d3, d4, d5, d6, d7, d8, d9, d10, dl⟩ := HQ7.out.cs; obtain ⟨-, -, -, -, q4, q5, q6, -, -, -, -⟩ := HQ7.out.fs
 have t0 : (0 : Int) ≤ (kk : Int) := by omega
 have t1 : (kk : Int) < (p.hn : Int) := by have := HKK.out; omega
 have t2 : kk < p.hn := HKK.out.2.1
 rw [HEH.out.1, HEH.out.2.2.1] at d7
 go_upto_region 12 with fail
 obtain ⟨u4, hu4⟩ : ∃ x : Pv, x = { u3 with hl := u3.hl.set kk u3.s } := ⟨_, rfl⟩
 have HKN := Hk.mk (kt_num HOH.out kk u3.s)
 have HFN := Hk.mk (fr_num V7 gh kk u3.s)
 have HQ8 : Hk (Bx (V7.setCell ⟨gh, kk, none⟩ (.int .i64 u3.s)) Q u4) := ⟨by rw [hu4]; exact ⟨(HQ7.out.kt HKN.out (by decide)).bl⟩⟩
 have HR8 : Hk (Bx (V7.setCell ⟨gh, kk, none⟩ (.int .i64 u3.s)) (w.heap.size + 1) nilV) := ⟨HR7.out.kt HKN.out (by decide)⟩
 have HP8 : Hk (Bx (V7.setCell ⟨gh, kk, none⟩ (.int .i64 u3.s)) w.heap.size p) := ⟨HP7.out.kt HKN.out (by decide)⟩
 have HAB : Hk (OwnI V7 N4 (.slice u3.aa u3.an u3.ac) u3.an u3.al) := ⟨by have := HO7.out.a; rw [HEH.out.2.1] at this ⊢; exact this.base HGA.out.2.1⟩
 have HO8 : Hk (PvO (V7.setCell ⟨gh, kk, none⟩ (.int .i64 u3.s)) B0 u4) := ⟨by
  rw [hu4]
  exact HO7.out.has HEH.out.1 (fun x hx => (HX7.out x hx).imp id (fun o => o.weak HN34.out.2.2)) (fun x hx => .inr ((HM7.out.u x (by rw [HEH.out.2.2.2.2.1] at hx; exact hx)).weak HN34.out.2.2)) HAB.out HGH.out.2.1 HGH.out.2.2 (Nat.le_trans HN34.out.1 HN34.out.2.1)⟩
 have HX8 : Hk (∀ x, x ∈ u4.ml → (∃ W0, CmD W0 N4 x.a x.n x.l) ∨ OwCE (V7.setCell ⟨gh, kk, none⟩ (.int .i64 u3.s)) V3.heap.size x.a x.n x.c x.l) := ⟨fun x hx => (HX7.out x (by rw [hu4] at hx; exact hx)).imp (fun ⟨W0, h⟩ => ⟨W0, h.mono HN34.out.2.1⟩) (fun o => o.up HFN.out (fun j hj e => by have := HGH.out.2.2; have := HN34.out.2.2; omega))⟩
 have HM8 : Hk (OwN (V7.setCell ⟨gh, kk, none⟩ (.int .i64 u3.s)) V3.heap.size (.slice s2 n2 e2) n2 M2) := ⟨HM7.out.up HFN.out (fun j hj e => by have := HGH.out.2.2; have := HN34.out.2.2; omega)⟩
 have HB8 := Hk.mk (HB7.out.trans (HKN.out.bl.mono HQR.out.2.2.2.1))
 have HU4 := Hk.mk hu4
 have HEA : Hk (u4.aa = some ⟨ga, 0, none⟩ ∧ u4.an = p.an ∧ u4.ll = M2 ∧ u4.ha = u.ha ∧ u4.hn = u.hn ∧ u4.s = u3.s) := ⟨by rw [hu4]; exact ⟨HEH.out.2.1, HEH.out.2.2.2.1, HEH.out.2.2.2.2.1, HEH.out.2.2.2.2.2.1, HEH.out.2.2.2.2.2.2, rfl⟩⟩
 clear hu4 HKN HFN HQ7 HR7 HP7 HAB HO7 HX7 HM7 HB7 HOH xh fh
 clear y0 y1 y2 y3 y4 y5 y6 y7 y8 y9 y10 yl
 clear d0 d1 d2 d3 d4 d5 d6 d7 d8 d9 d10 dl q4 q5 q6
 generalize (V7.setCell ⟨gh, kk, none⟩ (.int .i64 u3.s)) = V8 at *
 have HOA : Hk (OwnI V8 B0 (.slice (some ⟨ga, 0, none⟩) p.an u4.ac) p.an u4.al) := ⟨by have := HO8.out.a; rw [HEA.out.1, HEA.out.2.1] at this; exact this⟩
 obtain ⟨b9, o9, e9, _, hc9⟩ := HOA.out.nq2.at_ (by have := HK1.out; omega)
 injection e9 with e9
 injection e9 with e91 e92
 subst e91 e92
 have xa : V8.cell? ⟨ga, kk, none⟩ = some (.int .i64 (u4.al.getD kk 0)) := by have := hc9 kk HKK.out.2.2; rw [Nat.zero_add] at this; exact this
 have fa := HOA.out.2.frozenAt kk
 clear hc9
 obtain ⟨y0, y1, y2, y3, y4, y5, y6, y7, y8, y9, y10, yl⟩ := HP8.out.cs
 obtain ⟨d0, d1, d2, d3, d4, d5, d6, d7, d8, d9, d10, dl⟩ := HQ8.out.cs; obtain ⟨-, -, -, -, q4, q5, q6, -, -, -, -⟩ := HQ8.out.fs
 have t3 : (kk : Int) < (p.an : Int) := by have := HKK.out; omega
 have t4 : kk < p.an := HKK.out.2.2
 rw [HEA.out.1, HEA.out.2.1] at d8
 go_upto_region 13 with fail
 obtain ⟨u5, hu5⟩ : ∃ x : Pv, x = { u4 with al := u4.al.set kk u4.s } := ⟨_, rfl⟩
 have HKN := Hk.mk (kt_num HOA.out kk u4.s)
 have HQ9 : Hk (Bx (V8.setCell ⟨ga, kk, none⟩ (.int .i64 u4.s)) Q u5) := ⟨by rw [hu5]; exact ⟨(HQ8.out.kt HKN.out (by decide)).bl⟩⟩
 have HR9 : Hk (Bx (V8.setCell ⟨ga, kk, none⟩ (.int .i64 u4.s)) (w.heap.size + 1) nilV) := ⟨HR8.out.kt HKN.out (by decide)⟩
 have HO9 : Hk (PvO (V8.setCell ⟨ga, kk, none⟩ (.int .i64 u4.s)) B0 u5) := ⟨by
  rw [hu5]
  exact HO8.out.acked (N4 := N4) (N5 := V3.heap.size) HEA.out.1 HX8.out (fun x hx => .inr (HM8.out.u x (by rw [HEA.out.2.2.1] at hx; exact hx))) (by rw [HEA.out.2.2.2.1, HEA.out.2.2.2.2.1]; obtain ⟨W0, h⟩ := HHQ.out; exact ⟨W0, _, h⟩) HGA.out.2.1 (by have h1 := HGA.out.2.2; have h2 := HV3.out.2.1; omega) HV3.out.1⟩
 have HB9 := Hk.mk (HB8.out.trans (HKN.out.bl.mono HQR.out.2.2.2.1))
 have HU5 := Hk.mk hu5
 clear hu5 HKN HQ8 HR8 HP8 HO8 HX8 HM8 HB8 HOA xa fa
 clear y0 y1 y2 y3 y4 y5 y6 y7 y8 y9 y10 yl
 clear d0 d1 d2 d3 d4 d5 d6 d7 d8 d9 d10 dl q4 q5 q6
 generalize (V8.setCell ⟨ga, kk, none⟩ (.int .i64 u4.s)) = V9 at *
 obtain ⟨d0, d1, d2, d3, d4, d5, d6, d7, d8, d9, d10, dl⟩ := HQ9.out.cs; obtain ⟨-, -, -, -, q4, q5, q6, -, -, -, -⟩ := HQ9.out.fs
 obtain ⟨r0, r1, r2, r3, r4, r5, r6, r7, r8, r9, r10, rl⟩ := HR9.out.cs; obtain ⟨f0, f1, f2, f3, f4, f5, f6, f7, f8, f9, f10⟩ := HR9.out.fs
 have HFB := Hk.mk ((Kt.put (B := w.heap.size) HR9.out (by omega) u5))
 go_wp2
 refine bodyPost_ret (v := .tuple #[.agg (jjP u5), .int .i64 0]) (by simp [results, Tryz.results50, go_sem, r0, r1, r2, r3, r4, r5, r6, r7, r8, r9, r10, f0, f1, f2, f3, f4, f5, f6, f7, f8, f9, f10]) rfl ⟨u5, rfl, HFB.out.pvo (HO9.out.weak HQR.out.2.2.2.1), ?_, ?_, HB9.out.trans HFB.out.bl⟩
 ·obtain ⟨ma, mn', mc, ml, e, hml, hsml⟩ := HU2.out
  obtain ⟨b1, b2, b3, b4, b5, b6, b7, b8, b9, b10, b11⟩ := (ab_iff u p).1 HAU.out
  have e5 := HU5.out
  rw [HU4.out, HU3.out, e, HU1.out] at e5
  rw [e5]
  show Pm.mk u.i u.n u.d u.t (u.s + 1) (abI ml) (abI M2) (u.hl.set kk (u.s + 1)) (u.al.set kk (u.s + 1)) u.xl u.b = Pm.mk p.i p.n p.d p.t (p.s + 1) (if 1 < p.n then abI p.ml ++ [sayI p.ab (abC l)] else abI p.ml) M (p.hl.set (p.i.toNat - 1) (p.s + 1)) (p.al.set (p.i.toNat - 1) (p.s + 1)) p.xl p.b
  rw [b1, b2, b3, b4, b5, hml, HA2.out, b6, b8, b9, b10, b11, HKK.out.1]
 ·obtain ⟨ma, mn', mc, ml, e, hml, hsml⟩ := HU2.out
  have e5 := HU5.out
  have hd := HO9.out.d
  rw [HU4.out, HU3.out, e, HU1.out] at e5
  rw [e5] at hd ⊢
  exact ⟨hsml, smI_put HSM.out HA2.out (fun x hx c hc => ((hd.l.u x hx).u c hc).len) HLL.out HLC.out HSU.out.l HSC.out HLL2.out, HSU.out.h, HSU.out.a, HSU.out.x⟩
end Go.Proofs.YtdpblimhfmfbnaaGreat
