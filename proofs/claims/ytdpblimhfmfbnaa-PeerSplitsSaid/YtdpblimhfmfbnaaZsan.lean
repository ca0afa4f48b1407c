import Derived.Shelf.Abstract
import Derived.Deep.QuietTactic
import Derived.BigQuiet
import Derived.Deep.RegionWith
import Derived.Deep.RegionHeld3
import Derived.Deep.DeepCutAuto
import Derived.Deep.DeepFit
import Derived.Outline
import Derived.Test.YtdpblimhfmfbnaaZsac
import Derived.Test.YtdpblimhfmfbnaaZsak
import Derived.Test.YtdpblimhfmfbnaaZsam
import Derived.Test.YtdpblimhfmfbnaaZsal
import Derived.Test.YtdpblimhfmfbnaaZsn
import Derived.Test.YtdpblimhfmfbnaaZsa
import Derived.Test.YtdpblimhfmfbnaaZsf
import Derived.Test.YtdpblimhfmfbnaaZsb
set_option linter.unusedVariables false
set_option linter.unusedSimpArgs false
namespace Go.Proofs.Ytdpblimhfmfbnaa
open Go.ChangeShapes Go.WideShapes Go.ChangeAt Go.RowKit Go.Deep
theorem below1 (m t p : Int) (A : Nat) (a : Option Addr) (n c : Nat) (w : World) (h : w.cell? ⟨A, 0, none⟩ = some (.int .i64 m)) :
  Calls Try.prog 33 #[.agg #[.int .i64 t, .int .i64 p, .slice a n c], .pointer (some ⟨A, 0, none⟩)] w fun e z => e = .returned (.bool (decide (t ≤ m))) ∧ Below w.heap.size w z := by
 have HB : Hk (Below w.heap.size w (w.alloc (.cells #[.int .i64 t, .int .i64 p, .slice a n c] 55))) := ⟨below_al _ _⟩
 have hA : A < w.heap.size := World.block_lt_of_cell? _ _ h
 have x0 : (w.alloc (.cells #[.int .i64 t, .int .i64 p, .slice a n c] 55)).cell? ⟨w.heap.size, 0, none⟩ = some (.int .i64 t) := (Bk.new w #[.int .i64 t, .int .i64 p, .slice a n c] 55).c 0
 have x1 : (w.alloc (.cells #[.int .i64 t, .int .i64 p, .slice a n c] 55)).cell? ⟨A, 0, none⟩ = some (.int .i64 m) := (HB.out.cell (p := ⟨A, 0, none⟩) hA).trans h
 have xl : w.heap.size < (w.alloc (.cells #[.int .i64 t, .int .i64 p, .slice a n c] 55)).heap.size := by simp
 clear h
 go_enter Try.func33, Try.ntmps33
 go_upto_region 1 with fail
 generalize (w.alloc (.cells #[.int .i64 t, .int .i64 p, .slice a n c] 55)) = V at *
 go_wp2
 go_ret
 exact ⟨rfl, HB.out⟩
def IdxR (m : Int) (l : List Iv) (n : Nat) (r : Int) : Prop := (r = -1 ∧ ∀ k, k < n → m < (l.getD k default).t) ∨ ∃ i : Nat, r = (i : Int) ∧ i < n ∧ (∀ k, k < i → m < (l.getD k default).t) ∧ (l.getD i default).t ≤ m
set_option maxRecDepth 100000 in
set_option maxHeartbeats 1600000 in
theorem idxI_any (m : Int) (A : Nat) (a : Option Addr) (n c : Nat) (l : List Iv) (w : World) (h : Qv shI w w.heap.size a n l) (hn : n ≤ 1048576) (hA : w.cell? ⟨A, 0, none⟩ = some (.int .i64 m)) :
  Calls Try.prog 57 #[.slice a n c, .func (.func 33) #[] #[.pointer (some ⟨A, 0, none⟩)]] w fun e z => (∃ r : Int, e = .returned (.int .i64 r) ∧ IdxR m l n r) ∧ Below w.heap.size w z := by
 have eg : ∀ args w, (callFunc 33 args).run Try.prog w = .ok (.enter 33 args) w := enters_of Try.func33 (by kernel_rfl) rfl
 have HI : Hk (∀ X, Below w.heap.size w X → Qv shI X X.heap.size a n l) := ⟨fun X hX => (h.below hX (Nat.le_refl _)).mono hX.size⟩
 have HCA : Hk (∀ X, Below w.heap.size w X → X.cell? ⟨A, 0, none⟩ = some (.int .i64 m)) := ⟨fun X hX => (hX.cell (p := ⟨A, 0, none⟩) (World.block_lt_of_cell? _ _ hA)).trans hA⟩
 have HB : Hk (Below w.heap.size w w) := ⟨Below.refl _ _⟩
 have HL := Hk.mk h.len
 clear h hA
 go_enter Try.func57, Try.ntmps57
 go_wp2_with fail
 go_loopw [8] (fun i wr => ∃ k : Nat, i = .int .i64 k ∧ k ≤ n ∧ Hk (∀ j, j < k → m < (l.getD j default).t) ∧ Hk (Below w.heap.size w wr)) (fun i _ => n - (intOf i).toNat)
 case atStart => exact ⟨0, rfl, by omega, ⟨fun j hj => absurd hj (by omega)⟩, HB⟩
 case round =>
  clear HB
  obtain ⟨k, rfl, hk, HM, HB⟩ := hrel
  by_cases hlt : k < n
  ·have hml : k < l.length := by rw [HL.out]; omega
   obtain ⟨b, off, rfl, hbl, hcc⟩ := (HI.out _ HB.out).rd (by omega)
   have p0 := hcc k hml 0 (by decide)
   have p1 := hcc k hml 1 (by decide)
   have p2 := hcc k hml 2 (by decide)
   have hgd : l[k] = l.getD k default := by simp [List.getD, hml]
   rw [hgd] at p0 p1 p2
   obtain ⟨pq, he⟩ : ∃ e, l.getD k default = e := ⟨_, rfl⟩
   rw [he] at p0 p1 p2
   replace p0 : wr.cell? ⟨b, off + k * 3, none⟩ = some (.int .i64 pq.t) := p0
   replace p1 : wr.cell? ⟨b, off + k * 3 + 1, none⟩ = some (.int .i64 pq.p) := p1
   replace p2 : wr.cell? ⟨b, off + k * 3 + 2, none⟩ = some (.slice pq.a pq.n pq.c) := p2
   have HE := Hk.mk he
   have HCX := Hk.mk (HCA.out wr HB.out)
   clear he hgd hcc
   have m0 : (0 : Int) ≤ (k : Int) := by omega
   have m1 : (k : Int) < (n : Int) := by omega
   have gk : IntKind.i64.wrap ((k : Int) + 1) = ((k + 1 : Nat) : Int) := by push_cast; exact wr27 (by omega) (by omega)
   have HLT := Hk.mk hlt
   by_cases ht : pq.t ≤ m
   ·have d1 : decide (pq.t ≤ m) = true := decide_eq_true ht
    have HT := Hk.mk ht
    clear ht hlt hml
    go_wp2_with (go_at_fn 33; (with_reducible refine (below1 m pq.t pq.p A pq.a pq.n pq.c _ HCX.out).mono ?_); rintro e z ⟨rfl, hb⟩; have HB2 := Hk.mk (HB.out.trans (hb.mono HB.out.size)); clear hb)
    go_ret
    exact ⟨⟨k, rfl, .inr ⟨k, rfl, HLT.out, HM.out, by rw [HE.out]; exact HT.out⟩⟩, HB2.out⟩
   ·have d1 : decide (pq.t ≤ m) = false := decide_eq_false ht
    have HN : Hk (∀ j, j < k + 1 → m < (l.getD j default).t) := ⟨fun j hj => by
     by_cases e : j = k
     ·rw [e, HE.out]; omega
     ·exact HM.out j (by omega)⟩
    clear ht hlt hml
    go_wp2_with (go_at_fn 33; (with_reducible refine (below1 m pq.t pq.p A pq.a pq.n pq.c _ HCX.out).mono ?_); rintro e z ⟨rfl, hb⟩; have HB2 := Hk.mk (HB.out.trans (hb.mono HB.out.size)); clear hb)
    exact ⟨⟨k + 1, by go_num, HLT.out, HN, HB2⟩, by have := HLT.out; simp [intOf]; omega⟩
  ·obtain rfl : k = n := by omega
   go_wp2
   go_ret
   exact ⟨⟨-1, rfl, .inl ⟨rfl, HM.out⟩⟩, HB.out⟩
end Go.Proofs.Ytdpblimhfmfbnaa
namespace Go.Proofs.Ytdpblimhfmfbnaa
open Go.ChangeShapes Go.WideShapes Go.ChangeAt Go.RowKit Go.Deep
structure OwNt (w : World) (B : Nat) (v : Value) (n : Nat) (l : List Nv) : Prop where
 o : Ow shN 58 w B v n l
 u : ∀ x, x ∈ l → OwCE w B x.q.a x.q.n x.q.c x.q.l
section
variable {w z : World} {B B' n : Nat} {v : Value} {l : List Nv}
theorem OwNt.below (h : OwNt w B v n l) (hb : Below w.heap.size w z) : OwNt z B v n l := ⟨h.o.below hb, fun x hx => (h.u x hx).below hb⟩
theorem OwNt.weak (h : OwNt w B v n l) (hb : B' ≤ B) : OwNt w B' v n l := ⟨h.o.weak hb, fun x hx => (h.u x hx).weak hb⟩
theorem OwNt.nil (w : World) (B : Nat) : OwNt w B (.slice none 0 0) 0 [] := ⟨Ow.nil _ _, fun _ h => by cases h⟩
end
theorem OwNt.d {w : World} {B n c : Nat} {a : Option Addr} {l : List Nv} (h : OwNt w B (.slice a n c) n l) : NsD w w.heap.size a n l := ⟨h.o.qv, fun x hx => (h.u x hx).d⟩
def ShT (w : World) (B : Nat) (a : Option Addr) (n c : Nat) : Prop := n ≤ 1048576 ∧ ∃ l, Ow shN 58 w B (.slice a n c) n l ∧ ∀ x, x ∈ l → ShC w B x.q.a x.q.n x.q.c
theorem Kt.shn {T0 : TypeId} {B n c : Nat} {w z : World} {a : Option Addr} (h : Kt T0 B w z) (o : ShN w B a n c) (ne : (3 : TypeId) ≠ T0) : ShN z B a n c := ⟨o.1, by
 obtain ⟨u, hu⟩ := o.2
 exact ⟨u, h.owe hu ne⟩⟩
theorem Kt.shc {T0 : TypeId} {B n c : Nat} {w z : World} {a : Option Addr} (h : Kt T0 B w z) (o : ShC w B a n c) (ne : (3 : TypeId) ≠ T0) (n2 : 50 ≠ T0) : ShC z B a n c := ⟨o.1, by
 rcases o.2 with ⟨l, ho, hu⟩ | h0
 ·exact .inl ⟨l, h.ow ho n2, fun x hx => h.shn (hu x hx) ne⟩
 ·exact .inr h0⟩
theorem OwCE.shc {w : World} {B n c : Nat} {a : Option Addr} {l : List Cv} (h : OwCE w B a n c l) (hs : SmC l) (hl : n = l.length) : ShC w B a n c := by
 rcases h with h | ⟨rfl, rfl, rfl⟩
 ·exact h.shc hs
 ·exact ⟨Nat.zero_le _, .inr ⟨rfl, rfl⟩⟩
def zrN : Nv := ⟨-9, 0, ⟨0, 0, none, 0, 0, []⟩, 0, 0, 0⟩
end Go.Proofs.Ytdpblimhfmfbnaa
namespace Go.Proofs.Ytdpblimhfmfbnaa
open Go.ChangeShapes Go.WideShapes Go.ChangeAt Go.RowKit Go.Deep
structure ShP (w : World) (B : Nat) (p : Pv) : Prop where
 m : ShI w B p.ma p.mn p.mc
 l : ShI w B p.la p.ln p.lc
 h : ShN w B p.ha p.hn p.hc
 a : ShN w B p.aa p.an p.ac
 x : ∃ xl, Ow shU 56 w B (.slice p.xa p.xn p.xc) p.xn xl
 xn : p.xn ≤ 1048576
theorem ShP.of {w : World} {B : Nat} {p : Pv} (h : PvO w B p) (hs : PvS p) : ShP w B p := ⟨h.m.shi hs.m, h.l.shi hs.l, shn_of hs.h ⟨_, h.h⟩, shn_of hs.a ⟨_, h.a⟩, ⟨_, h.x⟩, hs.x⟩
theorem Sj.shn {B n c : Nat} {w z : World} {a : Option Addr} (k : Sj B w z) (h : ShN w B a n c) : ShN z B a n c := ⟨h.1, by
 obtain ⟨u, h | h⟩ := h.2
 ·obtain ⟨u', h'⟩ := k.p _ _ _ _ h
  exact ⟨u', .inl h'⟩
 ·exact ⟨u, .inr h⟩⟩
theorem ShP.sj {B : Nat} {w z : World} {p : Pv} (h : ShP w B p) (k : Sj B w z) : ShP z B p := ⟨k.s.i _ _ _ h.m, k.s.i _ _ _ h.l, k.shn h.h, k.shn h.a, by
 obtain ⟨xl, hx⟩ := h.x
 exact ⟨xl, k.ow hx (by decide) (by decide) (by decide)⟩, h.xn⟩
theorem ShP.below {B : Nat} {w z : World} {p : Pv} (h : ShP w B p) (hB : B ≤ w.heap.size) (hb : Below w.heap.size w z) : ShP z B p := h.sj (Sj.of_all hB hb)
theorem Kt.shi {T0 : TypeId} {B n c : Nat} {w z : World} {a : Option Addr} (h : Kt T0 B w z) (o : ShI w B a n c) (ne : (3 : TypeId) ≠ T0) (n2 : 50 ≠ T0) (n3 : 55 ≠ T0) : ShI z B a n c := ⟨o.1, by
 obtain ⟨l, ho, hu⟩ := o.2
 exact ⟨l, h.ow ho n3, fun x hx => h.shc (hu x hx) ne n2⟩⟩
theorem ShP.kt {B : Nat} {w z : World} {p : Pv} (h : ShP w B p) (k : Kt 28 B w z) : ShP z B p := ⟨k.shi h.m (by decide) (by decide) (by decide), k.shi h.l (by decide) (by decide) (by decide), k.shn h.h (by decide), k.shn h.a (by decide), by
 obtain ⟨xl, hx⟩ := h.x
 exact ⟨xl, k.ow hx (by decide)⟩, h.xn⟩
theorem ShP.num {B n c g : Nat} {w : World} {p : Pv} {u : List Int} (h : ShP w B p) (o : OwnI w B (.slice (some ⟨g, 0, none⟩) n c) n u) (k : Nat) (y : Int) : ShP (w.setCell ⟨g, k, none⟩ (.int .i64 y)) B p := h.sj (Sj.of_sc (Sc.of_sn (Sn.setI o k y)))
theorem InD.num {w z : World} {B N3 N4 n c g : Nat} {a : Option Addr} {l : List Iv} (o : Ow shI 55 w B (.slice a n c) n l) (hu : ∀ x, x ∈ l → CmD w N3 x.a x.n x.l ∨ OwCE w N4 x.a x.n x.c x.l) (k : Fr (fun j => j = g) w z) (h3 : N3 ≤ g) (h4 : g < N4) (h5 : N3 ≤ w.heap.size) (hg : ∃ cur fr, w.heap[g]? = some (.cells cur 3 fr)) : InD z z.heap.size a n l := by
 have hB : Below N3 w z := k.below h5 (fun j _ e => by omega)
 have ho : Ow shI 55 z B (.slice a n c) n l := o.fr k fun j hj e => by
  obtain ⟨cur, fr, e1⟩ := o.typ hj
  obtain ⟨cur2, fr2, e2⟩ := hg
  subst e
  rw [e1] at e2
  injection e2 with e2
  injection e2 with _ e2
  exact absurd e2 (by decide)
 refine ⟨ho.qv, fun x hx => ?_⟩
 rcases hu x hx with h | h
 ·exact (h.below hB (Nat.le_refl _)).mono (Nat.le_trans h5 k.size)
 ·exact (h.up k (fun j hj e => by omega)).d
end Go.Proofs.Ytdpblimhfmfbnaa
namespace Go.Proofs.Ytdpblimhfmfbnaa
open Go.ChangeShapes Go.WideShapes Go.ChangeAt Go.RowKit Go.Deep
section
variable {w : World} {B N3 N4 g k n' c' : Nat} {y : Int} {u' : List Int}
theorem fr_num (w : World) (g k : Nat) (y : Int) : Fr (fun j => j = g) w (w.setCell ⟨g, k, none⟩ (.int .i64 y)) := Fr.setCell (M := fun j => j = g) (p := ⟨g, k, none⟩) (Fr.refl _ w) (fun _ => rfl) _
theorem OwnI.num {n c : Nat} {a : Option Addr} {u : List Int} (h : OwnI w B (.slice a n c) n u) (hq : ∃ W0, Nq W0 N3 a n u) (o : OwnI w B (.slice (some ⟨g, 0, none⟩) n' c') n' u') (h3 : N3 ≤ g) : OwnI (w.setCell ⟨g, k, none⟩ (.int .i64 y)) B (.slice a n c) n u := by
 by_cases hn : n = 0
 ·subst hn
  obtain ⟨u2, h2⟩ := (Sn.setI o k y).p _ _ _ _ h
  have e1 := h2.1
  have e2 := h.1
  obtain rfl : u2 = u := by rw [List.eq_nil_of_length_eq_zero e1, List.eq_nil_of_length_eq_zero e2]
  exact h2
 ·obtain ⟨W0, hq⟩ := hq
  obtain ⟨b, off, e, hb, _⟩ := hq.rd (by omega)
  subst e
  exact Fr.owni h (fr_num w g k y) fun j hj e => by
   simp [Value.ownBlock] at hj
   omega
theorem OwE.num {n c : Nat} {a : Option Addr} {u : List Int} (h : OwE w B a n c u) (hq : ∃ W0, Nq W0 N3 a n u) (o : OwnI w B (.slice (some ⟨g, 0, none⟩) n' c') n' u') (h3 : N3 ≤ g) : OwE (w.setCell ⟨g, k, none⟩ (.int .i64 y)) B a n c u := h.imp (fun h => h.num hq o h3) id
theorem kt_num (o : OwnI w B (.slice (some ⟨g, 0, none⟩) n' c') n' u') (k : Nat) (y : Int) : Kt 3 B w (w.setCell ⟨g, k, none⟩ (.int .i64 y)) := by
 obtain ⟨cur, fr, e⟩ := o.typ (j := g) rfl
 exact Kt.set (o.lt g rfl).1 e k _
theorem OwC.num {n : Nat} {v : Value} {l : List Cv} (h : OwC w B v n l) (hq : ∀ x, x ∈ l → ∃ W0, Nq W0 N3 x.a x.m x.u) (o : OwnI w B (.slice (some ⟨g, 0, none⟩) n' c') n' u') (h3 : N3 ≤ g) : OwC (w.setCell ⟨g, k, none⟩ (.int .i64 y)) B v n l := ⟨(kt_num o k y).ow h.o (by decide), fun x hx => (h.u x hx).num (hq x hx) o h3⟩
theorem OwCE.num {n c : Nat} {a : Option Addr} {l : List Cv} (h : OwCE w B a n c l) (hq : (∃ W0, CmD W0 N3 a n l) ∨ OwCE w N4 a n c l) (o : OwnI w B (.slice (some ⟨g, 0, none⟩) n' c') n' u') (h3 : N3 ≤ g) (h4 : g < N4) (hB : B ≤ N4) : OwCE (w.setCell ⟨g, k, none⟩ (.int .i64 y)) B a n c l := by
 rcases hq with ⟨W0, hq⟩ | hq
 ·exact h.imp (fun h => h.num (fun x hx => ⟨W0, hq.u x hx⟩) o h3) id
 ·exact (hq.up (fr_num w g k y) (fun j hj e => by omega)).weak hB
theorem OwN.num {n : Nat} {v : Value} {l : List Iv} (h : OwN w B v n l) (hq : ∀ x, x ∈ l → (∃ W0, CmD W0 N3 x.a x.n x.l) ∨ OwCE w N4 x.a x.n x.c x.l) (o : OwnI w B (.slice (some ⟨g, 0, none⟩) n' c') n' u') (h3 : N3 ≤ g) (h4 : g < N4) (hB : B ≤ N4) : OwN (w.setCell ⟨g, k, none⟩ (.int .i64 y)) B v n l := ⟨(kt_num o k y).ow h.o (by decide), fun x hx => (h.u x hx).num (hq x hx) o h3 h4 hB⟩
theorem OwnI.put {n c : Nat} {u : List Int} (h : OwnI w B (.slice (some ⟨g, 0, none⟩) n c) n u) (k : Nat) (y : Int) : OwnI (w.setCell ⟨g, k, none⟩ (.int .i64 y)) B (.slice (some ⟨g, 0, none⟩) n c) n (u.set k y) := by
 refine ⟨by rw [List.length_set]; exact h.1, ?_⟩
 have := (h.2.stored k (.int .i64 y)).1
 rw [List.map_set]
 exact this
end
theorem PvO.has {w : World} {B N3 N4 g k : Nat} {y : Int} {p : Pv} (h : PvO w B p) (e : p.ha = some ⟨g, 0, none⟩) (hm : ∀ x, x ∈ p.ml → (∃ W0, CmD W0 N3 x.a x.n x.l) ∨ OwCE w N4 x.a x.n x.c x.l) (hl : ∀ x, x ∈ p.ll → (∃ W0, CmD W0 N3 x.a x.n x.l) ∨ OwCE w N4 x.a x.n x.c x.l) (ha : OwnI w N4 (.slice p.aa p.an p.ac) p.an p.al) (h3 : N3 ≤ g) (h4 : g < N4) (hB : B ≤ N4) : PvO (w.setCell ⟨g, k, none⟩ (.int .i64 y)) B { p with hl := p.hl.set k y } := by
 have o := h.h
 rw [e] at o
 refine ⟨h.m.num hm o h3 h4 hB, h.l.num hl o h3 h4 hB, ?_, (Fr.owni ha (fr_num w g k y) (fun j hj e => by have := (ha.lt j hj).1; omega)).weak hB, (kt_num o k y).ow h.x (by decide)⟩
 show OwnI _ B (.slice p.ha p.hn p.hc) p.hn (p.hl.set k y)
 rw [e]
 exact o.put k y
theorem PvO.acked {w : World} {B N4 N5 g k : Nat} {y : Int} {p : Pv} (h : PvO w B p) (e : p.aa = some ⟨g, 0, none⟩) (hm : ∀ x, x ∈ p.ml → (∃ W0, CmD W0 N4 x.a x.n x.l) ∨ OwCE w N5 x.a x.n x.c x.l) (hl : ∀ x, x ∈ p.ll → (∃ W0, CmD W0 N4 x.a x.n x.l) ∨ OwCE w N5 x.a x.n x.c x.l) (hh : ∃ W0 hl0, Nq W0 N4 p.ha p.hn hl0) (h3 : N4 ≤ g) (h4 : g < N5) (hB : B ≤ N5) : PvO (w.setCell ⟨g, k, none⟩ (.int .i64 y)) B { p with al := p.al.set k y } := by
 have o := h.a
 rw [e] at o
 have hq : ∃ W0, Nq W0 N4 p.ha p.hn p.hl := by
  obtain ⟨W0, hl0, hh⟩ := hh
  refine ⟨w, h.h.nq2.len, fun hn => ?_⟩
  obtain ⟨b, off, e1, _, hc⟩ := h.h.nq2.rd hn
  obtain ⟨b', off', e2, hb, _⟩ := hh.rd hn
  rw [e1] at e2
  injection e2 with e2
  injection e2 with e3 e4
  subst e3
  exact ⟨b, off, e1, hb, hc⟩
 refine ⟨h.m.num hm o h3 h4 hB, h.l.num hl o h3 h4 hB, h.h.num hq o h3, ?_, (kt_num o k y).ow h.x (by decide)⟩
 show OwnI _ B (.slice p.aa p.an p.ac) p.an (p.al.set k y)
 rw [e]
 exact o.put k y
end Go.Proofs.Ytdpblimhfmfbnaa
namespace Go.Proofs.Ytdpblimhfmfbnaa
open List renaming getElem_toArray → jjA, getElem_cons_succ → jjB, getElem_cons_zero → jjC, setIfInBounds_toArray → jjD, set_cons_zero → jjE, set_cons_succ → jjF
open Go.ChangeShapes Go.WideShapes Go.ChangeAt Go.RowKit Go.Deep
theorem smC_like {L l : List Cv} (h : abC L = abC l) (h1 : ∀ x, x ∈ L → x.u.length = x.m) (h2 : ∀ x, x ∈ l → x.u.length = x.m) (hs : SmC l) : SmC L := ⟨by have e := congrArg List.length h; rw [abC_len, abC_len] at e; have := hs.n; omega, fun x hx => by
 have hm : x.ab ∈ abC L := List.mem_map_of_mem hx
 rw [h] at hm
 obtain ⟨y, hy, e⟩ := List.mem_map.1 hm
 have e2 : y.u = x.u := congrArg (fun c => c.f.u) e
 have := hs.m y hy
 rw [← h1 x hx, ← e2, h2 y hy]
 exact this⟩
def noneI : In := ⟨-1, 0, []⟩
def lackM (p : Pm) (k : Nat) : In := p.m.getD (p.a.getD k 0 - minL p.a).toNat noneI
def noteM (p : Pm) (k : Nat) : Nm := ⟨p.i, (k : Int) + 1, lackM p k, if p.x.length = 0 then -1 else p.t - 1, if p.x.length = 0 then 0 else p.x.getD (p.x.length - 1) 0, p.h.getD k 0⟩
def nsM (p : Pm) : Nat → List Nm
 | 0 => []
 | k + 1 => if (k : Int) + 1 = p.i then nsM p k else nsM p k ++ [noteM p k]
structure LkP (p : Pv) (k : Nat) (low ak : Int) : Prop where
 lo : minL p.al = low
 aq : p.al.getD k 0 = ak
 le : low ≤ ak
 l0 : 0 ≤ low
 l1 : ak ≤ 1099511627776
 mt : ∀ j, j < p.mn → (p.ml.getD j default).t = low + 1 + j
theorem lkP_of {p : Pv} {w : World} {B k : Nat} (h : PvD w B p) (hk : OkP p.ab) (hka : k < p.an) : LkP p k (minL p.al) (p.al.getD k 0) := by
 have hal : p.al.length = p.an := h.a.len
 have hne : p.al ≠ [] := by intro e; rw [e] at hal; simp at hal; omega
 have hmem : p.al.getD k 0 ∈ p.al := by
  have : k < p.al.length := by omega
  simp [List.getD, this]
 have h1 := min_le hmem
 have hb : ∀ j, j < p.al.length → p.d - 1 ≤ p.al.getD j 0 ∧ p.al.getD j 0 ≤ p.s := fun j hj => by
  have hj2 : j < p.ab.h.length := by
   have h1 := hk.k.h1
   have h2 := hk.k.a1
   have h3 : (p.ab.a.length : Int) = p.al.length := rfl
   omega
  exact (hk.k.all j hj2).2.2.2
 obtain ⟨j, hj, e⟩ := List.mem_iff_getElem.1 (min_mem hne)
 have h2 := hb j hj
 rw [show p.al.getD j 0 = minL p.al by rw [← e]; simp [List.getD, hj]] at h2
 have h3 := hb k (by omega)
 have h4 := hk.c.d1
 have h5 := hk.c.s3
 have e4 : p.ab.d = p.d := rfl
 have e5 : p.ab.s = p.s := rfl
 refine ⟨rfl, rfl, h1, by omega, by omega, fun j hj => ?_⟩
 exact ((kp_in p h.m.q.len).1 hk.e |>.2.2 j hj).2
theorem lack_at {p : Pv} {k : Nat} {low ak : Int} (h : LkP p k low ak) {j : Nat} (hj : j < p.ml.length) (e : (j : Int) = ak - low) : lackM p.ab k = (p.ml.getD j default).ab := by
 show (abI p.ml).getD (p.al.getD k 0 - minL p.al).toNat noneI = _
 rw [h.lo, h.aq, ← e]
 simp [List.getD, abI, hj]
theorem lack_none {p : Pv} {k : Nat} {low ak : Int} (h : LkP p k low ak) (e : (p.ml.length : Int) ≤ ak - low) : lackM p.ab k = noneI := by
 show (abI p.ml).getD (p.al.getD k 0 - minL p.al).toNat noneI = _
 rw [h.lo, h.aq]
 have : p.ml.length ≤ (ak - low).toNat := by omega
 simp [List.getD, abI, this]
set_option maxRecDepth 100000 in
set_option maxHeartbeats 3200000 in
theorem lack_any (p : Pv) (k : Nat) (T : Int) (w : World) (hT : IntKind.i64.wrap (T - 1) = (k : Int)) (h : PvD w w.heap.size p) (hs : PvS p) (hk : OkP p.ab) (hka : k < p.an) :
  Calls Try.prog 29 #[.agg (jjP p), .int .i64 T] w fun e z => ∃ q : Iv, e = .returned (.agg #[.int .i64 q.t, .int .i64 q.p, .slice q.a q.n q.c]) ∧ OwCE z w.heap.size q.a q.n q.c q.l ∧ q.ab = lackM p.ab k ∧ SmC q.l ∧ Below w.heap.size w z := by
 have HLK := Hk.mk (lkP_of h hk hka)
 obtain ⟨low, hlow⟩ : ∃ low, low = minL p.al := ⟨_, rfl⟩
 obtain ⟨ak, hak⟩ : ∃ ak, ak = p.al.getD k 0 := ⟨_, rfl⟩
 rw [← hlow, ← hak] at HLK
 have HAK := Hk.mk hak
 have HKA := Hk.mk hka
 have HML := Hk.mk h.m.q.len
 have HSM := Hk.mk hs.m
 have hmn : p.mn ≤ 1048576 := by have := hs.m.n; rw [h.m.q.len] at this; exact this
 have HAN : Hk (p.an ≤ 1048576) := ⟨hs.a⟩
 have HBW : Hk (Below w.heap.size w ((w.alloc (.cells (jjP p) 28)).alloc (.cells #[.int .i64 0, .int .i64 0, .slice none 0 0] 55))) := ⟨((Below.refl _ _).alloc (Nat.le_refl _) _).alloc (by simp) _⟩
 have HPB : Hk (Bk ((w.alloc (.cells (jjP p) 28)).alloc (.cells #[.int .i64 0, .int .i64 0, .slice none 0 0] 55)) w.heap.size (jjP p)) := ⟨(Bk.new w (jjP p) 28).al _⟩
 have e1 : (w.alloc (.cells (jjP p) 28)).heap.size = w.heap.size + 1 := by simp
 have HRB : Hk (Bk ((w.alloc (.cells (jjP p) 28)).alloc (.cells #[.int .i64 0, .int .i64 0, .slice none 0 0] 55)) (w.heap.size + 1) #[.int .i64 0, .int .i64 0, .slice none 0 0]) := ⟨by rw [← e1]; exact Bk.new (w.alloc (.cells (jjP p) 28)) #[.int .i64 0, .int .i64 0, .slice none 0 0] 55⟩
 have HDP : Hk (∀ X, Below w.heap.size w X → PvD X X.heap.size p) := ⟨fun X hX => h.later hX⟩
 have g1 : IntKind.i64.wrap (ak + 1) = ak + 1 := wr27 (by have h1 := HLK.out.l0; have h2 := HLK.out.le; omega) (by have h1 := HLK.out.l1; omega)
 clear e1 h hs hk hlow hak hka
 go_enter Try.func29, Try.ntmps29
 go_upto_region 1 with fail
 generalize ((w.alloc (.cells (jjP p) 28)).alloc (.cells #[.int .i64 0, .int .i64 0, .slice none 0 0] 55)) = V at *
 have c5 := HPB.out.c 5
 have cl := HPB.out.lt
 simp at c5
 go_wp2
 clear c5 cl
 go_loopw [10] (fun i wr => ∃ (j : Nat), i = .int .i64 j ∧ j ≤ p.mn ∧ Hk ((j : Int) ≤ ak - low) ∧ Hk (Below V.heap.size V wr)) (fun i _ => p.mn - (intOf i).toNat)
 case atStart => exact ⟨0, rfl, Nat.zero_le _, ⟨by have := HLK.out.le; simp; omega⟩, ⟨Below.refl _ _⟩⟩
 case round =>
  obtain ⟨j, rfl, hj, HJ, HB⟩ := hrel
  have HRR := Hk.mk (HRB.out.below HB.out)
  have HPP := Hk.mk (HPB.out.below HB.out)
  have HBX := Hk.mk (HBW.out.trans (HB.out.mono HBW.out.size))
  by_cases hlt : j < p.mn
  ·have HM := (HDP.out _ HBX.out).m
   obtain ⟨b, off, ea, hbl, ⟨p0, p1, p2⟩, hnq⟩ := HM.three hlt
   have hjl : j < p.ml.length := by rw [HML.out]; exact hlt
   obtain ⟨q, hq⟩ : ∃ q, p.ml.getD j default = q := ⟨_, rfl⟩
   have HSQ : Hk (SmC q.l) := ⟨by rw [← hq]; exact HSM.out.m _ (getD_memI hjl)⟩
   have HQT : Hk (q.t = low + 1 + j) := ⟨by rw [← hq]; exact HLK.out.mt j hlt⟩
   rw [hq] at p0 p1 p2 hnq
   have HQD : Hk (∀ X, Below wr.heap.size wr X → CmD X X.heap.size q.a q.n q.l) := ⟨fun X hX => hnq.later hX⟩
   obtain ⟨ba, oa, eb, hba, hca⟩ := (HDP.out _ HBX.out).a.at_ (by have := HKA.out; omega)
   have ca : wr.cell? ⟨ba, oa + k, none⟩ = some (.int .i64 ak) := by rw [HAK.out]; exact hca k HKA.out
   have c5 := HPP.out.c 5
   have c8 := HPP.out.c 8
   have cl := HPP.out.lt
   simp at c5 c8
   rw [eb] at c8
   have t0 : (0 : Int) ≤ (j : Int) := by omega
   have t1 : (j : Int) < (p.mn : Int) := by omega
   have t2 : k < p.an := HKA.out
   have t3 : (0 : Int) ≤ (k : Int) := by omega
   have t4 : (k : Int) < (p.an : Int) := by omega
   have HLT := Hk.mk hlt
   have HQ := Hk.mk hq
   have HJL := Hk.mk hjl
   rw [ea]
   clear hnq hca HM c5 hq
   go_upto_region 4 with fail
   have HNB : Hk (Bk (wr.alloc (.cells #[.int .i64 q.t, .int .i64 q.p, .slice q.a q.n q.c] 55)) wr.heap.size #[.int .i64 q.t, .int .i64 q.p, .slice q.a q.n q.c]) := ⟨Bk.new wr #[.int .i64 q.t, .int .i64 q.p, .slice q.a q.n q.c] 55⟩
   have HX3 : Hk (Below wr.heap.size wr (wr.alloc (.cells #[.int .i64 q.t, .int .i64 q.p, .slice q.a q.n q.c] 55))) := ⟨below_al _ _⟩
   have d8 : (wr.alloc (.cells #[.int .i64 q.t, .int .i64 q.p, .slice q.a q.n q.c] 55)).cell? ⟨w.heap.size, 8, none⟩ = some (.slice (some ⟨ba, oa, none⟩) p.an p.ac) := (HX3.out.cell (p := ⟨w.heap.size, 8, none⟩) cl).trans c8
   have da : (wr.alloc (.cells #[.int .i64 q.t, .int .i64 q.p, .slice q.a q.n q.c] 55)).cell? ⟨ba, oa + k, none⟩ = some (.int .i64 ak) := (HX3.out.cell (p := ⟨ba, oa + k, none⟩) hba).trans ca
   have dl : w.heap.size < (wr.alloc (.cells #[.int .i64 q.t, .int .i64 q.p, .slice q.a q.n q.c] 55)).heap.size := Nat.lt_of_lt_of_le cl HX3.out.size
   have dbl : ba < (wr.alloc (.cells #[.int .i64 q.t, .int .i64 q.p, .slice q.a q.n q.c] 55)).heap.size := Nat.lt_of_lt_of_le hba HX3.out.size
   clear p0 p1 p2 c8 ca cl hba hbl
   have HY := Hk.mk (HRR.out.below HX3.out)
   clear HRR HPP
   obtain ⟨wo, hwo⟩ : ∃ X : World, X = wr := ⟨wr, rfl⟩
   have HXW : Hk (Below wr.heap.size wr (wr.alloc (.cells #[.int .i64 q.t, .int .i64 q.p, .slice q.a q.n q.c] 55))) := HX3
   generalize hV3 : (wr.alloc (.cells #[.int .i64 q.t, .int .i64 q.p, .slice q.a q.n q.c] 55)) = V3 at *
   have hNb : wr.heap.size < V3.heap.size := HNB.out.lt
   have n0 := HNB.out.c 0
   have n1 := HNB.out.c 1
   have n2 := HNB.out.c 2
   simp at n0 n1 n2
   have HZ : Hk (Below V3.heap.size V3 V3) := ⟨Below.refl _ _⟩
   by_cases he : (j : Int) = ak - low
   ·have f1 : (q.t == ak + 1) = true := by rw [HQT.out]; simp; omega
    have HE := Hk.mk he
    clear he
    refine wp_region_held_drew (S := (fun X => (∀ b o, b < V3.heap.size → X.cell? ⟨b, o, none⟩ = V3.cell? ⟨b, o, none⟩) ∧ Below V3.heap.size V3 X)) (by kernel_rfl) ?_ (fun hHeld => ?_)
    ·exact kw_S (kw_drew HZ.out)
    have HI : Ix [0, 1, 2, 3, 4, 5, 6, 7, 8, 9] := trivial
    iterate 10 (refine tkA HI (v := ?_) rfl (by kernel_rfl) (fun _ _ _ h => h) (.inl ⟨by rfl, fun wX hSw => ?_⟩) hHeld (fun HJ => ?_); rotate_left; (focus ((try dsimp only at hSw); go_simp; try with_reducible rfl)); clear HI; have HI := HJ; clear HJ; try simp only [Act.put, jjA, jjB, jjC, jjD, jjE, jjF])
    clear HI
    refine wpAnyH_done (by kernel_rfl) ?_ _
    clear hHeld n0 n1 n2
    have HX4 : Hk (Below wr.heap.size wr V3.drew) := ⟨HX3.out.drew⟩
    have HNB4 := Hk.mk HNB.out.drew
    have HRR := Hk.mk HY.out.drew
    clear HX3 HNB HY HZ HXW hV3 hNb d8 da dl dbl
    generalize V3.drew = V4 at *
    have n0 := HNB4.out.c 0
    have n1 := HNB4.out.c 1
    have n2 := HNB4.out.c 2
    have nl := HNB4.out.lt
    simp at n0 n1 n2
    go_wp2_with (go_at_call 28; (with_reducible refine (cpin_any q.t q.p q.a q.n q.c q.l _ (HQD.out _ HX4.out) HSQ.out).mono ?_); rintro e z ⟨a2, c2, L, rfl, ho, hab, hb⟩; have HO := Hk.mk ho; have HAB := Hk.mk hab; have HBZ := Hk.mk (HX4.out.trans (hb.mono HX4.out.size)); have HRZ := Hk.mk (HRR.out.below hb); clear ho hab hb; have m0 := HRZ.out.c 0; have m1 := HRZ.out.c 1; have m2 := HRZ.out.c 2; have k0' := HRZ.out.f 0; have k1' := HRZ.out.f 1; have k2' := HRZ.out.f 2; have ml := HRZ.out.lt; simp at m0 m1 m2)
    have HFR : Hk (Fr (fun x => x = (w.heap.size + 1)) z (((z.setCell ⟨(w.heap.size + 1), 0, none⟩ (.int .i64 q.t)).setCell ⟨(w.heap.size + 1), 1, none⟩ (.int .i64 q.p)).setCell ⟨(w.heap.size + 1), 2, none⟩ (.slice a2 q.n c2))) := ⟨by refine Fr.setCell (M := fun x => x = (w.heap.size + 1)) (p := ⟨(w.heap.size + 1), 2, none⟩) ?_ (fun _ => rfl) _; refine Fr.setCell (M := fun x => x = (w.heap.size + 1)) (p := ⟨(w.heap.size + 1), 1, none⟩) ?_ (fun _ => rfl) _; refine Fr.setCell (M := fun x => x = (w.heap.size + 1)) (p := ⟨(w.heap.size + 1), 0, none⟩) ?_ (fun _ => rfl) _; exact Fr.refl _ _⟩
    have HBB : Hk (Below w.heap.size w (((z.setCell ⟨(w.heap.size + 1), 0, none⟩ (.int .i64 q.t)).setCell ⟨(w.heap.size + 1), 1, none⟩ (.int .i64 q.p)).setCell ⟨(w.heap.size + 1), 2, none⟩ (.slice a2 q.n c2))) := ⟨(HBX.out.trans (HBZ.out.mono HBX.out.size)).trans (HFR.out.below (Nat.le_trans HBX.out.size HBZ.out.size) (fun j _ e => by omega))⟩
    have hrl := HRR.out.lt
    refine bodyPost_ret (v := .agg #[.int .i64 q.t, .int .i64 q.p, .slice a2 q.n c2]) (by simp [results, Try.results29, go_sem, m0, m1, m2, k0', k1', k2']) rfl ⟨⟨q.t, q.p, a2, q.n, c2, L⟩, rfl, (OwCE.up (Or.inl HO.out) HFR.out (fun x hx e => by omega)).weak (Nat.le_trans HBX.out.size HX4.out.size), ?_, ?_, HBB.out⟩
    ·rw [lack_at HLK.out HJL.out HE.out, HQ.out]
     show (⟨q.t, q.p, abC L⟩ : In) = ⟨q.t, q.p, abC q.l⟩
     rw [HAB.out]
    ·have e1 := congrArg List.length HAB.out
     rw [abC_len, abC_len] at e1
     exact smC_like HAB.out (fun x hx => (HO.out.u x hx).nq.len) (fun x hx => (HQD.out _ (Below.refl _ _)).u x hx |>.len) HSQ.out
   ·have f1 : (q.t == ak + 1) = false := by rw [HQT.out]; simp; omega
    have HE := Hk.mk he
    clear he
    refine wp_region_held_drew (S := (fun X => (∀ b o, b < V3.heap.size → X.cell? ⟨b, o, none⟩ = V3.cell? ⟨b, o, none⟩) ∧ Below V3.heap.size V3 X)) (by kernel_rfl) ?_ (fun hHeld => ?_)
    ·exact kw_S (kw_drew HZ.out)
    have HI : Ix [0, 1, 2, 3, 4, 5, 6, 7, 8, 9] := trivial
    iterate 10 (refine tkA HI (v := ?_) rfl (by kernel_rfl) (fun _ _ _ h => h) (.inl ⟨by rfl, fun wX hSw => ?_⟩) hHeld (fun HJ => ?_); rotate_left; (focus ((try dsimp only at hSw); go_simp; try with_reducible rfl)); clear HI; have HI := HJ; clear HJ; try simp only [Act.put, jjA, jjB, jjC, jjD, jjE, jjF])
    clear HI
    refine wpAnyH_done (by kernel_rfl) ?_ _
    clear hHeld n0 n1 n2 d8 da
    go_wp2
    exact ⟨⟨j + 1, by go_num, HLT.out, ⟨by have h1 := HJ.out; have h2 := HE.out; push_cast; omega⟩, ⟨HB.out.trans ((HX3.out.drew).mono HB.out.size)⟩⟩, by first | exact nx_ms HLT.out | exact nx_ms' HLT.out⟩
  ·obtain rfl : j = p.mn := by omega
   clear HPP
   have r0 := HRR.out.c 0
   have r1 := HRR.out.c 1
   have r2 := HRR.out.c 2
   have f0 := HRR.out.f 0
   have f1 := HRR.out.f 1
   have f2 := HRR.out.f 2
   have rl := HRR.out.lt
   simp at r0 r1 r2
   have HBB : Hk (Below w.heap.size w (((wr.setCell ⟨(w.heap.size + 1), 0, none⟩ (.int .i64 (-1))).setCell ⟨(w.heap.size + 1), 1, none⟩ (.int .i64 0)).setCell ⟨(w.heap.size + 1), 2, none⟩ (.slice none 0 0))) := ⟨HBX.out.trans (by refine Below.setCell ?_ (p := ⟨(w.heap.size + 1), 2, none⟩) (by show w.heap.size ≤ (w.heap.size + 1); omega) _; refine Below.setCell ?_ (p := ⟨(w.heap.size + 1), 1, none⟩) (by show w.heap.size ≤ (w.heap.size + 1); omega) _; refine Below.setCell ?_ (p := ⟨(w.heap.size + 1), 0, none⟩) (by show w.heap.size ≤ (w.heap.size + 1); omega) _; exact Below.refl _ _)⟩
   go_wp2
   refine bodyPost_ret (v := .agg #[.int .i64 (-1), .int .i64 0, .slice none 0 0]) (by simp [results, Try.results29, go_sem, r0, r1, r2, f0, f1, f2]) rfl ⟨⟨-1, 0, none, 0, 0, []⟩, rfl, .inr ⟨rfl, rfl, rfl⟩, ?_, ⟨Nat.zero_le _, fun _ h => by cases h⟩, HBB.out⟩
   rw [lack_none HLK.out (by rw [HML.out]; exact HJ.out)]
   rfl
end Go.Proofs.Ytdpblimhfmfbnaa
namespace Go.Proofs.Ytdpblimhfmfbnaa
open Go.RowKit
structure Ty (w : World) (P : Nat) (T : TypeId) : Prop where
 ex : ∃ cs fr, w.heap[P]? = some (.cells cs T fr)
theorem Ty.lt {w : World} {P : Nat} {T : TypeId} (h : Ty w P T) : P < w.heap.size := by
 obtain ⟨cs, fr, h⟩ := h.ex; exact lt_of_block h
theorem Ty.new (w : World) (cs : Array Value) (T : TypeId) : Ty (w.alloc (.cells cs T)) w.heap.size T := ⟨cs, _, heap_alloc_new w _⟩
theorem Ty.of_block {w w' : World} {P : Nat} {T : TypeId} (h : Ty w P T) (e : w'.heap[P]? = w.heap[P]?) : Ty w' P T := by
 obtain ⟨cs, fr, h⟩ := h.ex; exact ⟨cs, fr, by rw [e]; exact h⟩
theorem Ty.al {w : World} {P : Nat} {T : TypeId} (h : Ty w P T) (o : Obj) : Ty (w.alloc o) P T := h.of_block (Below.heap_alloc w o P h.lt)
theorem Ty.below {w w' : World} {P : Nat} {T : TypeId} (h : Ty w P T) (hb : Below w.heap.size w w') : Ty w' P T := h.of_block (hb.block P h.lt)
theorem Ty.set {w : World} {P : Nat} {T : TypeId} (h : Ty w P T) (p : Addr) (v : Value) : Ty (w.setCell p v) P T := by
 by_cases e : P = p.block
 ·subst e
  have hlt := h.lt
  obtain ⟨cs, fr, h⟩ := h.ex
  have h' : w.heap[p.block] = .cells cs T fr := by simpa [Array.getElem?_eq_getElem hlt] using h
  refine ⟨(if p.spot.isSome then cs else cs.setIfInBounds p.off v), fr, ?_⟩
  show (w.heap.modify p.block _)[p.block]? = _
  rw [Array.getElem?_eq_getElem (by simpa using hlt), Array.getElem_modify_self, h']
 ·exact h.of_block (Below.heap_setCell _ _ _ _ e)
theorem Ty.grown {w w' : World} {P : Nat} {T : TypeId} {row : Option Nat} (h : Ty w P T) (hg : w.grownBy w' row) (hne : row ≠ some P) : Ty w' P T := h.of_block (hg.block P h.lt (fun e => hne e.symm))
theorem Bk.grown {w w' : World} {P : Nat} {cs : Array Value} {row : Option Nat} (h : Bk w P cs) (hg : w.grownBy w' row) (hne : row ≠ some P) : Bk w' P cs := by
 have hlt := h.lt
 obtain ⟨T, h⟩ := h.bl; exact ⟨T, by rw [hg.block P hlt (fun e => hne e.symm)]; exact h⟩
end Go.Proofs.Ytdpblimhfmfbnaa
