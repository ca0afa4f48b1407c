import Derived.Deep.QuietTactic
import Derived.BigQuiet
import Derived.Deep.RegionWith
import Derived.Deep.RegionHeld3
import Derived.Deep.DeepCutAuto
import Derived.Deep.DeepFit
import Derived.Outline
import Derived.Test.YtdpblimhfmfbnaaZsal
import Derived.Maps.AppendAt
import Derived.Test.YtdpblimhfmfbnaaZsak
import Derived.Test.YtdpblimhfmfbnaaZsaj
set_option linter.unusedVariables false
set_option linter.unusedSimpArgs false
namespace Go.Proofs.Ytdpblimhfmfbnaa
open Go.ChangeShapes Go.WideShapes Go.ChangeAt Go.RowKit Go.Deep
structure Kt (T0 : TypeId) (B : Nat) (w z : World) : Prop where
 bl : Below B w z
 ty : ∀ (j : Nat) (cur : Array Value) (T : TypeId) fr, w.heap[j]? = some (Obj.cells cur T fr) → T ≠ T0 → z.heap[j]? = some (Obj.cells cur T fr)
section
variable {T0 : TypeId} {B : Nat} {w y z : World}
theorem Kt.refl (T0 : TypeId) (B : Nat) (w : World) : Kt T0 B w w := ⟨Below.refl _ _, fun _ _ _ _ h _ => h⟩
theorem Kt.trans (h : Kt T0 B w y) (k : Kt T0 B y z) : Kt T0 B w z := ⟨h.bl.trans k.bl, fun j cur T fr e n => k.ty j cur T fr (h.ty j cur T fr e n) n⟩
theorem Kt.of_all (hB : B ≤ w.heap.size) (h : Below w.heap.size w z) : Kt T0 B w z := ⟨h.mono hB, fun j cur T fr e _ => by rw [h.block j (cells_lt e)]; exact e⟩
theorem Kt.of_fr {M : Nat → Prop} (hB : B ≤ w.heap.size) (k : Fr M w z) (hM : ∀ j, j < w.heap.size → M j → B ≤ j) (hT : ∀ j cur T fr, w.heap[j]? = some (Obj.cells cur T fr) → M j → T = T0) : Kt T0 B w z :=
 ⟨k.below hB hM, fun j cur T fr e n => by rw [k.block j (cells_lt e) (fun hj => n (hT j cur T fr e hj))]; exact e⟩
theorem Kt.set {cs : Array Value} {P : Nat} {fr : Nat × Nat} (hB : B ≤ P) (h : w.heap[P]? = some (.cells cs T0 fr)) (o : Nat) (v : Value) : Kt T0 B w (w.setCell ⟨P, o, none⟩ v) :=
 Kt.of_fr (M := fun j => j = P) (Nat.le_trans hB (Nat.le_of_lt (cells_lt h))) ((Fr.refl (fun j => j = P) w).setCell (p := ⟨P, o, none⟩) (fun _ => rfl) v) (fun j _ e => by omega) (fun j cur T fr' e hj => by
  subst hj
  rw [h] at e
  injection e with e
  injection e with _ e
  exact e.symm)
theorem Kt.grown {s n : Nat} {v : Value} {xs : List Value} (hB : B ≤ w.heap.size) (h : w.ownsRow B T0 s v n xs) (hg : w.grownBy z v.ownBlock) : Kt T0 B w z :=
 Kt.of_fr (M := fun j => v.ownBlock = some j) hB ((Fr.refl _ w).grown hg (fun j _ e => e)) (fun j _ e => by
  rcases h.2 with ⟨rfl, _⟩ | ⟨g, cap, cur, rfl, hb, _⟩
  ·simp [Value.ownBlock] at e
  ·simp [Value.ownBlock] at e; omega) (fun j cur T fr e hj => by
  rcases h.2 with ⟨rfl, _⟩ | ⟨g, cap, cur', rfl, hb, hh, _⟩
  ·simp [Value.ownBlock] at hj
  ·simp [Value.ownBlock] at hj
   subst hj
   rw [hh] at e
   injection e with e
   injection e with _ e
   exact e.symm)
theorem Kt.row {T : TypeId} {s n : Nat} {v : Value} {xs : List Value} (h : Kt T0 B w z) (o : w.ownsRow B T s v n xs) (ne : T ≠ T0) : z.ownsRow B T s v n xs := ⟨o.1, by
 rcases o.2 with e | ⟨g, cap, cur, e, hg, hh, r⟩
 ·exact .inl e
 ·exact .inr ⟨g, cap, cur, e, hg, h.ty _ _ _ _ hh ne, r⟩⟩
theorem Kt.ow {α : Type} {S : Sh α} {T : TypeId} {n : Nat} {v : Value} {l : List α} (h : Kt T0 B w z) (o : Ow S T w B v n l) (ne : T ≠ T0) : Ow S T z B v n l := ⟨o.len, h.row o.row ne⟩
theorem Kt.owni {n : Nat} {v : Value} {u : List Int} (h : Kt T0 B w z) (o : OwnI w B v n u) (ne : (3 : TypeId) ≠ T0) : OwnI z B v n u := ⟨o.1, h.row o.2 ne⟩
theorem Kt.owe {n c : Nat} {a : Option Addr} {u : List Int} (h : Kt T0 B w z) (o : OwE w B a n c u) (ne : (3 : TypeId) ≠ T0) : OwE z B a n c u := o.imp (fun k => h.owni k ne) id
theorem Kt.owc {n : Nat} {v : Value} {l : List Cv} (h : Kt T0 B w z) (o : OwC w B v n l) (ne : (3 : TypeId) ≠ T0) (n2 : 50 ≠ T0) : OwC z B v n l := ⟨h.ow o.o n2, fun x hx => h.owe (o.u x hx) ne⟩
theorem Kt.owce {n c : Nat} {a : Option Addr} {l : List Cv} (h : Kt T0 B w z) (o : OwCE w B a n c l) (ne : (3 : TypeId) ≠ T0) (n2 : 50 ≠ T0) : OwCE z B a n c l := o.imp (fun k => h.owc k ne n2) id
theorem Kt.own {n : Nat} {v : Value} {l : List Iv} (h : Kt T0 B w z) (o : OwN w B v n l) (ne : (3 : TypeId) ≠ T0) (n2 : 50 ≠ T0) (n3 : 55 ≠ T0) : OwN z B v n l := ⟨h.ow o.o n3, fun x hx => h.owce (o.u x hx) ne n2⟩
end
theorem Kt.pvo {B : Nat} {w z : World} {p : Pv} (h : Kt 28 B w z) (o : PvO w B p) : PvO z B p := ⟨h.own o.m (by decide) (by decide) (by decide), h.own o.l (by decide) (by decide) (by decide), h.owni o.h (by decide), h.owni o.a (by decide), h.ow o.x (by decide)⟩
theorem Kt.pvu {B n : Nat} {w z : World} {p : Pv} {a : Option Addr} {c : Nat} {l : List Int} (h : Kt 56 B w z) (o : PvO w B p) (hx : Ow shU 56 z B (.slice a n c) n l) : PvO z B { p with xa := a, xn := n, xc := c, xl := l } := ⟨h.own o.m (by decide) (by decide) (by decide), h.own o.l (by decide) (by decide) (by decide), h.owni o.h (by decide), h.owni o.a (by decide), hx⟩
theorem PvO.setl {B n : Nat} {w : World} {p : Pv} {a : Option Addr} {c : Nat} {l : List Iv} (o : PvO w B p) (h : OwN w B (.slice a n c) n l) : PvO w B { p with la := a, ln := n, lc := c, ll := l } := ⟨o.m, h, o.h, o.a, o.x⟩
theorem PvO.sett {B : Nat} {w : World} {p : Pv} (o : PvO w B p) (t : Int) : PvO w B { p with t := t } := ⟨o.m, o.l, o.h, o.a, o.x⟩
def runM (p : Pm) (h : Int) : Pm := { p with t := p.t + 1, l := p.l.filter (fun x => !(x.t == p.t)), x := if 16 < p.x.length + 1 then (p.x ++ [h]).drop 1 else p.x ++ [h] }
end Go.Proofs.Ytdpblimhfmfbnaa
namespace Go.Proofs.Ytdpblimhfmfbnaa
open Go.ChangeShapes Go.WideShapes Go.ChangeAt Go.RowKit Go.Deep
theorem heap_set {w : World} {P : Nat} {cs : Array Value} {T : TypeId} {fr : Nat × Nat} (h : w.heap[P]? = some (.cells cs T fr)) (i : Nat) (v : Value) : (w.setCell ⟨P, i, none⟩ v).heap[P]? = some (.cells (cs.setIfInBounds i v) T fr) := by
 have hlt := lt_of_block h
 have h' : w.heap[P] = .cells cs T fr := by simpa [Array.getElem?_eq_getElem hlt] using h
 show (w.heap.modify P _)[P]? = _
 rw [Array.getElem?_eq_getElem (by simpa using hlt), Array.getElem_modify_self, h']
 rfl
structure Bx (w : World) (P : Nat) (p : Pv) : Prop where
 bl : w.heap[P]? = some (.cells (jjP p) 28 (0, 0))
theorem Bx.new (w : World) (p : Pv) : Bx (w.alloc (.cells (jjP p) 28)) w.heap.size p := ⟨heap_alloc_new w _⟩
theorem Bx.bk {w : World} {P : Nat} {p : Pv} (h : Bx w P p) : Bk w P (jjP p) := ⟨_, h.bl⟩
theorem Bx.lt {w : World} {P : Nat} {p : Pv} (h : Bx w P p) : P < w.heap.size := h.bk.lt
theorem Bx.cs {w : World} {P : Nat} {p : Pv} (h : Bx w P p) : w.cell? ⟨P, 0, none⟩ = some (.int .i64 p.i) ∧ w.cell? ⟨P, 1, none⟩ = some (.int .i64 p.n) ∧ w.cell? ⟨P, 2, none⟩ = some (.int .i64 p.d) ∧ w.cell? ⟨P, 3, none⟩ = some (.int .i64 p.t) ∧ w.cell? ⟨P, 4, none⟩ = some (.int .i64 p.s) ∧ w.cell? ⟨P, 5, none⟩ = some (.slice p.ma p.mn p.mc) ∧ w.cell? ⟨P, 6, none⟩ = some (.slice p.la p.ln p.lc) ∧ w.cell? ⟨P, 7, none⟩ = some (.slice p.ha p.hn p.hc) ∧ w.cell? ⟨P, 8, none⟩ = some (.slice p.aa p.an p.ac) ∧ w.cell? ⟨P, 9, none⟩ = some (.slice p.xa p.xn p.xc) ∧ w.cell? ⟨P, 10, none⟩ = some (.bool p.b) ∧ P < w.heap.size := ⟨h.bk.c 0, h.bk.c 1, h.bk.c 2, h.bk.c 3, h.bk.c 4, h.bk.c 5, h.bk.c 6, h.bk.c 7, h.bk.c 8, h.bk.c 9, h.bk.c 10, h.lt⟩
theorem Bx.fs {w : World} {P : Nat} {p : Pv} (h : Bx w P p) : w.frozen? ⟨P, 0, none⟩ = false ∧ w.frozen? ⟨P, 1, none⟩ = false ∧ w.frozen? ⟨P, 2, none⟩ = false ∧ w.frozen? ⟨P, 3, none⟩ = false ∧ w.frozen? ⟨P, 4, none⟩ = false ∧ w.frozen? ⟨P, 5, none⟩ = false ∧ w.frozen? ⟨P, 6, none⟩ = false ∧ w.frozen? ⟨P, 7, none⟩ = false ∧ w.frozen? ⟨P, 8, none⟩ = false ∧ w.frozen? ⟨P, 9, none⟩ = false ∧ w.frozen? ⟨P, 10, none⟩ = false := ⟨h.bk.f 0, h.bk.f 1, h.bk.f 2, h.bk.f 3, h.bk.f 4, h.bk.f 5, h.bk.f 6, h.bk.f 7, h.bk.f 8, h.bk.f 9, h.bk.f 10⟩
theorem Bx.below {w z : World} {P : Nat} {p : Pv} (h : Bx w P p) (hb : Below w.heap.size w z) : Bx z P p := ⟨by rw [hb.block P h.lt]; exact h.bl⟩
theorem Bx.al {w : World} {P : Nat} {p : Pv} (h : Bx w P p) (o : Obj) : Bx (w.alloc o) P p := h.below (below_al w o)
theorem Bx.kt {T0 : TypeId} {B : Nat} {w z : World} {P : Nat} {p : Pv} (h : Bx w P p) (k : Kt T0 B w z) (ne : 28 ≠ T0) : Bx z P p := ⟨k.ty _ _ _ _ h.bl ne⟩
theorem Bx.oth {w : World} {P Q : Nat} {p : Pv} (h : Bx w P p) (hn : ¬ P = Q) (i : Nat) (v : Value) : Bx (w.setCell ⟨Q, i, none⟩ v) P p := ⟨by rw [Below.heap_setCell _ _ _ _ (by simpa using hn)]; exact h.bl⟩
theorem Bx.fr {M : Nat → Prop} {w z : World} {P : Nat} {p : Pv} (h : Bx w P p) (k : Fr M w z) (hm : ¬ M P) : Bx z P p := ⟨by rw [k.block P h.lt hm]; exact h.bl⟩
theorem Bx.set {w : World} {P : Nat} {p : Pv} (h : Bx w P p) (i : Nat) (v : Value) (q : Pv) (e : ((jjP p) : Array Value).setIfInBounds i v = (jjP q)) : Bx (w.setCell ⟨P, i, none⟩ v) P q := ⟨by rw [heap_set h.bl, e]⟩
theorem Bx.put {w : World} {P : Nat} {p : Pv} (h : Bx w P p) (q : Pv) : Bx ((((((((((((World.setCell w ⟨P, 0, none⟩ (.int .i64 q.i)).setCell ⟨P, 1, none⟩ (.int .i64 q.n)).setCell ⟨P, 2, none⟩ (.int .i64 q.d)).setCell ⟨P, 3, none⟩ (.int .i64 q.t)).setCell ⟨P, 4, none⟩ (.int .i64 q.s)).setCell ⟨P, 5, none⟩ (.slice q.ma q.mn q.mc)).setCell ⟨P, 6, none⟩ (.slice q.la q.ln q.lc)).setCell ⟨P, 7, none⟩ (.slice q.ha q.hn q.hc)).setCell ⟨P, 8, none⟩ (.slice q.aa q.an q.ac)).setCell ⟨P, 9, none⟩ (.slice q.xa q.xn q.xc)).setCell ⟨P, 10, none⟩ (.bool q.b))) P q := by
 have h0 := h.set 0 (.int .i64 q.i) ({ p with i := q.i }) rfl
 have h1 := h0.set 1 (.int .i64 q.n) ({ p with i := q.i, n := q.n }) rfl
 have h2 := h1.set 2 (.int .i64 q.d) ({ p with i := q.i, n := q.n, d := q.d }) rfl
 have h3 := h2.set 3 (.int .i64 q.t) ({ p with i := q.i, n := q.n, d := q.d, t := q.t }) rfl
 have h4 := h3.set 4 (.int .i64 q.s) ({ p with i := q.i, n := q.n, d := q.d, t := q.t, s := q.s }) rfl
 have h5 := h4.set 5 (.slice q.ma q.mn q.mc) ({ p with i := q.i, n := q.n, d := q.d, t := q.t, s := q.s, ma := q.ma, mn := q.mn, mc := q.mc, ml := q.ml }) rfl
 have h6 := h5.set 6 (.slice q.la q.ln q.lc) ({ p with i := q.i, n := q.n, d := q.d, t := q.t, s := q.s, ma := q.ma, mn := q.mn, mc := q.mc, ml := q.ml, la := q.la, ln := q.ln, lc := q.lc, ll := q.ll }) rfl
 have h7 := h6.set 7 (.slice q.ha q.hn q.hc) ({ p with i := q.i, n := q.n, d := q.d, t := q.t, s := q.s, ma := q.ma, mn := q.mn, mc := q.mc, ml := q.ml, la := q.la, ln := q.ln, lc := q.lc, ll := q.ll, ha := q.ha, hn := q.hn, hc := q.hc, hl := q.hl }) rfl
 have h8 := h7.set 8 (.slice q.aa q.an q.ac) ({ p with i := q.i, n := q.n, d := q.d, t := q.t, s := q.s, ma := q.ma, mn := q.mn, mc := q.mc, ml := q.ml, la := q.la, ln := q.ln, lc := q.lc, ll := q.ll, ha := q.ha, hn := q.hn, hc := q.hc, hl := q.hl, aa := q.aa, an := q.an, ac := q.ac, al := q.al }) rfl
 have h9 := h8.set 9 (.slice q.xa q.xn q.xc) ({ p with i := q.i, n := q.n, d := q.d, t := q.t, s := q.s, ma := q.ma, mn := q.mn, mc := q.mc, ml := q.ml, la := q.la, ln := q.ln, lc := q.lc, ll := q.ll, ha := q.ha, hn := q.hn, hc := q.hc, hl := q.hl, aa := q.aa, an := q.an, ac := q.ac, al := q.al, xa := q.xa, xn := q.xn, xc := q.xc, xl := q.xl }) rfl
 exact h9.set 10 (.bool q.b) q rfl
theorem fr_put {w : World} {P : Nat} (q : Pv) : Fr (fun j => j = P) w ((((((((((((World.setCell w ⟨P, 0, none⟩ (.int .i64 q.i)).setCell ⟨P, 1, none⟩ (.int .i64 q.n)).setCell ⟨P, 2, none⟩ (.int .i64 q.d)).setCell ⟨P, 3, none⟩ (.int .i64 q.t)).setCell ⟨P, 4, none⟩ (.int .i64 q.s)).setCell ⟨P, 5, none⟩ (.slice q.ma q.mn q.mc)).setCell ⟨P, 6, none⟩ (.slice q.la q.ln q.lc)).setCell ⟨P, 7, none⟩ (.slice q.ha q.hn q.hc)).setCell ⟨P, 8, none⟩ (.slice q.aa q.an q.ac)).setCell ⟨P, 9, none⟩ (.slice q.xa q.xn q.xc)).setCell ⟨P, 10, none⟩ (.bool q.b))) := by
 refine Fr.setCell (M := fun j => j = P) (p := ⟨P, 10, none⟩) ?_ (fun _ => rfl) _; refine Fr.setCell (M := fun j => j = P) (p := ⟨P, 9, none⟩) ?_ (fun _ => rfl) _; refine Fr.setCell (M := fun j => j = P) (p := ⟨P, 8, none⟩) ?_ (fun _ => rfl) _; refine Fr.setCell (M := fun j => j = P) (p := ⟨P, 7, none⟩) ?_ (fun _ => rfl) _; refine Fr.setCell (M := fun j => j = P) (p := ⟨P, 6, none⟩) ?_ (fun _ => rfl) _; refine Fr.setCell (M := fun j => j = P) (p := ⟨P, 5, none⟩) ?_ (fun _ => rfl) _; refine Fr.setCell (M := fun j => j = P) (p := ⟨P, 4, none⟩) ?_ (fun _ => rfl) _; refine Fr.setCell (M := fun j => j = P) (p := ⟨P, 3, none⟩) ?_ (fun _ => rfl) _; refine Fr.setCell (M := fun j => j = P) (p := ⟨P, 2, none⟩) ?_ (fun _ => rfl) _; refine Fr.setCell (M := fun j => j = P) (p := ⟨P, 1, none⟩) ?_ (fun _ => rfl) _; refine Fr.setCell (M := fun j => j = P) (p := ⟨P, 0, none⟩) ?_ (fun _ => rfl) _; exact Fr.refl _ _
theorem Kt.put {w : World} {P B : Nat} {p : Pv} (h : Bx w P p) (hB : B ≤ P) (q : Pv) : Kt 28 B w ((((((((((((World.setCell w ⟨P, 0, none⟩ (.int .i64 q.i)).setCell ⟨P, 1, none⟩ (.int .i64 q.n)).setCell ⟨P, 2, none⟩ (.int .i64 q.d)).setCell ⟨P, 3, none⟩ (.int .i64 q.t)).setCell ⟨P, 4, none⟩ (.int .i64 q.s)).setCell ⟨P, 5, none⟩ (.slice q.ma q.mn q.mc)).setCell ⟨P, 6, none⟩ (.slice q.la q.ln q.lc)).setCell ⟨P, 7, none⟩ (.slice q.ha q.hn q.hc)).setCell ⟨P, 8, none⟩ (.slice q.aa q.an q.ac)).setCell ⟨P, 9, none⟩ (.slice q.xa q.xn q.xc)).setCell ⟨P, 10, none⟩ (.bool q.b))) :=
 Kt.of_fr (M := fun j => j = P) (Nat.le_trans hB (Nat.le_of_lt h.lt)) (fr_put q) (fun j _ e => by omega) (fun j cur T fr e hj => by
  subst hj
  rw [h.bl] at e
  injection e with e
  injection e with _ e
  exact e.symm)
theorem Kt.frow {α : Type} {S : Sh α} {T : TypeId} {B g n c : Nat} {w z : World} {l : List α} (h : Ow S T w B (.slice (some ⟨g, 0, none⟩) n c) n l) (k : Fr (fun j => j = g) w z) : Kt T B w z := by
 obtain ⟨cur, fr, e⟩ := h.typ (j := g) rfl
 exact Kt.of_fr (Nat.le_trans (h.lt g rfl).1 (Nat.le_of_lt (h.lt g rfl).2)) k (fun j _ e => by have := (h.lt g rfl).1; omega) (fun j cur' T' fr' e' hj => by
  subst hj
  rw [e] at e'
  injection e' with e'
  injection e' with _ e'
  exact e'.symm)
theorem row_slice {w : World} {B s n : Nat} {T : TypeId} {v : Value} {xs : List Value} (h : w.ownsRow B T s v n xs) (hn : 0 < n) : ∃ g c, v = .slice (some ⟨g, 0, none⟩) n c ∧ n ≤ c ∧ B ≤ g ∧ g < w.heap.size := by
 rcases h.2 with ⟨_, e⟩ | ⟨g, cap, cur, e, hb, hh, hc, _⟩
 ·omega
 ·exact ⟨g, cap, e, hc, hb, cells_lt hh⟩
end Go.Proofs.Ytdpblimhfmfbnaa
namespace Go.Proofs.Ytdpblimhfmfbnaa
open Go.ChangeShapes Go.WideShapes Go.ChangeAt Go.RowKit Go.Deep
def nilV : Pv := ⟨0, 0, 0, 0, 0, none, 0, 0, [], none, 0, 0, [], none, 0, 0, [], none, 0, 0, [], none, 0, 0, [], false⟩
theorem oneU_it (x : Int) : ∀ u ∈ ([.int .u64 x] : List Value), u.oneCell' = true := fun u hu => by simp at hu; subst hu; rfl
theorem run_ab {p u q : Pv} {k : Int} {L : List In} {X : List Int} (hab : u.ab = p.ab) (e : q.ab = { u.ab with t := u.t + 1, l := L, x := X }) (hL : L = (abI p.ll).filter (fun x => !(x.t == p.t))) (hX : X = if 16 < p.ab.x.length + 1 then (p.ab.x ++ [k]).drop 1 else p.ab.x ++ [k]) : q.ab = runM p.ab k := by
 have ht : u.t = p.t := ((ab_iff u p).1 hab).2.2.2.1
 unfold runM
 rw [e, hab, hL, hX, ht]
 rfl
def Trim (q0 q : Pv) : Prop := q = q0 ∨ ∃ g c, q0.xa = some ⟨g, 0, none⟩ ∧ 0 < q0.xn ∧ q = { q0 with xa := some ⟨g, 1, none⟩, xn := q0.xn - 1, xc := c, xl := q0.xl.drop 1 }
def RnD (w : World) (p : Pv) (k : Int) (e : Ending) (z : World) : Prop := ∃ q : Pv, e = .returned (.tuple #[.agg (jjP q), .bool true]) ∧ (∃ q0, PvO z w.heap.size q0 ∧ Trim q0 q) ∧ q.ab = runM p.ab k ∧ PvS q ∧ Below w.heap.size w z
end Go.Proofs.Ytdpblimhfmfbnaa
namespace Go.Proofs.Ytdpblimhfmfbnaa
open Go.ChangeShapes Go.WideShapes Go.ChangeAt Go.RowKit Go.Deep
end Go.Proofs.Ytdpblimhfmfbnaa
namespace Go.Proofs.Ytdpblimhfmfbnaa
open Go.ChangeShapes Go.WideShapes Go.ChangeAt Go.RowKit Go.Deep
def ForP (p : Pm) (q : Nm) : Prop := OkNt q ∧ q.t = p.i ∧ q.f ≤ p.n
end Go.Proofs.Ytdpblimhfmfbnaa
namespace Go.Proofs.Ytdpblimhfmfbnaa
open Go.ChangeShapes Go.WideShapes Go.ChangeAt Go.RowKit Go.Deep
def putM (p : Pm) (k : Nat) (x : In) : Pm := if x.t = p.h.getD k 0 + 1 then { p with l := (putN x p.l).getD p.l, h := p.h.set k (p.h.getD k 0 + 1) } else p
def ackM (p : Pm) (k : Nat) (v : Int) : Pm := if p.a.getD k 0 < v ∧ v ≤ p.s then { p with a := p.a.set k v, m := p.m.filter (fun x => decide (minL (p.a.set k v) < x.t)) } else p
def splM (p : Pm) (d h : Int) : Pm := if d < p.t ∧ p.t - p.x.length ≤ d ∧ ¬ p.x.getD (d - (p.t - p.x.length)).toNat 0 = h then { p with b := true } else p
def takeM (p : Pm) (n : Nm) : Pm := splM (ackM (putM p (n.f.toNat - 1) n.q) (n.f.toNat - 1) n.v) n.d n.h
theorem take_kk {p : Pm} {q : Nm} (hk : OkP p) (hf : ForP p q) : ∃ k : Nat, q.f.toNat - 1 = k ∧ q.f = (k : Int) + 1 ∧ k < p.h.length ∧ k < p.a.length ∧ k < 8 ∧ 0 ≤ p.h.getD k 0 + 1 ∧ p.h.getD k 0 ≤ 1099511627776 ∧ 0 ≤ p.a.getD k 0 ∧ p.a.getD k 0 ≤ p.s := by
 obtain ⟨⟨f1, f2⟩, -⟩ := hf.1
 have f3 := hf.2.2
 have h1 := hk.k.h1
 have h2 := hk.k.a1
 have hlt : q.f.toNat - 1 < p.h.length := by omega
 obtain ⟨a1, a2, a3, a4, a5⟩ := hk.k.all _ hlt
 have d1 := hk.c.d1
 exact ⟨q.f.toNat - 1, rfl, by omega, hlt, by omega, by omega, by omega, a3, by omega, a5⟩
theorem take_put {p : Pm} {q : Nm} (hk : OkP p) (hf : ForP p q) {k : Nat} (ek : q.f.toNat - 1 = k) (e : q.q.t = p.h.getD k 0 + 1) : okN q.q = true ∧ ∃ M, putN q.q p.l = some M := by
 obtain ⟨k', e1, e2, h1, h2, h3, h4, h5, h6⟩ := take_kk hk hf
 obtain rfl : k' = k := by omega
 have hi : OkI q.q q.f := hf.1.2.2.2.2.2.2
 rcases hi with ⟨t1, _⟩ | ⟨t1, t2, t3⟩
 ·omega
 ·refine ⟨t2, put_total fun a ha => ?_⟩
  obtain ⟨b1, b2, b3⟩ := hk.w.all a ha
  apply Classical.byContradiction
  intro hn
  have e3 : a.t = q.q.t ∧ a.p = q.q.p := by
   unfold cmpN ltB at hn
   rw [decide_eq_true_iff, decide_eq_true_iff] at hn
   omega
  rw [e3.2, t3, e1] at b3
  omega
theorem min_leD : ∀ {l : List Int} {k : Nat}, k < l.length → minL l ≤ l.getD k 0
 | [], k, h => absurd h (by simp)
 | [x], 0, _ => Int.le_refl _
 | [x], k + 1, h => absurd h (by simp)
 | x :: y :: l, 0, _ => by show min x _ ≤ x; omega
 | x :: y :: l, k + 1, h => by
  have := min_leD (l := y :: l) (k := k) (by simpa using h)
  show min x (minL (y :: l)) ≤ (y :: l).getD k 0
  omega
theorem ack_some {p : Pm} (hk : OkP p) {k : Nat} (hl : k < p.a.length) (h : p.a.getD k 0 < p.s) : 0 < p.m.length := by
 have h1 := hk.e.n
 have h2 := min_leD hl
 omega
theorem abI_filter (l : List Iv) (m : Int) : abI (l.filter fun x => decide (m < x.t)) = (abI l).filter fun x => decide (m < x.t) := by
 unfold abI
 rw [List.filter_map]
 rfl
end Go.Proofs.Ytdpblimhfmfbnaa
