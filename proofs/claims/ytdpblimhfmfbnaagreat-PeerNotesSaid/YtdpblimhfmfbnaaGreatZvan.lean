import Derived.Deep.QuietTactic
import Derived.BigQuiet
import Derived.Deep.RegionWith
import Derived.Deep.RegionHeld3
import Derived.Deep.DeepCutAuto
import Derived.Deep.DeepFit
import Derived.Outline
import Derived.Test.YtdpblimhfmfbnaaGreatZvam
import Derived.Test.YtdpblimhfmfbnaaGreatZvo
import Derived.Test.YtdpblimhfmfbnaaGreatZva
import Derived.Test.YtdpblimhfmfbnaaGreatZvak
import Derived.Test.YtdpblimhfmfbnaaGreatZvac
set_option linter.unusedVariables false
set_option linter.unusedSimpArgs false
namespace Go.Proofs.YtdpblimhfmfbnaaGreat
open Go.ChangeShapes Go.WideShapes Go.ChangeAt Go.RowKit Go.Deep
structure Kt (T0 : TypeId) (B : Nat) (w z : World) : Prop where
 bl : Below B w z
 ty : ∀ (j : Nat) (cur : Array Value) (T : TypeId) fr, w.heap[j]? = some (Obj.cells cur T fr) → T ≠ T0 → z.heap[j]? = some (Obj.cells cur T fr)
section
variable {T0 : TypeId} {B : Nat} {w y z : World}
theorem Kt.refl (T0 : TypeId) (B : Nat) (w : World) : Kt T0 B w w := ⟨Below.refl _ _, fun _ _ _ _ h _ => h⟩
theorem Kt.trans (h : Kt T0 B w y) (k : Kt T0 B y z) : Kt T0 B w z := ⟨h.bl.trans k.bl, fun j cur T fr e n => k.ty j cur T fr (h.ty j cur T fr e n) n⟩
theorem Kt.of_all (hB : B ≤ w.heap.size) (h : Below w.heap.size w z) : Kt T0 B w z := ⟨h.mono hB, fun j cur T fr e _ => by rw [h.block j (cells_lt e)]; exact e⟩
theorem Kt.of_fr {M : Nat → Prop} (hB : B ≤ w.heap.size) (k : Fr M w z) (hM : ∀ j, j < w.heap.size → M j → B ≤ j) (hT : ∀ j cur T fr, w.heap[j]? = some (Obj.cells cur T fr) → M j → T = T0) : Kt T0 B w z :=
 ⟨k.below hB hM, fun j cur T fr e n => by rw [k.block j (cells_lt e) (fun hj => n (hT j cur T fr e hj))]; exact e⟩
theorem Kt.set {cs : Array Value} {P : Nat} {fr : Nat × Nat} (hB : B ≤ P) (h : w.heap[P]? = some (.cells cs T0 fr)) (o : Nat) (v : Value) : Kt T0 B w (w.setCell ⟨P, o, none⟩ v) :=
 Kt.of_fr (M := fun j => j = P) (Nat.le_trans hB (Nat.le_of_lt (cells_lt h))) ((Fr.refl (fun j => j = P) w).setCell (p := ⟨P, o, none⟩) (fun _ => rfl) v) (fun j _ e => by omega) (fun j cur T fr' e hj => by
  subst hj
  rw [h] at e
  injection e with e
  injection e with _ e
  exact e.symm)
theorem Kt.grown {s n : Nat} {v : Value} {xs : List Value} (hB : B ≤ w.heap.size) (h : w.ownsRow B T0 s v n xs) (hg : w.grownBy z v.ownBlock) : Kt T0 B w z :=
 Kt.of_fr (M := fun j => v.ownBlock = some j) hB ((Fr.refl _ w).grown hg (fun j _ e => e)) (fun j _ e => by
  rcases h.2 with ⟨rfl, _⟩ | ⟨g, cap, cur, rfl, hb, _⟩
  ·simp [Value.ownBlock] at e
  ·simp [Value.ownBlock] at e; omega) (fun j cur T fr e hj => by
  rcases h.2 with ⟨rfl, _⟩ | ⟨g, cap, cur', rfl, hb, hh, _⟩
  ·simp [Value.ownBlock] at hj
  ·simp [Value.ownBlock] at hj
   subst hj
   rw [hh] at e
   injection e with e
   injection e with _ e
   exact e.symm)
theorem Kt.row {T : TypeId} {s n : Nat} {v : Value} {xs : List Value} (h : Kt T0 B w z) (o : w.ownsRow B T s v n xs) (ne : T ≠ T0) : z.ownsRow B T s v n xs := ⟨o.1, by
 rcases o.2 with e | ⟨g, cap, cur, e, hg, hh, r⟩
 ·exact .inl e
 ·exact .inr ⟨g, cap, cur, e, hg, h.ty _ _ _ _ hh ne, r⟩⟩
theorem Kt.ow {α : Type} {S : Sh α} {T : TypeId} {n : Nat} {v : Value} {l : List α} (h : Kt T0 B w z) (o : Ow S T w B v n l) (ne : T ≠ T0) : Ow S T z B v n l := ⟨o.len, h.row o.row ne⟩
theorem Kt.owni {n : Nat} {v : Value} {u : List Int} (h : Kt T0 B w z) (o : OwnI w B v n u) (ne : (3 : TypeId) ≠ T0) : OwnI z B v n u := ⟨o.1, h.row o.2 ne⟩
theorem Kt.owe {n c : Nat} {a : Option Addr} {u : List Int} (h : Kt T0 B w z) (o : OwE w B a n c u) (ne : (3 : TypeId) ≠ T0) : OwE z B a n c u := o.imp (fun k => h.owni k ne) id
theorem Kt.owc {n : Nat} {v : Value} {l : List Cv} (h : Kt T0 B w z) (o : OwC w B v n l) (ne : (3 : TypeId) ≠ T0) (n2 : 95 ≠ T0) : OwC z B v n l := ⟨h.ow o.o n2, fun x hx => h.owe (o.u x hx) ne⟩
theorem Kt.owce {n c : Nat} {a : Option Addr} {l : List Cv} (h : Kt T0 B w z) (o : OwCE w B a n c l) (ne : (3 : TypeId) ≠ T0) (n2 : 95 ≠ T0) : OwCE z B a n c l := o.imp (fun k => h.owc k ne n2) id
theorem Kt.own {n : Nat} {v : Value} {l : List Iv} (h : Kt T0 B w z) (o : OwN w B v n l) (ne : (3 : TypeId) ≠ T0) (n2 : 95 ≠ T0) (n3 : 40 ≠ T0) : OwN z B v n l := ⟨h.ow o.o n3, fun x hx => h.owce (o.u x hx) ne n2⟩
end
theorem Kt.pvo {B : Nat} {w z : World} {p : Pv} (h : Kt 26 B w z) (o : PvO w B p) : PvO z B p := ⟨h.own o.m (by decide) (by decide) (by decide), h.own o.l (by decide) (by decide) (by decide), h.owni o.h (by decide), h.owni o.a (by decide), h.ow o.x (by decide)⟩
theorem Kt.pvu {B n : Nat} {w z : World} {p : Pv} {a : Option Addr} {c : Nat} {l : List Int} (h : Kt 41 B w z) (o : PvO w B p) (hx : Ow shU 41 z B (.slice a n c) n l) : PvO z B { p with xa := a, xn := n, xc := c, xl := l } := ⟨h.own o.m (by decide) (by decide) (by decide), h.own o.l (by decide) (by decide) (by decide), h.owni o.h (by decide), h.owni o.a (by decide), hx⟩
theorem PvO.setl {B n : Nat} {w : World} {p : Pv} {a : Option Addr} {c : Nat} {l : List Iv} (o : PvO w B p) (h : OwN w B (.slice a n c) n l) : PvO w B { p with la := a, ln := n, lc := c, ll := l } := ⟨o.m, h, o.h, o.a, o.x⟩
theorem PvO.sett {B : Nat} {w : World} {p : Pv} (o : PvO w B p) (t : Int) : PvO w B { p with t := t } := ⟨o.m, o.l, o.h, o.a, o.x⟩
def runM (p : Pm) (h : Int) : Pm := { p with t := p.t + 1, l := p.l.filter (fun x => !(x.t == p.t)), x := if 16 < p.x.length + 1 then (p.x ++ [h]).drop 1 else p.x ++ [h] }
end Go.Proofs.YtdpblimhfmfbnaaGreat
namespace Go.Proofs.YtdpblimhfmfbnaaGreat
open Go.ChangeShapes Go.WideShapes Go.ChangeAt Go.RowKit Go.Deep
theorem heap_set {w : World} {P : Nat} {cs : Array Value} {T : TypeId} {fr : Nat × Nat} (h : w.heap[P]? = some (.cells cs T fr)) (i : Nat) (v : Value) : (w.setCell ⟨P, i, none⟩ v).heap[P]? = some (.cells (cs.setIfInBounds i v) T fr) := by
 have hlt := lt_of_block h
 have h' : w.heap[P] = .cells cs T fr := by simpa [Array.getElem?_eq_getElem hlt] using h
 show (w.heap.modify P _)[P]? = _
 rw [Array.getElem?_eq_getElem (by simpa using hlt), Array.getElem_modify_self, h']
 rfl
structure Bx (w : World) (P : Nat) (p : Pv) : Prop where
 bl : w.heap[P]? = some (.cells #[.int .i64 p.i, .int .i64 p.n, .int .i64 p.d, .int .i64 p.t, .int .i64 p.s, .slice p.ma p.mn p.mc, .slice p.la p.ln p.lc, .slice p.ha p.hn p.hc, .slice p.aa p.an p.ac, .slice p.xa p.xn p.xc, .bool p.b] 26 (0, 0))
theorem Bx.new (w : World) (p : Pv) : Bx (w.alloc (.cells #[.int .i64 p.i, .int .i64 p.n, .int .i64 p.d, .int .i64 p.t, .int .i64 p.s, .slice p.ma p.mn p.mc, .slice p.la p.ln p.lc, .slice p.ha p.hn p.hc, .slice p.aa p.an p.ac, .slice p.xa p.xn p.xc, .bool p.b] 26)) w.heap.size p := ⟨heap_alloc_new w _⟩
theorem Bx.bk {w : World} {P : Nat} {p : Pv} (h : Bx w P p) : Bk w P #[.int .i64 p.i, .int .i64 p.n, .int .i64 p.d, .int .i64 p.t, .int .i64 p.s, .slice p.ma p.mn p.mc, .slice p.la p.ln p.lc, .slice p.ha p.hn p.hc, .slice p.aa p.an p.ac, .slice p.xa p.xn p.xc, .bool p.b] := ⟨_, h.bl⟩
theorem Bx.lt {w : World} {P : Nat} {p : Pv} (h : Bx w P p) : P < w.heap.size := h.bk.lt
theorem Bx.below {w z : World} {P : Nat} {p : Pv} (h : Bx w P p) (hb : Below w.heap.size w z) : Bx z P p := ⟨by rw [hb.block P h.lt]; exact h.bl⟩
theorem Bx.al {w : World} {P : Nat} {p : Pv} (h : Bx w P p) (o : Obj) : Bx (w.alloc o) P p := h.below (below_al w o)
theorem Bx.kt {T0 : TypeId} {B : Nat} {w z : World} {P : Nat} {p : Pv} (h : Bx w P p) (k : Kt T0 B w z) (ne : 26 ≠ T0) : Bx z P p := ⟨k.ty _ _ _ _ h.bl ne⟩
theorem Bx.oth {w : World} {P Q : Nat} {p : Pv} (h : Bx w P p) (hn : ¬ P = Q) (i : Nat) (v : Value) : Bx (w.setCell ⟨Q, i, none⟩ v) P p := ⟨by rw [Below.heap_setCell _ _ _ _ (by simpa using hn)]; exact h.bl⟩
theorem Bx.fr {M : Nat → Prop} {w z : World} {P : Nat} {p : Pv} (h : Bx w P p) (k : Fr M w z) (hm : ¬ M P) : Bx z P p := ⟨by rw [k.block P h.lt hm]; exact h.bl⟩
theorem Bx.set {w : World} {P : Nat} {p : Pv} (h : Bx w P p) (i : Nat) (v : Value) (q : Pv) (e : (#[.int .i64 p.i, .int .i64 p.n, .int .i64 p.d, .int .i64 p.t, .int .i64 p.s, .slice p.ma p.mn p.mc, .slice p.la p.ln p.lc, .slice p.ha p.hn p.hc, .slice p.aa p.an p.ac, .slice p.xa p.xn p.xc, .bool p.b] : Array Value).setIfInBounds i v = #[.int .i64 q.i, .int .i64 q.n, .int .i64 q.d, .int .i64 q.t, .int .i64 q.s, .slice q.ma q.mn q.mc, .slice q.la q.ln q.lc, .slice q.ha q.hn q.hc, .slice q.aa q.an q.ac, .slice q.xa q.xn q.xc, .bool q.b]) : Bx (w.setCell ⟨P, i, none⟩ v) P q := ⟨by rw [heap_set h.bl, e]⟩
theorem Bx.put {w : World} {P : Nat} {p : Pv} (h : Bx w P p) (q : Pv) : Bx ((((((((((((World.setCell w ⟨P, 0, none⟩ (.int .i64 q.i)).setCell ⟨P, 1, none⟩ (.int .i64 q.n)).setCell ⟨P, 2, none⟩ (.int .i64 q.d)).setCell ⟨P, 3, none⟩ (.int .i64 q.t)).setCell ⟨P, 4, none⟩ (.int .i64 q.s)).setCell ⟨P, 5, none⟩ (.slice q.ma q.mn q.mc)).setCell ⟨P, 6, none⟩ (.slice q.la q.ln q.lc)).setCell ⟨P, 7, none⟩ (.slice q.ha q.hn q.hc)).setCell ⟨P, 8, none⟩ (.slice q.aa q.an q.ac)).setCell ⟨P, 9, none⟩ (.slice q.xa q.xn q.xc)).setCell ⟨P, 10, none⟩ (.bool q.b))) P q := by
 have h0 := h.set 0 (.int .i64 q.i) ({ p with i := q.i }) rfl
 have h1 := h0.set 1 (.int .i64 q.n) ({ p with i := q.i, n := q.n }) rfl
 have h2 := h1.set 2 (.int .i64 q.d) ({ p with i := q.i, n := q.n, d := q.d }) rfl
 have h3 := h2.set 3 (.int .i64 q.t) ({ p with i := q.i, n := q.n, d := q.d, t := q.t }) rfl
 have h4 := h3.set 4 (.int .i64 q.s) ({ p with i := q.i, n := q.n, d := q.d, t := q.t, s := q.s }) rfl
 have h5 := h4.set 5 (.slice q.ma q.mn q.mc) ({ p with i := q.i, n := q.n, d := q.d, t := q.t, s := q.s, ma := q.ma, mn := q.mn, mc := q.mc, ml := q.ml }) rfl
 have h6 := h5.set 6 (.slice q.la q.ln q.lc) ({ p with i := q.i, n := q.n, d := q.d, t := q.t, s := q.s, ma := q.ma, mn := q.mn, mc := q.mc, ml := q.ml, la := q.la, ln := q.ln, lc := q.lc, ll := q.ll }) rfl
 have h7 := h6.set 7 (.slice q.ha q.hn q.hc) ({ p with i := q.i, n := q.n, d := q.d, t := q.t, s := q.s, ma := q.ma, mn := q.mn, mc := q.mc, ml := q.ml, la := q.la, ln := q.ln, lc := q.lc, ll := q.ll, ha := q.ha, hn := q.hn, hc := q.hc, hl := q.hl }) rfl
 have h8 := h7.set 8 (.slice q.aa q.an q.ac) ({ p with i := q.i, n := q.n, d := q.d, t := q.t, s := q.s, ma := q.ma, mn := q.mn, mc := q.mc, ml := q.ml, la := q.la, ln := q.ln, lc := q.lc, ll := q.ll, ha := q.ha, hn := q.hn, hc := q.hc, hl := q.hl, aa := q.aa, an := q.an, ac := q.ac, al := q.al }) rfl
 have h9 := h8.set 9 (.slice q.xa q.xn q.xc) ({ p with i := q.i, n := q.n, d := q.d, t := q.t, s := q.s, ma := q.ma, mn := q.mn, mc := q.mc, ml := q.ml, la := q.la, ln := q.ln, lc := q.lc, ll := q.ll, ha := q.ha, hn := q.hn, hc := q.hc, hl := q.hl, aa := q.aa, an := q.an, ac := q.ac, al := q.al, xa := q.xa, xn := q.xn, xc := q.xc, xl := q.xl }) rfl
 exact h9.set 10 (.bool q.b) q rfl
theorem fr_put {w : World} {P : Nat} (q : Pv) : Fr (fun j => j = P) w ((((((((((((World.setCell w ⟨P, 0, none⟩ (.int .i64 q.i)).setCell ⟨P, 1, none⟩ (.int .i64 q.n)).setCell ⟨P, 2, none⟩ (.int .i64 q.d)).setCell ⟨P, 3, none⟩ (.int .i64 q.t)).setCell ⟨P, 4, none⟩ (.int .i64 q.s)).setCell ⟨P, 5, none⟩ (.slice q.ma q.mn q.mc)).setCell ⟨P, 6, none⟩ (.slice q.la q.ln q.lc)).setCell ⟨P, 7, none⟩ (.slice q.ha q.hn q.hc)).setCell ⟨P, 8, none⟩ (.slice q.aa q.an q.ac)).setCell ⟨P, 9, none⟩ (.slice q.xa q.xn q.xc)).setCell ⟨P, 10, none⟩ (.bool q.b))) := by
 refine Fr.setCell (M := fun j => j = P) (p := ⟨P, 10, none⟩) ?_ (fun _ => rfl) _; refine Fr.setCell (M := fun j => j = P) (p := ⟨P, 9, none⟩) ?_ (fun _ => rfl) _; refine Fr.setCell (M := fun j => j = P) (p := ⟨P, 8, none⟩) ?_ (fun _ => rfl) _; refine Fr.setCell (M := fun j => j = P) (p := ⟨P, 7, none⟩) ?_ (fun _ => rfl) _; refine Fr.setCell (M := fun j => j = P) (p := ⟨P, 6, none⟩) ?_ (fun _ => rfl) _; refine Fr.setCell (M := fun j => j = P) (p := ⟨P, 5, none⟩) ?_ (fun _ => rfl) _; refine Fr.setCell (M := fun j => j = P) (p := ⟨P, 4, none⟩) ?_ (fun _ => rfl) _; refine Fr.setCell (M := fun j => j = P) (p := ⟨P, 3, none⟩) ?_ (fun _ => rfl) _; refine Fr.setCell (M := fun j => j = P) (p := ⟨P, 2, none⟩) ?_ (fun _ => rfl) _; refine Fr.setCell (M := fun j => j = P) (p := ⟨P, 1, none⟩) ?_ (fun _ => rfl) _; refine Fr.setCell (M := fun j => j = P) (p := ⟨P, 0, none⟩) ?_ (fun _ => rfl) _; exact Fr.refl _ _
theorem Kt.put {w : World} {P B : Nat} {p : Pv} (h : Bx w P p) (hB : B ≤ P) (q : Pv) : Kt 26 B w ((((((((((((World.setCell w ⟨P, 0, none⟩ (.int .i64 q.i)).setCell ⟨P, 1, none⟩ (.int .i64 q.n)).setCell ⟨P, 2, none⟩ (.int .i64 q.d)).setCell ⟨P, 3, none⟩ (.int .i64 q.t)).setCell ⟨P, 4, none⟩ (.int .i64 q.s)).setCell ⟨P, 5, none⟩ (.slice q.ma q.mn q.mc)).setCell ⟨P, 6, none⟩ (.slice q.la q.ln q.lc)).setCell ⟨P, 7, none⟩ (.slice q.ha q.hn q.hc)).setCell ⟨P, 8, none⟩ (.slice q.aa q.an q.ac)).setCell ⟨P, 9, none⟩ (.slice q.xa q.xn q.xc)).setCell ⟨P, 10, none⟩ (.bool q.b))) :=
 Kt.of_fr (M := fun j => j = P) (Nat.le_trans hB (Nat.le_of_lt h.lt)) (fr_put q) (fun j _ e => by omega) (fun j cur T fr e hj => by
  subst hj
  rw [h.bl] at e
  injection e with e
  injection e with _ e
  exact e.symm)
theorem Qv.cut1 {w : World} {B g n : Nat} {l : List Int} (h : Qv shU w B (some ⟨g, 0, none⟩) (n + 1) l) : Qv shU w B (some ⟨g, 1, none⟩) n (l.drop 1) := ⟨by rw [List.length_drop, h.len]; omega, fun hn => by
 obtain ⟨b, off, e, hb, hc⟩ := h.rd (by omega)
 injection e with e
 injection e with e1 e2
 subst e1 e2
 refine ⟨g, 1, rfl, hb, fun k hk j hj => ?_⟩
 have hk' : 1 + k < l.length := by rw [List.length_drop] at hk; omega
 have := hc (1 + k) hk' j hj
 rw [show 0 + (1 + k) * shU.z + j = 1 + k * shU.z + j by show 0 + (1 + k) * 1 + j = 1 + k * 1 + j; omega] at this
 rw [this]
 simp [Nat.add_comm]⟩
theorem Kt.frow {α : Type} {S : Sh α} {T : TypeId} {B g n c : Nat} {w z : World} {l : List α} (h : Ow S T w B (.slice (some ⟨g, 0, none⟩) n c) n l) (k : Fr (fun j => j = g) w z) : Kt T B w z := by
 obtain ⟨cur, fr, e⟩ := h.typ (j := g) rfl
 exact Kt.of_fr (Nat.le_trans (h.lt g rfl).1 (Nat.le_of_lt (h.lt g rfl).2)) k (fun j _ e => by have := (h.lt g rfl).1; omega) (fun j cur' T' fr' e' hj => by
  subst hj
  rw [e] at e'
  injection e' with e'
  injection e' with _ e'
  exact e'.symm)
theorem row_slice {w : World} {B s n : Nat} {T : TypeId} {v : Value} {xs : List Value} (h : w.ownsRow B T s v n xs) (hn : 0 < n) : ∃ g c, v = .slice (some ⟨g, 0, none⟩) n c ∧ n ≤ c ∧ B ≤ g ∧ g < w.heap.size := by
 rcases h.2 with ⟨_, e⟩ | ⟨g, cap, cur, e, hb, hh, hc, _⟩
 ·omega
 ·exact ⟨g, cap, e, hc, hb, cells_lt hh⟩
end Go.Proofs.YtdpblimhfmfbnaaGreat
namespace Go.Proofs.YtdpblimhfmfbnaaGreat
open Go.ChangeShapes Go.WideShapes Go.ChangeAt Go.RowKit Go.Deep
structure OwNt (w : World) (B : Nat) (v : Value) (n : Nat) (l : List Nv) : Prop where
 o : Ow shN 43 w B v n l
 u : ∀ x, x ∈ l → OwCE w B x.q.a x.q.n x.q.c x.q.l
section
variable {w z : World} {B B' n : Nat} {v : Value} {l : List Nv}
theorem OwNt.below (h : OwNt w B v n l) (hb : Below w.heap.size w z) : OwNt z B v n l := ⟨h.o.below hb, fun x hx => (h.u x hx).below hb⟩
theorem OwNt.weak (h : OwNt w B v n l) (hb : B' ≤ B) : OwNt w B' v n l := ⟨h.o.weak hb, fun x hx => (h.u x hx).weak hb⟩
theorem OwNt.nil (w : World) (B : Nat) : OwNt w B (.slice none 0 0) 0 [] := ⟨Ow.nil _ _, fun _ h => by cases h⟩
end
theorem OwNt.d {w : World} {B n c : Nat} {a : Option Addr} {l : List Nv} (h : OwNt w B (.slice a n c) n l) : NsD w w.heap.size a n l := ⟨h.o.qv, fun x hx => (h.u x hx).d⟩
def ShT (w : World) (B : Nat) (a : Option Addr) (n c : Nat) : Prop := n ≤ 1048576 ∧ ∃ l, Ow shN 43 w B (.slice a n c) n l ∧ ∀ x, x ∈ l → ShC w B x.q.a x.q.n x.q.c
theorem Kt.shn {T0 : TypeId} {B n c : Nat} {w z : World} {a : Option Addr} (h : Kt T0 B w z) (o : ShN w B a n c) (ne : (3 : TypeId) ≠ T0) : ShN z B a n c := ⟨o.1, by
 obtain ⟨u, hu⟩ := o.2
 exact ⟨u, h.owe hu ne⟩⟩
theorem Kt.shc {T0 : TypeId} {B n c : Nat} {w z : World} {a : Option Addr} (h : Kt T0 B w z) (o : ShC w B a n c) (ne : (3 : TypeId) ≠ T0) (n2 : 95 ≠ T0) : ShC z B a n c := ⟨o.1, by
 rcases o.2 with ⟨l, ho, hu⟩ | h0
 ·exact .inl ⟨l, h.ow ho n2, fun x hx => h.shn (hu x hx) ne⟩
 ·exact .inr h0⟩
theorem OwCE.shc {w : World} {B n c : Nat} {a : Option Addr} {l : List Cv} (h : OwCE w B a n c l) (hs : SmC l) (hl : n = l.length) : ShC w B a n c := by
 rcases h with h | ⟨rfl, rfl, rfl⟩
 ·exact h.shc hs
 ·exact ⟨Nat.zero_le _, .inr ⟨rfl, rfl⟩⟩
def zrN : Nv := ⟨-9, 0, ⟨0, 0, none, 0, 0, []⟩, 0, 0, 0⟩
set_option maxRecDepth 100000 in
set_option maxHeartbeats 1600000 in
theorem notes_own (B n c : Nat) (a : Option Addr) (w : World) (h : ShT w B a n c) (hB : B ≤ w.heap.size) :
  Calls Tryz.prog 45 #[.slice a n c] w fun e z => e = .returned (.tuple #[]) ∧ Below B w z := by
 have HO := Hk.mk h
 have hn := h.1
 clear h
 go_enter Tryz.func45, Tryz.ntmps45
 go_wp2
 go_loopw [2] (fun i wr => ∃ (k : Nat), i = .int .i64 k ∧ k ≤ n ∧ Hk (ShT wr B a n c) ∧ Hk (Below B w wr)) (fun i _ => n - (intOf i).toNat)
 case atStart => exact ⟨0, rfl, by omega, HO, ⟨Below.refl _ _⟩⟩
 case round =>
  clear HO
  obtain ⟨k, rfl, hk, HO, HS⟩ := hrel
  obtain ⟨l, ho, hu⟩ := HO.out.2
  by_cases hlt : k < n
  ·obtain ⟨g, rfl, hg1, hg2, -⟩ := ho.blk.resolve_left (fun h => by omega)
   have hkl : k < l.length := by have := ho.len; omega
   have HOW := Hk.mk ho
   have HU := Hk.mk hu
   have HNU := Hk.mk (hu _ (List.getElem_mem hkl))
   have hcc : ∀ X : World, Ow shN 43 X B (.slice (some ⟨g, 0, none⟩) n c) n l → ∀ j, j < 8 → X.cell? ⟨g, k * 8 + j, none⟩ = (l[k]).cs[j]? := fun X hX j hj => by
    obtain ⟨b', off', e, _, hc⟩ := hX.qv.rd (by omega)
    injection e with e
    injection e with e1 e2
    subst e1 e2
    have h := hc k hkl j hj
    rw [Nat.zero_add] at h
    exact h
   generalize l[k] = q at *
   have HCC := Hk.mk hcc
   have p4 : wr.cell? ⟨g, k * 8 + 4, none⟩ = some (.slice q.q.a q.q.n q.q.c) := hcc wr ho 4 (by decide)
   have j1 : (0 : Int) ≤ (k : Int) := by omega
   have j2 : (k : Int) < (n : Int) := by omega
   have HLT := Hk.mk hlt
   have HBW := Hk.mk (Nat.le_trans hB HS.out.size)
   have HN := Hk.mk hn
   clear hcc hu ho hkl HO
   focus
    go_wp2_with (go_at_call 40; (with_reducible refine (cmds_own B q.q.n q.q.c q.q.a _ HNU.out HBW.out).mono ?_); rintro e z ⟨rfl, hs⟩; have HSC := Hk.mk hs; have hoz := hs.ow HOW.out (by decide) (by decide); have hc := HCC.out z hoz; have c0 : z.cell? ⟨g, k * 8, none⟩ = some (.int .i64 q.f) := hc 0 (by decide); have c1 : z.cell? ⟨g, k * 8 + 1, none⟩ = some (.int .i64 q.t) := hc 1 (by decide); have c2 : z.cell? ⟨g, k * 8 + 2, none⟩ = some (.int .i64 q.q.t) := hc 2 (by decide); have c3 : z.cell? ⟨g, k * 8 + 3, none⟩ = some (.int .i64 q.q.p) := hc 3 (by decide); have c4 : z.cell? ⟨g, k * 8 + 4, none⟩ = some (.slice q.q.a q.q.n q.q.c) := hc 4 (by decide); have c5 : z.cell? ⟨g, k * 8 + 5, none⟩ = some (.int .i64 q.d) := hc 5 (by decide); have c6 : z.cell? ⟨g, k * 8 + 6, none⟩ = some (.int .u64 q.h) := hc 6 (by decide); have c7 : z.cell? ⟨g, k * 8 + 7, none⟩ = some (.int .i64 q.v) := hc 7 (by decide); have hgz := World.block_lt_of_cell? _ _ c0; have f0 := hoz.row.frozenAt (k * 8); have f1 := hoz.row.frozenAt (k * 8 + 1); have f2 := hoz.row.frozenAt (k * 8 + 2); have f3 := hoz.row.frozenAt (k * 8 + 3); have f4 := hoz.row.frozenAt (k * 8 + 4); have f5 := hoz.row.frozenAt (k * 8 + 5); have f6 := hoz.row.frozenAt (k * 8 + 6); have f7 := hoz.row.frozenAt (k * 8 + 7); have HOZ := Hk.mk hoz; clear hs hoz hc)
    have HF : Hk (Fr (fun j => j = g) z ((((((((z.setCell ⟨g, k * 8, none⟩ (.int .i64 (-9))).setCell ⟨g, k * 8 + 1, none⟩ (.int .i64 0)).setCell ⟨g, k * 8 + 2, none⟩ (.int .i64 0)).setCell ⟨g, k * 8 + 3, none⟩ (.int .i64 0)).setCell ⟨g, k * 8 + 4, none⟩ (.slice none 0 0)).setCell ⟨g, k * 8 + 5, none⟩ (.int .i64 0)).setCell ⟨g, k * 8 + 6, none⟩ (.int .u64 0)).setCell ⟨g, k * 8 + 7, none⟩ (.int .i64 0))) := ⟨Fr.setCells (M := fun j => j = g) rfl zrN.cs (k * 8) (Fr.refl (fun j => j = g) z)⟩
    have HK := Hk.mk (Kt.frow HOZ.out HF.out)
    have H4 : Hk (Below B w ((((((((z.setCell ⟨g, k * 8, none⟩ (.int .i64 (-9))).setCell ⟨g, k * 8 + 1, none⟩ (.int .i64 0)).setCell ⟨g, k * 8 + 2, none⟩ (.int .i64 0)).setCell ⟨g, k * 8 + 3, none⟩ (.int .i64 0)).setCell ⟨g, k * 8 + 4, none⟩ (.slice none 0 0)).setCell ⟨g, k * 8 + 5, none⟩ (.int .i64 0)).setCell ⟨g, k * 8 + 6, none⟩ (.int .u64 0)).setCell ⟨g, k * 8 + 7, none⟩ (.int .i64 0))) := ⟨(HS.out.trans HSC.out.bl).trans HK.out.bl⟩
    have H3 : Hk (ShT ((((((((z.setCell ⟨g, k * 8, none⟩ (.int .i64 (-9))).setCell ⟨g, k * 8 + 1, none⟩ (.int .i64 0)).setCell ⟨g, k * 8 + 2, none⟩ (.int .i64 0)).setCell ⟨g, k * 8 + 3, none⟩ (.int .i64 0)).setCell ⟨g, k * 8 + 4, none⟩ (.slice none 0 0)).setCell ⟨g, k * 8 + 5, none⟩ (.int .i64 0)).setCell ⟨g, k * 8 + 6, none⟩ (.int .u64 0)).setCell ⟨g, k * 8 + 7, none⟩ (.int .i64 0)) B (some ⟨g, 0, none⟩) n c) := ⟨HN.out, _, HOZ.out.setx k zrN, fun x hx => by
     rcases List.mem_or_eq_of_mem_set hx with h | rfl
     ·exact HK.out.shc (HSC.out.shc (HU.out x h)) (by decide) (by decide)
     ·exact ⟨Nat.zero_le _, .inr ⟨rfl, rfl⟩⟩⟩
    exact ⟨⟨k + 1, by go_num, HLT.out, H3, H4⟩, by first | exact nx_ms HLT.out | exact nx_ms' HLT.out⟩
  ·obtain rfl : k = n := by omega
   go_wp2
   go_end0
   exact ⟨rfl, HS.out⟩
end Go.Proofs.YtdpblimhfmfbnaaGreat
namespace Go.Proofs.YtdpblimhfmfbnaaGreat
open List renaming getElem_toArray → jjA, getElem_cons_succ → jjB, getElem_cons_zero → jjC, setIfInBounds_toArray → jjD, set_cons_zero → jjE, set_cons_succ → jjF
open Go.ChangeShapes Go.WideShapes Go.ChangeAt Go.RowKit Go.Deep
theorem smC_like {L l : List Cv} (h : abC L = abC l) (h1 : ∀ x, x ∈ L → x.u.length = x.m) (h2 : ∀ x, x ∈ l → x.u.length = x.m) (hs : SmC l) : SmC L := ⟨by have e := congrArg List.length h; rw [abC_len, abC_len] at e; have := hs.n; omega, fun x hx => by
 have hm : x.ab ∈ abC L := List.mem_map_of_mem hx
 rw [h] at hm
 obtain ⟨y, hy, e⟩ := List.mem_map.1 hm
 have e2 : y.u = x.u := congrArg (fun c => c.f.u) e
 have := hs.m y hy
 rw [← h1 x hx, ← e2, h2 y hy]
 exact this⟩
def noneI : In := ⟨-1, 0, []⟩
def lackM (p : Pm) (k : Nat) : In := p.m.getD (p.a.getD k 0 - minL p.a).toNat noneI
def noteM (p : Pm) (k : Nat) : Nm := ⟨p.i, (k : Int) + 1, lackM p k, if p.x.length = 0 then -1 else p.t - 1, if p.x.length = 0 then 0 else p.x.getD (p.x.length - 1) 0, p.h.getD k 0⟩
def nsM (p : Pm) : Nat → List Nm
 | 0 => []
 | k + 1 => if (k : Int) + 1 = p.i then nsM p k else nsM p k ++ [noteM p k]
structure LkP (p : Pv) (k : Nat) (low ak : Int) : Prop where
 lo : minL p.al = low
 aq : p.al.getD k 0 = ak
 le : low ≤ ak
 l0 : 0 ≤ low
 l1 : ak ≤ 1099511627776
 mt : ∀ j, j < p.mn → (p.ml.getD j default).t = low + 1 + j
theorem lkP_of {p : Pv} {w : World} {B k : Nat} (h : PvD w B p) (hk : OkP p.ab) (hka : k < p.an) : LkP p k (minL p.al) (p.al.getD k 0) := by
 have hal : p.al.length = p.an := h.a.len
 have hne : p.al ≠ [] := by intro e; rw [e] at hal; simp at hal; omega
 have hmem : p.al.getD k 0 ∈ p.al := by
  have : k < p.al.length := by omega
  simp [List.getD, this]
 have h1 := min_le hmem
 have hb : ∀ j, j < p.al.length → p.d - 1 ≤ p.al.getD j 0 ∧ p.al.getD j 0 ≤ p.s := fun j hj => by
  have hj2 : j < p.ab.h.length := by
   have h1 := hk.k.h1
   have h2 := hk.k.a1
   have h3 : (p.ab.a.length : Int) = p.al.length := rfl
   omega
  exact (hk.k.all j hj2).2.2.2
 obtain ⟨j, hj, e⟩ := List.mem_iff_getElem.1 (min_mem hne)
 have h2 := hb j hj
 rw [show p.al.getD j 0 = minL p.al by rw [← e]; simp [List.getD, hj]] at h2
 have h3 := hb k (by omega)
 have h4 := hk.c.d1
 have h5 := hk.c.s3
 have e4 : p.ab.d = p.d := rfl
 have e5 : p.ab.s = p.s := rfl
 refine ⟨rfl, rfl, h1, by omega, by omega, fun j hj => ?_⟩
 exact ((kp_in p h.m.q.len).1 hk.e |>.2.2 j hj).2
theorem lack_at {p : Pv} {k : Nat} {low ak : Int} (h : LkP p k low ak) {j : Nat} (hj : j < p.ml.length) (e : (j : Int) = ak - low) : lackM p.ab k = (p.ml.getD j default).ab := by
 show (abI p.ml).getD (p.al.getD k 0 - minL p.al).toNat noneI = _
 rw [h.lo, h.aq, ← e]
 simp [List.getD, abI, hj]
theorem lack_none {p : Pv} {k : Nat} {low ak : Int} (h : LkP p k low ak) (e : (p.ml.length : Int) ≤ ak - low) : lackM p.ab k = noneI := by
 show (abI p.ml).getD (p.al.getD k 0 - minL p.al).toNat noneI = _
 rw [h.lo, h.aq]
 have : p.ml.length ≤ (ak - low).toNat := by omega
 simp [List.getD, abI, this]
set_option maxRecDepth 100000 in
set_option maxHeartbeats 3200000 in
theorem lack_any (p : Pv) (k : Nat) (T : Int) (w : World) (hT : IntKind.i64.wrap (T - 1) = (k : Int)) (h : PvD w w.heap.size p) (hs : PvS p) (hk : OkP p.ab) (hka : k < p.an) :
  Calls Tryz.prog 71 #[.agg #[.int .i64 p.i, .int .i64 p.n, .int .i64 p.d, .int .i64 p.t, .int .i64 p.s, .slice p.ma p.mn p.mc, .slice p.la p.ln p.lc, .slice p.ha p.hn p.hc, .slice p.aa p.an p.ac, .slice p.xa p.xn p.xc, .bool p.b], .int .i64 T] w fun e z => ∃ q : Iv, e = .returned (.agg #[.int .i64 q.t, .int .i64 q.p, .slice q.a q.n q.c]) ∧ OwCE z w.heap.size q.a q.n q.c q.l ∧ q.ab = lackM p.ab k ∧ SmC q.l ∧ Below w.heap.size w z := by
 have HLK := Hk.mk (lkP_of h hk hka)
 obtain ⟨low, hlow⟩ : ∃ low, low = minL p.al := ⟨_, rfl⟩
 obtain ⟨ak, hak⟩ : ∃ ak, ak = p.al.getD k 0 := ⟨_, rfl⟩
 rw [← hlow, ← hak] at HLK
 have HAK := Hk.mk hak
 have HKA := Hk.mk hka
 have HML := Hk.mk h.m.q.len
 have HSM := Hk.mk hs.m
 have hmn : p.mn ≤ 1048576 := by have := hs.m.n; rw [h.m.q.len] at this; exact this
 have HAN : Hk (p.an ≤ 1048576) := ⟨hs.a⟩
 have HBW : Hk (Below w.heap.size w ((w.alloc (.cells #[.int .i64 p.i, .int .i64 p.n, .int .i64 p.d, .int .i64 p.t, .int .i64 p.s, .slice p.ma p.mn p.mc, .slice p.la p.ln p.lc, .slice p.ha p.hn p.hc, .slice p.aa p.an p.ac, .slice p.xa p.xn p.xc, .bool p.b] 26)).alloc (.cells #[.int .i64 0, .int .i64 0, .slice none 0 0] 40))) := ⟨((Below.refl _ _).alloc (Nat.le_refl _) _).alloc (by simp) _⟩
 have HPB : Hk (Bk ((w.alloc (.cells #[.int .i64 p.i, .int .i64 p.n, .int .i64 p.d, .int .i64 p.t, .int .i64 p.s, .slice p.ma p.mn p.mc, .slice p.la p.ln p.lc, .slice p.ha p.hn p.hc, .slice p.aa p.an p.ac, .slice p.xa p.xn p.xc, .bool p.b] 26)).alloc (.cells #[.int .i64 0, .int .i64 0, .slice none 0 0] 40)) w.heap.size #[.int .i64 p.i, .int .i64 p.n, .int .i64 p.d, .int .i64 p.t, .int .i64 p.s, .slice p.ma p.mn p.mc, .slice p.la p.ln p.lc, .slice p.ha p.hn p.hc, .slice p.aa p.an p.ac, .slice p.xa p.xn p.xc, .bool p.b]) := ⟨(Bk.new w #[.int .i64 p.i, .int .i64 p.n, .int .i64 p.d, .int .i64 p.t, .int .i64 p.s, .slice p.ma p.mn p.mc, .slice p.la p.ln p.lc, .slice p.ha p.hn p.hc, .slice p.aa p.an p.ac, .slice p.xa p.xn p.xc, .bool p.b] 26).al _⟩
 have e1 : (w.alloc (.cells #[.int .i64 p.i, .int .i64 p.n, .int .i64 p.d, .int .i64 p.t, .int .i64 p.s, .slice p.ma p.mn p.mc, .slice p.la p.ln p.lc, .slice p.ha p.hn p.hc, .slice p.aa p.an p.ac, .slice p.xa p.xn p.xc, .bool p.b] 26)).heap.size = w.heap.size + 1 := by simp
 have HRB : Hk (Bk ((w.alloc (.cells #[.int .i64 p.i, .int .i64 p.n, .int .i64 p.d, .int .i64 p.t, .int .i64 p.s, .slice p.ma p.mn p.mc, .slice p.la p.ln p.lc, .slice p.ha p.hn p.hc, .slice p.aa p.an p.ac, .slice p.xa p.xn p.xc, .bool p.b] 26)).alloc (.cells #[.int .i64 0, .int .i64 0, .slice none 0 0] 40)) (w.heap.size + 1) #[.int .i64 0, .int .i64 0, .slice none 0 0]) := ⟨by rw [← e1]; exact Bk.new (w.alloc (.cells #[.int .i64 p.i, .int .i64 p.n, .int .i64 p.d, .int .i64 p.t, .int .i64 p.s, .slice p.ma p.mn p.mc, .slice p.la p.ln p.lc, .slice p.ha p.hn p.hc, .slice p.aa p.an p.ac, .slice p.xa p.xn p.xc, .bool p.b] 26)) #[.int .i64 0, .int .i64 0, .slice none 0 0] 40⟩
 have HDP : Hk (∀ X, Below w.heap.size w X → PvD X X.heap.size p) := ⟨fun X hX => h.later hX⟩
 have g1 : IntKind.i64.wrap (ak + 1) = ak + 1 := wr27 (by have h1 := HLK.out.l0; have h2 := HLK.out.le; omega) (by have h1 := HLK.out.l1; omega)
 clear e1 h hs hk hlow hak hka
 go_enter Tryz.func71, Tryz.ntmps71
 go_upto_region 1 with fail
 generalize ((w.alloc (.cells #[.int .i64 p.i, .int .i64 p.n, .int .i64 p.d, .int .i64 p.t, .int .i64 p.s, .slice p.ma p.mn p.mc, .slice p.la p.ln p.lc, .slice p.ha p.hn p.hc, .slice p.aa p.an p.ac, .slice p.xa p.xn p.xc, .bool p.b] 26)).alloc (.cells #[.int .i64 0, .int .i64 0, .slice none 0 0] 40)) = V at *
 have c5 := HPB.out.c 5
 have cl := HPB.out.lt
 simp at c5
 go_wp2
 clear c5 cl
 go_loopw [10] (fun i wr => ∃ (j : Nat), i = .int .i64 j ∧ j ≤ p.mn ∧ Hk ((j : Int) ≤ ak - low) ∧ Hk (Below V.heap.size V wr)) (fun i _ => p.mn - (intOf i).toNat)
 case atStart => exact ⟨0, rfl, Nat.zero_le _, ⟨by have := HLK.out.le; simp; omega⟩, ⟨Below.refl _ _⟩⟩
 case round =>
  obtain ⟨j, rfl, hj, HJ, HB⟩ := hrel
  have HRR := Hk.mk (HRB.out.below HB.out)
  have HPP := Hk.mk (HPB.out.below HB.out)
  have HBX := Hk.mk (HBW.out.trans (HB.out.mono HBW.out.size))
  by_cases hlt : j < p.mn
  ·have HM := (HDP.out _ HBX.out).m
   obtain ⟨b, off, ea, hbl, ⟨p0, p1, p2⟩, hnq⟩ := HM.three hlt
   have hjl : j < p.ml.length := by rw [HML.out]; exact hlt
   obtain ⟨q, hq⟩ : ∃ q, p.ml.getD j default = q := ⟨_, rfl⟩
   have HSQ : Hk (SmC q.l) := ⟨by rw [← hq]; exact HSM.out.m _ (getD_memI hjl)⟩
   have HQT : Hk (q.t = low + 1 + j) := ⟨by rw [← hq]; exact HLK.out.mt j hlt⟩
   rw [hq] at p0 p1 p2 hnq
   have HQD : Hk (∀ X, Below wr.heap.size wr X → CmD X X.heap.size q.a q.n q.l) := ⟨fun X hX => hnq.later hX⟩
   obtain ⟨ba, oa, eb, hba, hca⟩ := (HDP.out _ HBX.out).a.at_ (by have := HKA.out; omega)
   have ca : wr.cell? ⟨ba, oa + k, none⟩ = some (.int .i64 ak) := by rw [HAK.out]; exact hca k HKA.out
   have c5 := HPP.out.c 5
   have c8 := HPP.out.c 8
   have cl := HPP.out.lt
   simp at c5 c8
   rw [eb] at c8
   have t0 : (0 : Int) ≤ (j : Int) := by omega
   have t1 : (j : Int) < (p.mn : Int) := by omega
   have t2 : k < p.an := HKA.out
   have t3 : (0 : Int) ≤ (k : Int) := by omega
   have t4 : (k : Int) < (p.an : Int) := by omega
   have HLT := Hk.mk hlt
   have HQ := Hk.mk hq
   have HJL := Hk.mk hjl
   rw [ea]
   clear hnq hca HM c5 hq
   go_upto_region 4 with fail
   have HNB : Hk (Bk (wr.alloc (.cells #[.int .i64 q.t, .int .i64 q.p, .slice q.a q.n q.c] 40)) wr.heap.size #[.int .i64 q.t, .int .i64 q.p, .slice q.a q.n q.c]) := ⟨Bk.new wr #[.int .i64 q.t, .int .i64 q.p, .slice q.a q.n q.c] 40⟩
   have HX3 : Hk (Below wr.heap.size wr (wr.alloc (.cells #[.int .i64 q.t, .int .i64 q.p, .slice q.a q.n q.c] 40))) := ⟨below_al _ _⟩
   have d8 : (wr.alloc (.cells #[.int .i64 q.t, .int .i64 q.p, .slice q.a q.n q.c] 40)).cell? ⟨w.heap.size, 8, none⟩ = some (.slice (some ⟨ba, oa, none⟩) p.an p.ac) := (HX3.out.cell (p := ⟨w.heap.size, 8, none⟩) cl).trans c8
   have da : (wr.alloc (.cells #[.int .i64 q.t, .int .i64 q.p, .slice q.a q.n q.c] 40)).cell? ⟨ba, oa + k, none⟩ = some (.int .i64 ak) := (HX3.out.cell (p := ⟨ba, oa + k, none⟩) hba).trans ca
   have dl : w.heap.size < (wr.alloc (.cells #[.int .i64 q.t, .int .i64 q.p, .slice q.a q.n q.c] 40)).heap.size := Nat.lt_of_lt_of_le cl HX3.out.size
   have dbl : ba < (wr.alloc (.cells #[.int .i64 q.t, .int .i64 q.p, .slice q.a q.n q.c] 40)).heap.size := Nat.lt_of_lt_of_le hba HX3.out.size
   clear p0 p1 p2 c8 ca cl hba hbl
   have HY := Hk.mk (HRR.out.below HX3.out)
   clear HRR HPP
   obtain ⟨wo, hwo⟩ : ∃ X : World, X = wr := ⟨wr, rfl⟩
   have HXW : Hk (Below wr.heap.size wr (wr.alloc (.cells #[.int .i64 q.t, .int .i64 q.p, .slice q.a q.n q.c] 40))) := HX3
   generalize hV3 : (wr.alloc (.cells #[.int .i64 q.t, .int .i64 q.p, .slice q.a q.n q.c] 40)) = V3 at *
   have hNb : wr.heap.size < V3.heap.size := HNB.out.lt
   have n0 := HNB.out.c 0
   have n1 := HNB.out.c 1
   have n2 := HNB.out.c 2
   simp at n0 n1 n2
   have HZ : Hk (Below V3.heap.size V3 V3) := ⟨Below.refl _ _⟩
   by_cases he : (j : Int) = ak - low
   ·have f1 : (q.t == ak + 1) = true := by rw [HQT.out]; simp; omega
    have HE := Hk.mk he
    clear he
    refine wp_region_held_drew (S := (fun X => (∀ b o, b < V3.heap.size → X.cell? ⟨b, o, none⟩ = V3.cell? ⟨b, o, none⟩) ∧ Below V3.heap.size V3 X)) (by kernel_rfl) ?_ (fun hHeld => ?_)
    ·exact kw_S (kw_drew HZ.out)
    have HI : Ix [0, 1, 2, 3, 4, 5, 6, 7, 8, 9] := trivial
    iterate 10 (refine tkA HI (v := ?_) rfl (by kernel_rfl) (fun _ _ _ h => h) (.inl ⟨by rfl, fun wX hSw => ?_⟩) hHeld (fun HJ => ?_); rotate_left; (focus ((try dsimp only at hSw); go_simp; try with_reducible rfl)); clear HI; have HI := HJ; clear HJ; try simp only [Act.put, jjA, jjB, jjC, jjD, jjE, jjF])
    clear HI
    refine wpAnyH_done (by kernel_rfl) ?_ _
    clear hHeld n0 n1 n2
    have HX4 : Hk (Below wr.heap.size wr V3.drew) := ⟨HX3.out.drew⟩
    have HNB4 := Hk.mk HNB.out.drew
    have HRR := Hk.mk HY.out.drew
    clear HX3 HNB HY HZ HXW hV3 hNb d8 da dl dbl
    generalize V3.drew = V4 at *
    have n0 := HNB4.out.c 0
    have n1 := HNB4.out.c 1
    have n2 := HNB4.out.c 2
    have nl := HNB4.out.lt
    simp at n0 n1 n2
    go_wp2_with (go_at_call 63; (with_reducible refine (cpin_any q.t q.p q.a q.n q.c q.l _ (HQD.out _ HX4.out) HSQ.out).mono ?_); rintro e z ⟨a2, c2, L, rfl, ho, hab, hb⟩; have HO := Hk.mk ho; have HAB := Hk.mk hab; have HBZ := Hk.mk (HX4.out.trans (hb.mono HX4.out.size)); have HRZ := Hk.mk (HRR.out.below hb); clear ho hab hb; have m0 := HRZ.out.c 0; have m1 := HRZ.out.c 1; have m2 := HRZ.out.c 2; have k0' := HRZ.out.f 0; have k1' := HRZ.out.f 1; have k2' := HRZ.out.f 2; have ml := HRZ.out.lt; simp at m0 m1 m2)
    have HFR : Hk (Fr (fun x => x = (w.heap.size + 1)) z (((z.setCell ⟨(w.heap.size + 1), 0, none⟩ (.int .i64 q.t)).setCell ⟨(w.heap.size + 1), 1, none⟩ (.int .i64 q.p)).setCell ⟨(w.heap.size + 1), 2, none⟩ (.slice a2 q.n c2))) := ⟨by refine Fr.setCell (M := fun x => x = (w.heap.size + 1)) (p := ⟨(w.heap.size + 1), 2, none⟩) ?_ (fun _ => rfl) _; refine Fr.setCell (M := fun x => x = (w.heap.size + 1)) (p := ⟨(w.heap.size + 1), 1, none⟩) ?_ (fun _ => rfl) _; refine Fr.setCell (M := fun x => x = (w.heap.size + 1)) (p := ⟨(w.heap.size + 1), 0, none⟩) ?_ (fun _ => rfl) _; exact Fr.refl _ _⟩
    have HBB : Hk (Below w.heap.size w (((z.setCell ⟨(w.heap.size + 1), 0, none⟩ (.int .i64 q.t)).setCell ⟨(w.heap.size + 1), 1, none⟩ (.int .i64 q.p)).setCell ⟨(w.heap.size + 1), 2, none⟩ (.slice a2 q.n c2))) := ⟨(HBX.out.trans (HBZ.out.mono HBX.out.size)).trans (HFR.out.below (Nat.le_trans HBX.out.size HBZ.out.size) (fun j _ e => by omega))⟩
    have hrl := HRR.out.lt
    refine bodyPost_ret (v := .agg #[.int .i64 q.t, .int .i64 q.p, .slice a2 q.n c2]) (by simp [results, Tryz.results71, go_sem, m0, m1, m2, k0', k1', k2']) rfl ⟨⟨q.t, q.p, a2, q.n, c2, L⟩, rfl, (OwCE.up (Or.inl HO.out) HFR.out (fun x hx e => by omega)).weak (Nat.le_trans HBX.out.size HX4.out.size), ?_, ?_, HBB.out⟩
    ·rw [lack_at HLK.out HJL.out HE.out, HQ.out]
     show (⟨q.t, q.p, abC L⟩ : In) = ⟨q.t, q.p, abC q.l⟩
     rw [HAB.out]
    ·have e1 := congrArg List.length HAB.out
     rw [abC_len, abC_len] at e1
     exact smC_like HAB.out (fun x hx => (HO.out.u x hx).nq.len) (fun x hx => (HQD.out _ (Below.refl _ _)).u x hx |>.len) HSQ.out
   ·have f1 : (q.t == ak + 1) = false := by rw [HQT.out]; simp; omega
    have HE := Hk.mk he
    clear he
    refine wp_region_held_drew (S := (fun X => (∀ b o, b < V3.heap.size → X.cell? ⟨b, o, none⟩ = V3.cell? ⟨b, o, none⟩) ∧ Below V3.heap.size V3 X)) (by kernel_rfl) ?_ (fun hHeld => ?_)
    ·exact kw_S (kw_drew HZ.out)
    have HI : Ix [0, 1, 2, 3, 4, 5, 6, 7, 8, 9] := trivial
    iterate 10 (refine tkA HI (v := ?_) rfl (by kernel_rfl) (fun _ _ _ h => h) (.inl ⟨by rfl, fun wX hSw => ?_⟩) hHeld (fun HJ => ?_); rotate_left; (focus ((try dsimp only at hSw); go_simp; try with_reducible rfl)); clear HI; have HI := HJ; clear HJ; try simp only [Act.put, jjA, jjB, jjC, jjD, jjE, jjF])
    clear HI
    refine wpAnyH_done (by kernel_rfl) ?_ _
    clear hHeld n0 n1 n2 d8 da
    go_wp2
    exact ⟨⟨j + 1, by go_num, HLT.out, ⟨by have h1 := HJ.out; have h2 := HE.out; push_cast; omega⟩, ⟨HB.out.trans ((HX3.out.drew).mono HB.out.size)⟩⟩, by first | exact nx_ms HLT.out | exact nx_ms' HLT.out⟩
  ·obtain rfl : j = p.mn := by omega
   clear HPP
   have r0 := HRR.out.c 0
   have r1 := HRR.out.c 1
   have r2 := HRR.out.c 2
   have f0 := HRR.out.f 0
   have f1 := HRR.out.f 1
   have f2 := HRR.out.f 2
   have rl := HRR.out.lt
   simp at r0 r1 r2
   have HBB : Hk (Below w.heap.size w (((wr.setCell ⟨(w.heap.size + 1), 0, none⟩ (.int .i64 (-1))).setCell ⟨(w.heap.size + 1), 1, none⟩ (.int .i64 0)).setCell ⟨(w.heap.size + 1), 2, none⟩ (.slice none 0 0))) := ⟨HBX.out.trans (by refine Below.setCell ?_ (p := ⟨(w.heap.size + 1), 2, none⟩) (by show w.heap.size ≤ (w.heap.size + 1); omega) _; refine Below.setCell ?_ (p := ⟨(w.heap.size + 1), 1, none⟩) (by show w.heap.size ≤ (w.heap.size + 1); omega) _; refine Below.setCell ?_ (p := ⟨(w.heap.size + 1), 0, none⟩) (by show w.heap.size ≤ (w.heap.size + 1); omega) _; exact Below.refl _ _)⟩
   go_wp2
   refine bodyPost_ret (v := .agg #[.int .i64 (-1), .int .i64 0, .slice none 0 0]) (by simp [results, Tryz.results71, go_sem, r0, r1, r2, f0, f1, f2]) rfl ⟨⟨-1, 0, none, 0, 0, []⟩, rfl, .inr ⟨rfl, rfl, rfl⟩, ?_, ⟨Nat.zero_le _, fun _ h => by cases h⟩, HBB.out⟩
   rw [lack_none HLK.out (by rw [HML.out]; exact HJ.out)]
   rfl
end Go.Proofs.YtdpblimhfmfbnaaGreat
namespace Go.Proofs.YtdpblimhfmfbnaaGreat
open List renaming getElem_toArray → jjA, getElem_cons_succ → jjB, getElem_cons_zero → jjC, setIfInBounds_toArray → jjD, set_cons_zero → jjE, set_cons_succ → jjF
open Go.ChangeShapes Go.WideShapes Go.ChangeAt Go.RowKit Go.Deep
theorem info_nt : (Tryz.prog.info? 43).map (fun i => (i.zero, i.size, i.bytes)) = some (some (.agg #[.int .i64 0, .int .i64 0, .int .i64 0, .int .i64 0, .slice none 0 0, .int .i64 0, .int .u64 0, .int .i64 0]), 8, 80) := by kernel_rfl
def LkR (w : World) (B : Nat) (p : Pm) (k : Nat) (q : Iv) : Prop := OwCE w B q.a q.n q.c q.l ∧ q.ab = lackM p k ∧ SmC q.l
theorem LkR.below {w z : World} {B k : Nat} {p : Pm} {q : Iv} (h : LkR w B p k q) (hb : Below w.heap.size w z) : LkR z B p k q := ⟨h.1.below hb, h.2⟩
theorem OwNt.snoc {w z : World} {B n : Nat} {v v2 : Value} {L : List Nv} {e : Nv} (h : OwNt w B v n L) (hq : OwCE w B e.q.a e.q.n e.q.c e.q.l) (ho : z.ownsRow B 43 8 v2 (n + 1) (flt shN L ++ e.cs)) (hg : w.grownBy z v.ownBlock) (hB : B ≤ w.heap.size) : OwNt z B v2 (n + 1) (L ++ [e]) := by
 have k := Kt.grown hB h.o.row hg
 refine ⟨⟨by rw [List.length_append, h.o.len]; rfl, by rw [flt_app, flt_one1]; exact ho⟩, fun x hx => ?_⟩
 rcases List.mem_append.1 hx with hx | hx
 ·exact k.owce (h.u x hx) (by decide) (by decide)
 ·obtain rfl := List.mem_singleton.1 hx
  exact k.owce hq (by decide) (by decide)
theorem nsM_id {p : Pm} {k : Nat} (h : (k : Int) + 1 = p.i) : nsM p (k + 1) = nsM p k := if_pos h
theorem nsM_ot {p : Pm} {k : Nat} (h : ¬ (k : Int) + 1 = p.i) : nsM p (k + 1) = nsM p k ++ [noteM p k] := if_neg h
theorem abN_app (l m : List Nv) : abN (l ++ m) = abN l ++ abN m := List.map_append
def NtR (w : World) (p : Pv) (e : Ending) (z : World) : Prop := ∃ a n c L, e = .returned (.tuple #[.slice a n c, .int .i64 0]) ∧ OwNt z w.heap.size (.slice a n c) n L ∧ abN L = nsM p.ab p.n.toNat ∧ n ≤ 8 ∧ (∀ x, x ∈ L → SmC x.q.l) ∧ Below w.heap.size w z
set_option maxRecDepth 100000 in
set_option maxHeartbeats 3200000 in
theorem pnotes_no (p : Pv) (w : World) (h : PvD w w.heap.size p) (hs : PvS p) (E : ¬ OkP p.ab) :
  Calls Tryz.prog 42 #[.agg #[.int .i64 p.i, .int .i64 p.n, .int .i64 p.d, .int .i64 p.t, .int .i64 p.s, .slice p.ma p.mn p.mc, .slice p.la p.ln p.lc, .slice p.ha p.hn p.hc, .slice p.aa p.an p.ac, .slice p.xa p.xn p.xc, .bool p.b]] w fun e z => e = .returned (.tuple #[.slice none 0 0, .int .i64 1]) ∧ Below w.heap.size w z := by
 have HNO := Hk.mk E
 have HS := Hk.mk hs
 have HDP : Hk (∀ X, Below w.heap.size w X → PvD X X.heap.size p) := ⟨fun X hX => h.later hX⟩
 have HWB : Hk (Below w.heap.size w (w.alloc (.cells #[.int .i64 p.i, .int .i64 p.n, .int .i64 p.d, .int .i64 p.t, .int .i64 p.s, .slice p.ma p.mn p.mc, .slice p.la p.ln p.lc, .slice p.ha p.hn p.hc, .slice p.aa p.an p.ac, .slice p.xa p.xn p.xc, .bool p.b] 26))) := ⟨(Below.refl _ _).alloc (Nat.le_refl _) _⟩
 have hNW : (w.heap.size + 1) ≤ (w.alloc (.cells #[.int .i64 p.i, .int .i64 p.n, .int .i64 p.d, .int .i64 p.t, .int .i64 p.s, .slice p.ma p.mn p.mc, .slice p.la p.ln p.lc, .slice p.ha p.hn p.hc, .slice p.aa p.an p.ac, .slice p.xa p.xn p.xc, .bool p.b] 26)).heap.size := by simp
 have HB : Hk (Below (w.heap.size + 1) (w.alloc (.cells #[.int .i64 p.i, .int .i64 p.n, .int .i64 p.d, .int .i64 p.t, .int .i64 p.s, .slice p.ma p.mn p.mc, .slice p.la p.ln p.lc, .slice p.ha p.hn p.hc, .slice p.aa p.an p.ac, .slice p.xa p.xn p.xc, .bool p.b] 26)) (w.alloc (.cells #[.int .i64 p.i, .int .i64 p.n, .int .i64 p.d, .int .i64 p.t, .int .i64 p.s, .slice p.ma p.mn p.mc, .slice p.la p.ln p.lc, .slice p.ha p.hn p.hc, .slice p.aa p.an p.ac, .slice p.xa p.xn p.xc, .bool p.b] 26))) := ⟨Below.refl _ _⟩
 have HTR : Hk (∀ X, Below (w.heap.size + 1) (w.alloc (.cells #[.int .i64 p.i, .int .i64 p.n, .int .i64 p.d, .int .i64 p.t, .int .i64 p.s, .slice p.ma p.mn p.mc, .slice p.la p.ln p.lc, .slice p.ha p.hn p.hc, .slice p.aa p.an p.ac, .slice p.xa p.xn p.xc, .bool p.b] 26)) X → Below w.heap.size w X) := ⟨fun X hX => HWB.out.trans (hX.mono (by omega))⟩
 have HPB : Hk (Bk (w.alloc (.cells #[.int .i64 p.i, .int .i64 p.n, .int .i64 p.d, .int .i64 p.t, .int .i64 p.s, .slice p.ma p.mn p.mc, .slice p.la p.ln p.lc, .slice p.ha p.hn p.hc, .slice p.aa p.an p.ac, .slice p.xa p.xn p.xc, .bool p.b] 26)) w.heap.size #[.int .i64 p.i, .int .i64 p.n, .int .i64 p.d, .int .i64 p.t, .int .i64 p.s, .slice p.ma p.mn p.mc, .slice p.la p.ln p.lc, .slice p.ha p.hn p.hc, .slice p.aa p.an p.ac, .slice p.xa p.xn p.xc, .bool p.b]) := ⟨Bk.new w #[.int .i64 p.i, .int .i64 p.n, .int .i64 p.d, .int .i64 p.t, .int .i64 p.s, .slice p.ma p.mn p.mc, .slice p.la p.ln p.lc, .slice p.ha p.hn p.hc, .slice p.aa p.an p.ac, .slice p.xa p.xn p.xc, .bool p.b] 26⟩
 clear h hs E
 go_enter Tryz.func42, Tryz.ntmps42
 go_upto_region 1 with fail
 generalize (w.alloc (.cells #[.int .i64 p.i, .int .i64 p.n, .int .i64 p.d, .int .i64 p.t, .int .i64 p.s, .slice p.ma p.mn p.mc, .slice p.la p.ln p.lc, .slice p.ha p.hn p.hc, .slice p.aa p.an p.ac, .slice p.xa p.xn p.xc, .bool p.b] 26)) = V at *
 have c0 := HPB.out.c 0; have c1 := HPB.out.c 1; have c2 := HPB.out.c 2; have c3 := HPB.out.c 3; have c4 := HPB.out.c 4; have c5 := HPB.out.c 5; have c6 := HPB.out.c 6; have c7 := HPB.out.c 7; have c8 := HPB.out.c 8; have c9 := HPB.out.c 9; have c10 := HPB.out.c 10; have cl := HPB.out.lt; simp at c0 c1 c2 c3 c4 c5 c6 c7 c8 c9 c10
 go_wp2_with (go_at_call 14; (with_reducible refine (pcheck_as false 1 p _ (HDP.out _ HWB.out) HS.out ⟨⟨fun g => absurd g HNO.out, fun g => by cases g⟩⟩ ⟨rfl⟩).mono ?_); rintro e z ⟨rfl, hb⟩; have HBZ := Hk.mk (HWB.out.trans (hb.mono HWB.out.size)); clear hb)
 go_ret2
 exact ⟨rfl, HBZ.out⟩
set_option maxRecDepth 100000 in
set_option maxHeartbeats 3200000 in
theorem pnotes_yes (p : Pv) (w : World) (h : PvD w w.heap.size p) (hs : PvS p) (hk : OkP p.ab) :
  Calls Tryz.prog 42 #[.agg #[.int .i64 p.i, .int .i64 p.n, .int .i64 p.d, .int .i64 p.t, .int .i64 p.s, .slice p.ma p.mn p.mc, .slice p.la p.ln p.lc, .slice p.ha p.hn p.hc, .slice p.aa p.an p.ac, .slice p.xa p.xn p.xc, .bool p.b]] w (NtR w p) := by
 obtain ⟨i0, hi0, hz0, hz1, hz2⟩ := info_parts info_nt
 obtain ⟨N, hN⟩ : ∃ N : Nat, p.n = N := ⟨p.n.toNat, by have h1 := hk.c.n1; have e : p.ab.n = p.n := rfl; omega⟩
 have HN8 : Hk (1 ≤ N ∧ N ≤ 8 ∧ p.hn = N ∧ p.an = N) := ⟨by
  have h1 := hk.c.n1
  have h2 := hk.c.n2
  have e : p.ab.n = p.n := rfl
  have h3 := hk.k.h1
  have h4 := hk.k.a1
  have h5 : p.ab.h.length = p.hl.length := rfl
  have h6 : p.ab.a.length = p.al.length := rfl
  have h7 := h.h.len
  have h8 := h.a.len
  omega⟩
 have HTB : Hk (0 ≤ p.t ∧ p.t ≤ 1099511627776) := ⟨⟨hk.c.t1, hk.c.t2⟩⟩
 have HXB : Hk (p.xn ≤ 16 ∧ p.xl.length = p.xn) := ⟨by have h1 := hk.x1; have h2 := h.x.len; have h3 : p.ab.x.length = p.xl.length := rfl; omega⟩
 have HNE := Hk.mk hN
 have HOK := Hk.mk hk
 have HS := Hk.mk hs
 have HDP : Hk (∀ X, Below w.heap.size w X → PvD X X.heap.size p) := ⟨fun X hX => h.later hX⟩
 have HWB : Hk (Below w.heap.size w (w.alloc (.cells #[.int .i64 p.i, .int .i64 p.n, .int .i64 p.d, .int .i64 p.t, .int .i64 p.s, .slice p.ma p.mn p.mc, .slice p.la p.ln p.lc, .slice p.ha p.hn p.hc, .slice p.aa p.an p.ac, .slice p.xa p.xn p.xc, .bool p.b] 26))) := ⟨(Below.refl _ _).alloc (Nat.le_refl _) _⟩
 have hNW : (w.heap.size + 1) ≤ (w.alloc (.cells #[.int .i64 p.i, .int .i64 p.n, .int .i64 p.d, .int .i64 p.t, .int .i64 p.s, .slice p.ma p.mn p.mc, .slice p.la p.ln p.lc, .slice p.ha p.hn p.hc, .slice p.aa p.an p.ac, .slice p.xa p.xn p.xc, .bool p.b] 26)).heap.size := by simp
 have HB : Hk (Below (w.heap.size + 1) (w.alloc (.cells #[.int .i64 p.i, .int .i64 p.n, .int .i64 p.d, .int .i64 p.t, .int .i64 p.s, .slice p.ma p.mn p.mc, .slice p.la p.ln p.lc, .slice p.ha p.hn p.hc, .slice p.aa p.an p.ac, .slice p.xa p.xn p.xc, .bool p.b] 26)) (w.alloc (.cells #[.int .i64 p.i, .int .i64 p.n, .int .i64 p.d, .int .i64 p.t, .int .i64 p.s, .slice p.ma p.mn p.mc, .slice p.la p.ln p.lc, .slice p.ha p.hn p.hc, .slice p.aa p.an p.ac, .slice p.xa p.xn p.xc, .bool p.b] 26))) := ⟨Below.refl _ _⟩
 have HTR : Hk (∀ X, Below (w.heap.size + 1) (w.alloc (.cells #[.int .i64 p.i, .int .i64 p.n, .int .i64 p.d, .int .i64 p.t, .int .i64 p.s, .slice p.ma p.mn p.mc, .slice p.la p.ln p.lc, .slice p.ha p.hn p.hc, .slice p.aa p.an p.ac, .slice p.xa p.xn p.xc, .bool p.b] 26)) X → Below w.heap.size w X) := ⟨fun X hX => HWB.out.trans (hX.mono (by omega))⟩
 have HPB : Hk (Bk (w.alloc (.cells #[.int .i64 p.i, .int .i64 p.n, .int .i64 p.d, .int .i64 p.t, .int .i64 p.s, .slice p.ma p.mn p.mc, .slice p.la p.ln p.lc, .slice p.ha p.hn p.hc, .slice p.aa p.an p.ac, .slice p.xa p.xn p.xc, .bool p.b] 26)) w.heap.size #[.int .i64 p.i, .int .i64 p.n, .int .i64 p.d, .int .i64 p.t, .int .i64 p.s, .slice p.ma p.mn p.mc, .slice p.la p.ln p.lc, .slice p.ha p.hn p.hc, .slice p.aa p.an p.ac, .slice p.xa p.xn p.xc, .bool p.b]) := ⟨Bk.new w #[.int .i64 p.i, .int .i64 p.n, .int .i64 p.d, .int .i64 p.t, .int .i64 p.s, .slice p.ma p.mn p.mc, .slice p.la p.ln p.lc, .slice p.ha p.hn p.hc, .slice p.aa p.an p.ac, .slice p.xa p.xn p.xc, .bool p.b] 26⟩
 clear h hs hk HTR hN
 go_enter Tryz.func42, Tryz.ntmps42
 go_upto_region 1 with fail
 generalize (w.alloc (.cells #[.int .i64 p.i, .int .i64 p.n, .int .i64 p.d, .int .i64 p.t, .int .i64 p.s, .slice p.ma p.mn p.mc, .slice p.la p.ln p.lc, .slice p.ha p.hn p.hc, .slice p.aa p.an p.ac, .slice p.xa p.xn p.xc, .bool p.b] 26)) = V at *
 have c0 := HPB.out.c 0; have c1 := HPB.out.c 1; have c2 := HPB.out.c 2; have c3 := HPB.out.c 3; have c4 := HPB.out.c 4; have c5 := HPB.out.c 5; have c6 := HPB.out.c 6; have c7 := HPB.out.c 7; have c8 := HPB.out.c 8; have c9 := HPB.out.c 9; have c10 := HPB.out.c 10; have cl := HPB.out.lt; simp at c0 c1 c2 c3 c4 c5 c6 c7 c8 c9 c10
 go_upto_region 5 with (go_at_call 14; (with_reducible refine (pcheck_as true 0 p _ (HDP.out _ HWB.out) HS.out ⟨⟨fun g => rfl, fun g => HOK.out⟩⟩ ⟨rfl⟩).mono ?_); rintro e z ⟨rfl, hb⟩; have HBZ : Hk (Below V.heap.size V z) := ⟨hb⟩; clear hb)
 have HTR : Hk (∀ X, Below V.heap.size V X → Below w.heap.size w X) := ⟨fun X hX => HWB.out.trans (hX.mono HWB.out.size)⟩
 clear HB
 have HZC := Hk.mk (HPB.out.below HBZ.out)
 have z3 := HZC.out.c 3
 have z9 := HZC.out.c 9
 have zl := HZC.out.lt
 simp at z3 z9
 obtain ⟨LX, hLX⟩ : ∃ LX : Int, LX = (p.xn : Int) - 1 := ⟨_, rfl⟩
 have gx : IntKind.i64.wrap ((p.xn : Int) - 1) = LX := by rw [hLX]; exact wr27 (by omega) (by have := HXB.out; omega)
 have gt : IntKind.i64.wrap (p.t - 1) = p.t - 1 := wr27 (by have := HTB.out; omega) (by have := HTB.out; omega)
 obtain ⟨D, hD⟩ : ∃ D : Int, D = if p.xn = 0 then -1 else p.t - 1 := ⟨_, rfl⟩
 obtain ⟨H, hH⟩ : ∃ H : Int, H = if p.xn = 0 then 0 else p.xl.getD (p.xn - 1) 0 := ⟨_, rfl⟩
 have HLX := Hk.mk hLX
 have HD := Hk.mk hD
 have HH := Hk.mk hH
 clear hLX hD hH
 obtain ⟨bb, f0⟩ : ∃ bb, decide ((0 : Int) ≤ LX) = bb := ⟨_, rfl⟩
 go_upto_if 20 with fail
 have HF0 := Hk.mk f0
 clear f0
 go_cut [5, 6] (fun x y wx => x = .int .i64 D ∧ y = .int .u64 H ∧ Hk (Below V.heap.size V wx))
 case first =>
  cases bb
  ·have hx : p.xn = 0 := by have h1 := of_decide_eq_false HF0.out; have h2 := HLX.out; omega
   have HX := Hk.mk hx
   clear hx
   go_wp2
   go_meet
   case rel => exact ⟨by rw [HD.out, if_pos HX.out], by rw [HH.out, if_pos HX.out], HBZ⟩
  ·have hx : ¬ p.xn = 0 := by have h1 := of_decide_eq_true HF0.out; have h2 := HLX.out; omega
   obtain ⟨bx, ox, ex, hbx, hcx⟩ := (HDP.out _ (HTR.out _ HBZ.out)).x.atu (by omega)
   obtain ⟨m, hm⟩ : ∃ m : Nat, LX = m := ⟨p.xn - 1, by rw [HLX.out]; omega⟩
   subst hm
   have hmx : m < p.xn := by have := HLX.out; omega
   have cx : z.cell? ⟨bx, ox + m, none⟩ = some (.int .u64 H) := by rw [HH.out, if_neg hx, show p.xn - 1 = m by have := HLX.out; omega]; exact hcx m hmx
   have HX := Hk.mk hx
   have HZ : Hk (Below z.heap.size z z) := ⟨Below.refl _ _⟩
   have t0 : (0 : Int) ≤ (m : Int) := by omega
   have t1 : (m : Int) < (p.xn : Int) := by omega
   rw [ex] at z9
   clear hcx hx
   go_upto_region 7 with fail
   refine wp_region_held_drew (S := (fun X => (∀ b o, b < z.heap.size → X.cell? ⟨b, o, none⟩ = z.cell? ⟨b, o, none⟩) ∧ Below z.heap.size z X)) (by kernel_rfl) ?_ (fun hHeld => ?_)
   ·exact kw_S (kw_drew HZ.out)
   have HI : Ix [0, 1, 2, 3, 4, 5, 6, 7, 8, 9] := trivial
   iterate 10 (refine tkA HI (v := ?_) rfl (by kernel_rfl) (fun _ _ _ h => h) (.inl ⟨by rfl, fun wX hSw => ?_⟩) hHeld (fun HJ => ?_); rotate_left; (focus ((try dsimp only at hSw); go_simp; try with_reducible rfl)); clear HI; have HI := HJ; clear HJ; try simp only [Act.put, jjA, jjB, jjC, jjD, jjE, jjF])
   clear HI
   refine wpAnyH_done (by kernel_rfl) ?_ _
   go_wp2
   go_meet
   case rel => exact ⟨by rw [HD.out, if_neg HX.out], rfl, ⟨HBZ.out.drew⟩⟩
 case rest =>
 clear HBZ HZC z3 z9 zl gx gt
 obtain ⟨rfl, rfl, HB⟩ := hcut
 have HRR : Hk (OwNt wc V.heap.size (.slice none 0 0) 0 []) := ⟨OwNt.nil _ _⟩
 go_wp2
 go_loopw [9, 8] (fun i v wr => ∃ (k : Nat) (T : Int) (n : Nat) (L : List Nv) (va : Option Addr) (vc : Nat), i = .int .i64 T ∧ v = .slice va n vc ∧ Hk (T = (k : Int) + 1 ∧ k ≤ N ∧ n ≤ k ∧ abN L = nsM p.ab k ∧ ∀ x, x ∈ L → SmC x.q.l) ∧ Hk (OwNt wr V.heap.size (.slice va n vc) n L) ∧ Hk (Below V.heap.size V wr)) (fun i _ _ => N + 1 - (intOf i).toNat)
 case atStart => exact ⟨0, 1, 0, [], none, 0, rfl, rfl, ⟨rfl, Nat.zero_le _, Nat.le_refl _, rfl, fun _ h => by cases h⟩, HRR, HB⟩
 case round =>
  clear HRR HB
  obtain ⟨k, T, n, L, va, vc, rfl, rfl, HL, HLR, HB⟩ := hrel
  have hk1 := HL.out.1
  have hk2 := HL.out.2.1
  have x0 : wr.cell? ⟨w.heap.size, 0, none⟩ = some (.int .i64 p.i) := (HB.out.cell (p := ⟨w.heap.size, 0, none⟩) cl).trans c0
  have x1 : wr.cell? ⟨w.heap.size, 1, none⟩ = some (.int .i64 (N : Int)) := by rw [← HNE.out]; exact (HB.out.cell (p := ⟨w.heap.size, 1, none⟩) cl).trans c1
  have xl : w.heap.size < wr.heap.size := Nat.lt_of_lt_of_le cl HB.out.size
  by_cases hlt : k < N
  ·have d1 : decide (T ≤ (N : Int)) = true := by rw [decide_eq_true_iff]; omega
   have gT : IntKind.i64.wrap (T + 1) = T + 1 := wr27 (by omega) (by have := HN8.out; omega)
   have HLT : Hk (k < N) := ⟨hlt⟩
   by_cases hid : T = p.i
   ·have d2 : (T != p.i) = false := by simp [hid]
    have HID : Hk ((k : Int) + 1 = p.ab.i) := ⟨by rw [← hk1]; exact hid⟩
    clear hid hk1 hk2 hlt
    go_wp2
    exact ⟨⟨k + 1, T + 1, n, L, va, vc, rfl, rfl, ⟨by have := HL.out.1; push_cast; omega, HLT.out, by have := HL.out.2.2.1; omega, by rw [HL.out.2.2.2.1, nsM_id HID.out], HL.out.2.2.2.2⟩, HLR, HB⟩, by have h1 := HL.out.1; have h2 := HLT.out; simp [intOf]; omega⟩
   ·have d2 : (T != p.i) = true := by simp [hid]
    have HID : Hk (¬ (k : Int) + 1 = p.ab.i) := ⟨by rw [← hk1]; exact hid⟩
    have HGT : Hk (IntKind.i64.wrap (T - 1) = (k : Int)) := ⟨by rw [wr27 (by omega) (by have := HN8.out; omega)]; omega⟩
    have HKA : Hk (k < p.an) := ⟨by have := HN8.out; omega⟩
    have HNK : Hk (n ≤ 8) := ⟨by have h1 := HL.out.2.2.1; have h2 := HN8.out; omega⟩
    obtain ⟨bh, oh, eh, hbh, hch⟩ := (HDP.out _ HWB.out).h.at_ (by have := HN8.out; omega)
    obtain ⟨hk, hhk⟩ : ∃ x : Int, x = p.hl.getD k 0 := ⟨_, rfl⟩
    have ch : V.cell? ⟨bh, oh + k, none⟩ = some (.int .i64 hk) := by rw [hhk]; exact hch k (by have := HN8.out; omega)
    have HHK := Hk.mk hhk
    have HBS := HB
    have s0 : (0 : Int) ≤ (k : Int) := by omega
    have s1 : (k : Int) < (p.hn : Int) := by have := HN8.out; omega
    have s2 : k < p.hn := by have := HN8.out; omega
    have gK := HGT.out
    rw [eh] at c7
    have HEH := Hk.mk eh
    clear eh
    clear hid hk1 hk2 hlt hch hhk
    go_upto_region 13 with fail
    clear x0 x1 xl d1 d2
    have L0V : V.heap.size ≤ V.heap.size := Nat.le_refl _
    apply reg_merge
    intro HG3
    apply reg_merge
    intro HG2
    apply reg_merge
    intro HG1
    refine wp_region_held_drew (S := fun Z => (∀ b o, b < V.heap.size → Z.cell? ⟨b, o, none⟩ = V.cell? ⟨b, o, none⟩)) (by kernel_rfl) (kw_s HBS.out.drew) (fun hHeld => ?_)
    have HB := Hk.mk HBS.out.drew
    have hb := (Below.refl wr.heap.size wr).drew
    replace HLR := Hk.mk (HLR.out.below hb)
    clear hb
    obtain ⟨WZ, hWe⟩ : ∃ WZ, wr.drew = WZ := ⟨_, rfl⟩
    rw [hWe] at HB hHeld HLR ⊢
    clear hWe
    have HI : Ix [0, 1, 2, 3, 4, 5, 7, 8, 9, 10, 11, 12, 13, 14] := trivial
    iterate 14 (refine tkA HI (v := ?_) rfl (by kernel_rfl) (fun _ _ _ h => h) (.inl ⟨by rfl, fun wX hSw => ?_⟩) hHeld (fun HJ => ?_); rotate_left; (focus ((try dsimp only at hSw); go_simp; try with_reducible rfl)); clear HI; have HI := HJ; clear HJ; try simp only [Act.put, jjA, jjB, jjC, jjD, jjE, jjF])
    clear HI
    refine wpAnyH_ready (rs := [6]) (by kernel_rfl) (by simp) ?_
    refine AllReadyH.cons rfl (fun K hK => ?_) (AllReadyH.nil)
    ·skip
     go_simp
     ((go_at_call 71; rw [← HEH.out]; (with_reducible refine (lack_any p k T _ HGT.out (HDP.out _ (HTR.out _ HB.out)) HS.out HOK.out HKA.out).mono ?_); rintro e z ⟨q, rfl, ho, hqa, hqs, hb⟩; have HQO : Hk (LkR z V.heap.size p.ab k q) := ⟨⟨ho.weak (kw_le HB.out L0V), hqa, hqs⟩⟩; clear ho hqa hqs))
     replace HLR := Hk.mk (HLR.out.below hb)
     replace HB := Hk.mk (kw_step HB.out L0V hb)
     clear hb
     refine hK.out _ _ ?_ (fun hHeld2 => ?_)
     ·exact kw_s HB.out
     clear hK K hHeld
     have hHeld := hHeld2
     clear hHeld2
     (try simp only [Act.put, jjA, jjB, jjC, jjD, jjE, jjF])
     have HI : Ix [15] := trivial
     (refine tkA HI (v := ?_) rfl (by kernel_rfl) (fun _ _ _ h => h) (.inl ⟨by rfl, fun wX hSw => ?_⟩) hHeld (fun HJ => ?_); rotate_left; (focus ((try dsimp only at hSw); go_simp; try with_reducible rfl)); clear HI; have HI := HJ; clear HJ; try simp only [Act.put, jjA, jjB, jjC, jjD, jjE, jjF])
     clear HI
     refine reg_cast (l' := #[true, true, true, true, true, true, true, true, true, true, true, true, true, true, true, true, false, false, false]) (by kernel_rfl) ?_
     revert hHeld
     revert HQO
     revert HLR
     revert HB
     revert q
     revert z
     exact HG1.out
    intro WZ q HB HLR HQO hHeld
    refine wpAnyH_ready (rs := [16]) (by kernel_rfl) (by simp) ?_
    refine AllReadyH.cons rfl (fun K hK => ?_) (AllReadyH.nil)
    ·skip
     go_simp
     have hb := kw_al (Below.refl WZ.heap.size WZ) (Nat.le_refl _) (.cells #[.int .i64 p.i, .int .i64 T, .int .i64 q.t, .int .i64 q.p, .slice q.a q.n q.c, .int .i64 D, .int .u64 H, .int .i64 hk] 43)
     replace HLR := Hk.mk (HLR.out.below hb)
     replace HQO := Hk.mk (HQO.out.below hb)
     clear hb
     have L_S := kw_le HB.out L0V
     have HP_S : Hk (Bk _ _ #[.int .i64 p.i, .int .i64 T, .int .i64 q.t, .int .i64 q.p, .slice q.a q.n q.c, .int .i64 D, .int .u64 H, .int .i64 hk]) := ⟨Bk.new WZ #[.int .i64 p.i, .int .i64 T, .int .i64 q.t, .int .i64 q.p, .slice q.a q.n q.c, .int .i64 D, .int .u64 H, .int .i64 hk] 43⟩
     replace HB := Hk.mk (kw_al HB.out L0V (.cells #[.int .i64 p.i, .int .i64 T, .int .i64 q.t, .int .i64 q.p, .slice q.a q.n q.c, .int .i64 D, .int .u64 H, .int .i64 hk] 43))
     refine hK.out _ _ ?_ (fun hHeld2 => ?_)
     ·exact kw_s HB.out
     clear hK K hHeld
     have hHeld := hHeld2
     clear hHeld2
     (try simp only [Act.put, jjA, jjB, jjC, jjD, jjE, jjF])
     generalize WZ.heap.size = S at *
     generalize WZ.alloc (.cells #[.int .i64 p.i, .int .i64 T, .int .i64 q.t, .int .i64 q.p, .slice q.a q.n q.c, .int .i64 D, .int .u64 H, .int .i64 hk] 43) = WZx at *
     refine reg_cast (l' := #[true, true, true, true, true, true, true, true, true, true, true, true, true, true, true, true, true, false, false]) (by kernel_rfl) ?_
     revert hHeld
     revert HQO
     revert HLR
     revert L_S
     revert HP_S
     revert HB
     revert q
     revert S
     revert WZx
     exact HG2.out
    intro WZ S q HB HP_S L_S HLR HQO hHeld
    refine wpAnyH_ready (rs := [17]) (by kernel_rfl) (by simp) ?_
    refine AllReadyH.cons rfl (fun K hK => ?_) (AllReadyH.nil)
    ·skip
     (refine step_append27 (by rfl) (.tmp 39) (.tmp 55) 69 (by rfl) V.heap.size 43 i0 (.agg #[.int .i64 0, .int .i64 0, .int .i64 0, .int .i64 0, .slice none 0 0, .int .i64 0, .int .u64 0, .int .i64 0]) 8 80 Tryz.underlying69 hi0 hz0 hz1 hz2 (by rfl) (by decide) (.slice va n vc) n (flt shN L) (by rfl) HLR.out.o.row ⟨S, 0, none⟩ 1 1 (({ f := p.i, t := T, q := q, d := D, h := H, v := hk } : Nv).cs) (by rfl) (by rfl) (bk_news27 HP_S.out) (shN.one _) (by have := HNK.out; unfold maxLen; omega) (by have := HNK.out; omega) (kw_le HB.out L0V) ?_; intro v2 z hown hgrow; have HL2 : Hk (OwNt z V.heap.size v2 (n + 1) (L ++ [({ f := p.i, t := T, q := q, d := D, h := H, v := hk } : Nv)])) := ⟨HLR.out.snoc HQO.out.1 hown hgrow (kw_le HB.out L0V)⟩; have HQ2 := Hk.mk HQO.out.2; replace HB := Hk.mk (HB.out.grown hgrow (kw_le HB.out L0V) (fun g hg => (HLR.out.o.lt g hg).1)); clear hown hgrow)
     refine hK.out _ _ ?_ (fun hHeld2 => ?_)
     ·exact kw_s HB.out
     clear hK K hHeld
     have hHeld := hHeld2
     clear hHeld2
     (try simp only [Act.put, jjA, jjB, jjC, jjD, jjE, jjF])
     clear HLR
     clear HQO
     clear HP_S L_S
     have HI : Ix [18] := trivial
     (refine tkA HI (v := ?_) rfl (by kernel_rfl) (fun _ _ _ h => h) (.inl ⟨by rfl, fun wX hSw => ?_⟩) hHeld (fun HJ => ?_); rotate_left; (focus ((try dsimp only at hSw); go_simp; try with_reducible rfl)); clear HI; have HI := HJ; clear HJ; try simp only [Act.put, jjA, jjB, jjC, jjD, jjE, jjF])
     clear HI
     refine reg_cast (l' := #[true, true, true, true, true, true, true, true, true, true, true, true, true, true, true, true, true, true, true]) (by kernel_rfl) ?_
     revert hHeld
     revert HQ2
     revert HL2
     revert HB
     revert v2
     revert q
     revert S
     revert z
     exact HG3.out
    intro WZ S q v2 HB HL2 HQ2 hHeld
    refine wpAnyH_done (by kernel_rfl) ?_ _
    obtain ⟨a9, c9, rfl, -⟩ := HL2.out.o.form
    go_wp2
    have HAB : Hk (abN (L ++ [({ f := p.i, t := T, q := q, d := D, h := H, v := hk } : Nv)]) = nsM p.ab (k + 1)) := ⟨by
     rw [abN_app, HL.out.2.2.2.1, nsM_ot HID.out]
     congr 1
     show [(⟨p.i, T, q.ab, D, H, hk⟩ : Nm)] = [noteM p.ab k]
     have e1 : p.ab.x.length = p.xn := HXB.out.2
     unfold noteM
     rw [HQ2.out.1, HL.out.1, HD.out, HH.out, HHK.out, e1]
     rfl⟩
    exact ⟨⟨k + 1, T + 1, n + 1, L ++ [({ f := p.i, t := T, q := q, d := D, h := H, v := hk } : Nv)], a9, c9, rfl, rfl, ⟨by have := HL.out.1; push_cast; omega, HLT.out, by have := HL.out.2.2.1; omega, HAB.out, fun x hx => by
     rcases List.mem_append.1 hx with hx | hx
     ·exact HL.out.2.2.2.2 x hx
     ·obtain rfl := List.mem_singleton.1 hx
      exact HQ2.out.2⟩, HL2, HB⟩, by have h1 := HL.out.1; have h2 := HLT.out; simp [intOf]; omega⟩
  ·obtain rfl : k = N := by omega
   have d1 : decide (T ≤ (k : Int)) = false := by rw [decide_eq_false_iff_not]; omega
   clear hk1 hk2 hlt
   go_wp2
   go_ret2
   exact ⟨va, n, vc, L, rfl, HLR.out.weak HWB.out.size, by rw [HL.out.2.2.2.1, HNE.out]; rfl, by have h1 := HL.out.2.2.1; have h2 := HN8.out; omega, HL.out.2.2.2.2, HTR.out _ HB.out⟩
end Go.Proofs.YtdpblimhfmfbnaaGreat
