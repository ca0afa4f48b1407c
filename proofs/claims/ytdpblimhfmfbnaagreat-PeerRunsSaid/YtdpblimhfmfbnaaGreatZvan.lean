import Derived.Deep.QuietTactic
import Derived.BigQuiet
import Derived.Deep.RegionWith
import Derived.Deep.RegionHeld3
import Derived.Deep.DeepCutAuto
import Derived.Deep.DeepFit
import Derived.Outline
import Derived.Test.YtdpblimhfmfbnaaGreatZvam
import Derived.Maps.AppendAt
import Derived.Test.YtdpblimhfmfbnaaGreatZval
import Derived.Test.YtdpblimhfmfbnaaGreatZvak
set_option linter.unusedVariables false
set_option linter.unusedSimpArgs false
namespace Go.Proofs.YtdpblimhfmfbnaaGreat
open Go.ChangeShapes Go.WideShapes Go.ChangeAt Go.RowKit Go.Deep
theorem heap_set {w : World} {P : Nat} {cs : Array Value} {T : TypeId} {fr : Nat × Nat} (h : w.heap[P]? = some (.cells cs T fr)) (i : Nat) (v : Value) : (w.setCell ⟨P, i, none⟩ v).heap[P]? = some (.cells (cs.setIfInBounds i v) T fr) := by
 have hlt := lt_of_block h
 have h' : w.heap[P] = .cells cs T fr := by simpa [Array.getElem?_eq_getElem hlt] using h
 show (w.heap.modify P _)[P]? = _
 rw [Array.getElem?_eq_getElem (by simpa using hlt), Array.getElem_modify_self, h']
 rfl
structure Bx (w : World) (P : Nat) (p : Pv) : Prop where
 bl : w.heap[P]? = some (.cells #[.int .i64 p.i, .int .i64 p.n, .int .i64 p.d, .int .i64 p.t, .int .i64 p.s, .slice p.ma p.mn p.mc, .slice p.la p.ln p.lc, .slice p.ha p.hn p.hc, .slice p.aa p.an p.ac, .slice p.xa p.xn p.xc, .bool p.b] 26 (0, 0))
theorem Bx.new (w : World) (p : Pv) : Bx (w.alloc (.cells #[.int .i64 p.i, .int .i64 p.n, .int .i64 p.d, .int .i64 p.t, .int .i64 p.s, .slice p.ma p.mn p.mc, .slice p.la p.ln p.lc, .slice p.ha p.hn p.hc, .slice p.aa p.an p.ac, .slice p.xa p.xn p.xc, .bool p.b] 26)) w.heap.size p := ⟨heap_alloc_new w _⟩
theorem Bx.bk {w : World} {P : Nat} {p : Pv} (h : Bx w P p) : Bk w P #[.int .i64 p.i, .int .i64 p.n, .int .i64 p.d, .int .i64 p.t, .int .i64 p.s, .slice p.ma p.mn p.mc, .slice p.la p.ln p.lc, .slice p.ha p.hn p.hc, .slice p.aa p.an p.ac, .slice p.xa p.xn p.xc, .bool p.b] := ⟨_, h.bl⟩
theorem Bx.lt {w : World} {P : Nat} {p : Pv} (h : Bx w P p) : P < w.heap.size := h.bk.lt
theorem Bx.below {w z : World} {P : Nat} {p : Pv} (h : Bx w P p) (hb : Below w.heap.size w z) : Bx z P p := ⟨by rw [hb.block P h.lt]; exact h.bl⟩
theorem Bx.al {w : World} {P : Nat} {p : Pv} (h : Bx w P p) (o : Obj) : Bx (w.alloc o) P p := h.below (below_al w o)
theorem Bx.kt {T0 : TypeId} {B : Nat} {w z : World} {P : Nat} {p : Pv} (h : Bx w P p) (k : Kt T0 B w z) (ne : 26 ≠ T0) : Bx z P p := ⟨k.ty _ _ _ _ h.bl ne⟩
theorem Bx.oth {w : World} {P Q : Nat} {p : Pv} (h : Bx w P p) (hn : ¬ P = Q) (i : Nat) (v : Value) : Bx (w.setCell ⟨Q, i, none⟩ v) P p := ⟨by rw [Below.heap_setCell _ _ _ _ (by simpa using hn)]; exact h.bl⟩
theorem Bx.fr {M : Nat → Prop} {w z : World} {P : Nat} {p : Pv} (h : Bx w P p) (k : Fr M w z) (hm : ¬ M P) : Bx z P p := ⟨by rw [k.block P h.lt hm]; exact h.bl⟩
theorem Bx.set {w : World} {P : Nat} {p : Pv} (h : Bx w P p) (i : Nat) (v : Value) (q : Pv) (e : (#[.int .i64 p.i, .int .i64 p.n, .int .i64 p.d, .int .i64 p.t, .int .i64 p.s, .slice p.ma p.mn p.mc, .slice p.la p.ln p.lc, .slice p.ha p.hn p.hc, .slice p.aa p.an p.ac, .slice p.xa p.xn p.xc, .bool p.b] : Array Value).setIfInBounds i v = #[.int .i64 q.i, .int .i64 q.n, .int .i64 q.d, .int .i64 q.t, .int .i64 q.s, .slice q.ma q.mn q.mc, .slice q.la q.ln q.lc, .slice q.ha q.hn q.hc, .slice q.aa q.an q.ac, .slice q.xa q.xn q.xc, .bool q.b]) : Bx (w.setCell ⟨P, i, none⟩ v) P q := ⟨by rw [heap_set h.bl, e]⟩
theorem Bx.put {w : World} {P : Nat} {p : Pv} (h : Bx w P p) (q : Pv) : Bx ((((((((((((World.setCell w ⟨P, 0, none⟩ (.int .i64 q.i)).setCell ⟨P, 1, none⟩ (.int .i64 q.n)).setCell ⟨P, 2, none⟩ (.int .i64 q.d)).setCell ⟨P, 3, none⟩ (.int .i64 q.t)).setCell ⟨P, 4, none⟩ (.int .i64 q.s)).setCell ⟨P, 5, none⟩ (.slice q.ma q.mn q.mc)).setCell ⟨P, 6, none⟩ (.slice q.la q.ln q.lc)).setCell ⟨P, 7, none⟩ (.slice q.ha q.hn q.hc)).setCell ⟨P, 8, none⟩ (.slice q.aa q.an q.ac)).setCell ⟨P, 9, none⟩ (.slice q.xa q.xn q.xc)).setCell ⟨P, 10, none⟩ (.bool q.b))) P q := by
 have h0 := h.set 0 (.int .i64 q.i) ({ p with i := q.i }) rfl
 have h1 := h0.set 1 (.int .i64 q.n) ({ p with i := q.i, n := q.n }) rfl
 have h2 := h1.set 2 (.int .i64 q.d) ({ p with i := q.i, n := q.n, d := q.d }) rfl
 have h3 := h2.set 3 (.int .i64 q.t) ({ p with i := q.i, n := q.n, d := q.d, t := q.t }) rfl
 have h4 := h3.set 4 (.int .i64 q.s) ({ p with i := q.i, n := q.n, d := q.d, t := q.t, s := q.s }) rfl
 have h5 := h4.set 5 (.slice q.ma q.mn q.mc) ({ p with i := q.i, n := q.n, d := q.d, t := q.t, s := q.s, ma := q.ma, mn := q.mn, mc := q.mc, ml := q.ml }) rfl
 have h6 := h5.set 6 (.slice q.la q.ln q.lc) ({ p with i := q.i, n := q.n, d := q.d, t := q.t, s := q.s, ma := q.ma, mn := q.mn, mc := q.mc, ml := q.ml, la := q.la, ln := q.ln, lc := q.lc, ll := q.ll }) rfl
 have h7 := h6.set 7 (.slice q.ha q.hn q.hc) ({ p with i := q.i, n := q.n, d := q.d, t := q.t, s := q.s, ma := q.ma, mn := q.mn, mc := q.mc, ml := q.ml, la := q.la, ln := q.ln, lc := q.lc, ll := q.ll, ha := q.ha, hn := q.hn, hc := q.hc, hl := q.hl }) rfl
 have h8 := h7.set 8 (.slice q.aa q.an q.ac) ({ p with i := q.i, n := q.n, d := q.d, t := q.t, s := q.s, ma := q.ma, mn := q.mn, mc := q.mc, ml := q.ml, la := q.la, ln := q.ln, lc := q.lc, ll := q.ll, ha := q.ha, hn := q.hn, hc := q.hc, hl := q.hl, aa := q.aa, an := q.an, ac := q.ac, al := q.al }) rfl
 have h9 := h8.set 9 (.slice q.xa q.xn q.xc) ({ p with i := q.i, n := q.n, d := q.d, t := q.t, s := q.s, ma := q.ma, mn := q.mn, mc := q.mc, ml := q.ml, la := q.la, ln := q.ln, lc := q.lc, ll := q.ll, ha := q.ha, hn := q.hn, hc := q.hc, hl := q.hl, aa := q.aa, an := q.an, ac := q.ac, al := q.al, xa := q.xa, xn := q.xn, xc := q.xc, xl := q.xl }) rfl
 exact h9.set 10 (.bool q.b) q rfl
theorem fr_put {w : World} {P : Nat} (q : Pv) : Fr (fun j => j = P) w ((((((((((((World.setCell w ⟨P, 0, none⟩ (.int .i64 q.i)).setCell ⟨P, 1, none⟩ (.int .i64 q.n)).setCell ⟨P, 2, none⟩ (.int .i64 q.d)).setCell ⟨P, 3, none⟩ (.int .i64 q.t)).setCell ⟨P, 4, none⟩ (.int .i64 q.s)).setCell ⟨P, 5, none⟩ (.slice q.ma q.mn q.mc)).setCell ⟨P, 6, none⟩ (.slice q.la q.ln q.lc)).setCell ⟨P, 7, none⟩ (.slice q.ha q.hn q.hc)).setCell ⟨P, 8, none⟩ (.slice q.aa q.an q.ac)).setCell ⟨P, 9, none⟩ (.slice q.xa q.xn q.xc)).setCell ⟨P, 10, none⟩ (.bool q.b))) := by
 refine Fr.setCell (M := fun j => j = P) (p := ⟨P, 10, none⟩) ?_ (fun _ => rfl) _; refine Fr.setCell (M := fun j => j = P) (p := ⟨P, 9, none⟩) ?_ (fun _ => rfl) _; refine Fr.setCell (M := fun j => j = P) (p := ⟨P, 8, none⟩) ?_ (fun _ => rfl) _; refine Fr.setCell (M := fun j => j = P) (p := ⟨P, 7, none⟩) ?_ (fun _ => rfl) _; refine Fr.setCell (M := fun j => j = P) (p := ⟨P, 6, none⟩) ?_ (fun _ => rfl) _; refine Fr.setCell (M := fun j => j = P) (p := ⟨P, 5, none⟩) ?_ (fun _ => rfl) _; refine Fr.setCell (M := fun j => j = P) (p := ⟨P, 4, none⟩) ?_ (fun _ => rfl) _; refine Fr.setCell (M := fun j => j = P) (p := ⟨P, 3, none⟩) ?_ (fun _ => rfl) _; refine Fr.setCell (M := fun j => j = P) (p := ⟨P, 2, none⟩) ?_ (fun _ => rfl) _; refine Fr.setCell (M := fun j => j = P) (p := ⟨P, 1, none⟩) ?_ (fun _ => rfl) _; refine Fr.setCell (M := fun j => j = P) (p := ⟨P, 0, none⟩) ?_ (fun _ => rfl) _; exact Fr.refl _ _
theorem Kt.put {w : World} {P B : Nat} {p : Pv} (h : Bx w P p) (hB : B ≤ P) (q : Pv) : Kt 26 B w ((((((((((((World.setCell w ⟨P, 0, none⟩ (.int .i64 q.i)).setCell ⟨P, 1, none⟩ (.int .i64 q.n)).setCell ⟨P, 2, none⟩ (.int .i64 q.d)).setCell ⟨P, 3, none⟩ (.int .i64 q.t)).setCell ⟨P, 4, none⟩ (.int .i64 q.s)).setCell ⟨P, 5, none⟩ (.slice q.ma q.mn q.mc)).setCell ⟨P, 6, none⟩ (.slice q.la q.ln q.lc)).setCell ⟨P, 7, none⟩ (.slice q.ha q.hn q.hc)).setCell ⟨P, 8, none⟩ (.slice q.aa q.an q.ac)).setCell ⟨P, 9, none⟩ (.slice q.xa q.xn q.xc)).setCell ⟨P, 10, none⟩ (.bool q.b))) :=
 Kt.of_fr (M := fun j => j = P) (Nat.le_trans hB (Nat.le_of_lt h.lt)) (fr_put q) (fun j _ e => by omega) (fun j cur T fr e hj => by
  subst hj
  rw [h.bl] at e
  injection e with e
  injection e with _ e
  exact e.symm)
theorem Qv.cut1 {w : World} {B g n : Nat} {l : List Int} (h : Qv shU w B (some ⟨g, 0, none⟩) (n + 1) l) : Qv shU w B (some ⟨g, 1, none⟩) n (l.drop 1) := ⟨by rw [List.length_drop, h.len]; omega, fun hn => by
 obtain ⟨b, off, e, hb, hc⟩ := h.rd (by omega)
 injection e with e
 injection e with e1 e2
 subst e1 e2
 refine ⟨g, 1, rfl, hb, fun k hk j hj => ?_⟩
 have hk' : 1 + k < l.length := by rw [List.length_drop] at hk; omega
 have := hc (1 + k) hk' j hj
 rw [show 0 + (1 + k) * shU.z + j = 1 + k * shU.z + j by show 0 + (1 + k) * 1 + j = 1 + k * 1 + j; omega] at this
 rw [this]
 simp [Nat.add_comm]⟩
theorem Kt.frow {α : Type} {S : Sh α} {T : TypeId} {B g n c : Nat} {w z : World} {l : List α} (h : Ow S T w B (.slice (some ⟨g, 0, none⟩) n c) n l) (k : Fr (fun j => j = g) w z) : Kt T B w z := by
 obtain ⟨cur, fr, e⟩ := h.typ (j := g) rfl
 exact Kt.of_fr (Nat.le_trans (h.lt g rfl).1 (Nat.le_of_lt (h.lt g rfl).2)) k (fun j _ e => by have := (h.lt g rfl).1; omega) (fun j cur' T' fr' e' hj => by
  subst hj
  rw [e] at e'
  injection e' with e'
  injection e' with _ e'
  exact e'.symm)
theorem row_slice {w : World} {B s n : Nat} {T : TypeId} {v : Value} {xs : List Value} (h : w.ownsRow B T s v n xs) (hn : 0 < n) : ∃ g c, v = .slice (some ⟨g, 0, none⟩) n c ∧ n ≤ c ∧ B ≤ g ∧ g < w.heap.size := by
 rcases h.2 with ⟨_, e⟩ | ⟨g, cap, cur, e, hb, hh, hc, _⟩
 ·omega
 ·exact ⟨g, cap, e, hc, hb, cells_lt hh⟩
end Go.Proofs.YtdpblimhfmfbnaaGreat
namespace Go.Proofs.YtdpblimhfmfbnaaGreat
open Go.ChangeShapes Go.WideShapes Go.ChangeAt Go.RowKit Go.Deep
def nilV : Pv := ⟨0, 0, 0, 0, 0, none, 0, 0, [], none, 0, 0, [], none, 0, 0, [], none, 0, 0, [], none, 0, 0, [], false⟩
theorem oneU_it (x : Int) : ∀ u ∈ ([.int .u64 x] : List Value), u.oneCell' = true := fun u hu => by simp at hu; subst hu; rfl
theorem run_ab {p u q : Pv} {k : Int} {L : List In} {X : List Int} (hab : u.ab = p.ab) (e : q.ab = { u.ab with t := u.t + 1, l := L, x := X }) (hL : L = (abI p.ll).filter (fun x => !(x.t == p.t))) (hX : X = if 16 < p.ab.x.length + 1 then (p.ab.x ++ [k]).drop 1 else p.ab.x ++ [k]) : q.ab = runM p.ab k := by
 have ht : u.t = p.t := ((ab_iff u p).1 hab).2.2.2.1
 unfold runM
 rw [e, hab, hL, hX, ht]
 rfl
set_option maxRecDepth 100000 in
set_option maxHeartbeats 3200000 in
theorem rran_no (p : Pv) (k : Int) (w : World) (h : PvD w w.heap.size p) (hs : PvS p) (h0 : 0 < p.hn) (E : ¬ (p.t < 1099511627776 ∧ p.t ≤ minL p.hl)) :
  Calls Tryz.prog 49 #[.agg #[.int .i64 p.i, .int .i64 p.n, .int .i64 p.d, .int .i64 p.t, .int .i64 p.s, .slice p.ma p.mn p.mc, .slice p.la p.ln p.lc, .slice p.ha p.hn p.hc, .slice p.aa p.an p.ac, .slice p.xa p.xn p.xc, .bool p.b], .int .u64 k] w fun e z => e = .returned (.tuple #[.agg #[.int .i64 p.i, .int .i64 p.n, .int .i64 p.d, .int .i64 p.t, .int .i64 p.s, .slice p.ma p.mn p.mc, .slice p.la p.ln p.lc, .slice p.ha p.hn p.hc, .slice p.aa p.an p.ac, .slice p.xa p.xn p.xc, .bool p.b], .bool false]) ∧ Below w.heap.size w z := by
 have HBW : Hk (Below w.heap.size w ((w.alloc (.cells #[.int .i64 p.i, .int .i64 p.n, .int .i64 p.d, .int .i64 p.t, .int .i64 p.s, .slice p.ma p.mn p.mc, .slice p.la p.ln p.lc, .slice p.ha p.hn p.hc, .slice p.aa p.an p.ac, .slice p.xa p.xn p.xc, .bool p.b] 26)).alloc (.cells #[.int .i64 0, .int .i64 0, .int .i64 0, .int .i64 0, .int .i64 0, .slice none 0 0, .slice none 0 0, .slice none 0 0, .slice none 0 0, .slice none 0 0, .bool false] 26))) := ⟨((Below.refl _ _).alloc (Nat.le_refl _) _).alloc (by simp) _⟩
 have HPB : Hk (Bx ((w.alloc (.cells #[.int .i64 p.i, .int .i64 p.n, .int .i64 p.d, .int .i64 p.t, .int .i64 p.s, .slice p.ma p.mn p.mc, .slice p.la p.ln p.lc, .slice p.ha p.hn p.hc, .slice p.aa p.an p.ac, .slice p.xa p.xn p.xc, .bool p.b] 26)).alloc (.cells #[.int .i64 0, .int .i64 0, .int .i64 0, .int .i64 0, .int .i64 0, .slice none 0 0, .slice none 0 0, .slice none 0 0, .slice none 0 0, .slice none 0 0, .bool false] 26)) w.heap.size p) := ⟨(Bx.new w p).al _⟩
 have e1 : (w.alloc (.cells #[.int .i64 p.i, .int .i64 p.n, .int .i64 p.d, .int .i64 p.t, .int .i64 p.s, .slice p.ma p.mn p.mc, .slice p.la p.ln p.lc, .slice p.ha p.hn p.hc, .slice p.aa p.an p.ac, .slice p.xa p.xn p.xc, .bool p.b] 26)).heap.size = w.heap.size + 1 := by simp
 have HRB : Hk (Bx ((w.alloc (.cells #[.int .i64 p.i, .int .i64 p.n, .int .i64 p.d, .int .i64 p.t, .int .i64 p.s, .slice p.ma p.mn p.mc, .slice p.la p.ln p.lc, .slice p.ha p.hn p.hc, .slice p.aa p.an p.ac, .slice p.xa p.xn p.xc, .bool p.b] 26)).alloc (.cells #[.int .i64 0, .int .i64 0, .int .i64 0, .int .i64 0, .int .i64 0, .slice none 0 0, .slice none 0 0, .slice none 0 0, .slice none 0 0, .slice none 0 0, .bool false] 26)) (w.heap.size + 1) nilV) := ⟨by rw [← e1]; exact Bx.new (w.alloc (.cells #[.int .i64 p.i, .int .i64 p.n, .int .i64 p.d, .int .i64 p.t, .int .i64 p.s, .slice p.ma p.mn p.mc, .slice p.la p.ln p.lc, .slice p.ha p.hn p.hc, .slice p.aa p.an p.ac, .slice p.xa p.xn p.xc, .bool p.b] 26)) nilV⟩
 have HDP : Hk (∀ X, Below w.heap.size w X → PvD X X.heap.size p) := ⟨fun X hX => h.later hX⟩
 have HS := Hk.mk hs
 have HN0 := Hk.mk h0
 have HNP := Hk.mk E
 clear e1 h hs h0 E
 go_enter Tryz.func49, Tryz.ntmps49
 go_upto_region 1 with fail
 generalize ((w.alloc (.cells #[.int .i64 p.i, .int .i64 p.n, .int .i64 p.d, .int .i64 p.t, .int .i64 p.s, .slice p.ma p.mn p.mc, .slice p.la p.ln p.lc, .slice p.ha p.hn p.hc, .slice p.aa p.an p.ac, .slice p.xa p.xn p.xc, .bool p.b] 26)).alloc (.cells #[.int .i64 0, .int .i64 0, .int .i64 0, .int .i64 0, .int .i64 0, .slice none 0 0, .slice none 0 0, .slice none 0 0, .slice none 0 0, .slice none 0 0, .bool false] 26)) = V at *
 have y0 := HPB.out.bk.c 0; have y1 := HPB.out.bk.c 1; have y2 := HPB.out.bk.c 2; have y3 := HPB.out.bk.c 3; have y4 := HPB.out.bk.c 4; have y5 := HPB.out.bk.c 5; have y6 := HPB.out.bk.c 6; have y7 := HPB.out.bk.c 7; have y8 := HPB.out.bk.c 8; have y9 := HPB.out.bk.c 9; have y10 := HPB.out.bk.c 10; have yl := HPB.out.lt; simp at y0 y1 y2 y3 y4 y5 y6 y7 y8 y9 y10
 go_upto_region 3 with (go_at_call 46; (with_reducible refine (rready_no p _ (HDP.out _ HBW.out) HS.out HN0.out HNP.out).mono ?_); rintro e z ⟨rfl, hb⟩; have HP2 := Hk.mk (HPB.out.below hb); have HR2 := Hk.mk (HRB.out.below hb); have HB2 := Hk.mk (HBW.out.trans (hb.mono HBW.out.size)); clear hb)
 clear y0 y1 y2 y3 y4 y5 y6 y7 y8 y9 y10 yl
 have y0 := HP2.out.bk.c 0; have y1 := HP2.out.bk.c 1; have y2 := HP2.out.bk.c 2; have y3 := HP2.out.bk.c 3; have y4 := HP2.out.bk.c 4; have y5 := HP2.out.bk.c 5; have y6 := HP2.out.bk.c 6; have y7 := HP2.out.bk.c 7; have y8 := HP2.out.bk.c 8; have y9 := HP2.out.bk.c 9; have y10 := HP2.out.bk.c 10; have yl := HP2.out.lt; simp at y0 y1 y2 y3 y4 y5 y6 y7 y8 y9 y10
 have r0 := HR2.out.bk.c 0; have f0 := HR2.out.bk.f 0; have r1 := HR2.out.bk.c 1; have f1 := HR2.out.bk.f 1; have r2 := HR2.out.bk.c 2; have f2 := HR2.out.bk.f 2; have r3 := HR2.out.bk.c 3; have f3 := HR2.out.bk.f 3; have r4 := HR2.out.bk.c 4; have f4 := HR2.out.bk.f 4; have r5 := HR2.out.bk.c 5; have f5 := HR2.out.bk.f 5; have r6 := HR2.out.bk.c 6; have f6 := HR2.out.bk.f 6; have r7 := HR2.out.bk.c 7; have f7 := HR2.out.bk.f 7; have r8 := HR2.out.bk.c 8; have f8 := HR2.out.bk.f 8; have r9 := HR2.out.bk.c 9; have f9 := HR2.out.bk.f 9; have r10 := HR2.out.bk.c 10; have f10 := HR2.out.bk.f 10; have rl := HR2.out.lt; simp at r0 r1 r2 r3 r4 r5 r6 r7 r8 r9 r10
 have HFB := Hk.mk ((Kt.put (B := w.heap.size) HR2.out (by omega) p).bl)
 go_wp2
 refine bodyPost_ret (v := .tuple #[.agg #[.int .i64 p.i, .int .i64 p.n, .int .i64 p.d, .int .i64 p.t, .int .i64 p.s, .slice p.ma p.mn p.mc, .slice p.la p.ln p.lc, .slice p.ha p.hn p.hc, .slice p.aa p.an p.ac, .slice p.xa p.xn p.xc, .bool p.b], .bool false]) (by simp [results, Tryz.results49, go_sem, r0, r1, r2, r3, r4, r5, r6, r7, r8, r9, r10, f0, f1, f2, f3, f4, f5, f6, f7, f8, f9, f10]) rfl ⟨rfl, HB2.out.trans HFB.out⟩
def Trim (q0 q : Pv) : Prop := q = q0 ∨ ∃ g c, q0.xa = some ⟨g, 0, none⟩ ∧ 0 < q0.xn ∧ q = { q0 with xa := some ⟨g, 1, none⟩, xn := q0.xn - 1, xc := c, xl := q0.xl.drop 1 }
theorem PvO.trim {w : World} {B : Nat} {q0 q : Pv} (h : PvO w B q0) (t : Trim q0 q) : PvD w w.heap.size q := by
 rcases t with rfl | ⟨g, c, e, hn, rfl⟩
 ·exact h.d
 ·have hd := h.d.x
  rw [e, show q0.xn = q0.xn - 1 + 1 by omega] at hd
  exact ⟨h.d.m, h.d.l, h.d.h, h.d.a, by exact hd.cut1⟩
def RnD (w : World) (p : Pv) (k : Int) (e : Ending) (z : World) : Prop := ∃ q : Pv, e = .returned (.tuple #[.agg #[.int .i64 q.i, .int .i64 q.n, .int .i64 q.d, .int .i64 q.t, .int .i64 q.s, .slice q.ma q.mn q.mc, .slice q.la q.ln q.lc, .slice q.ha q.hn q.hc, .slice q.aa q.an q.ac, .slice q.xa q.xn q.xc, .bool q.b], .bool true]) ∧ (∃ q0, PvO z w.heap.size q0 ∧ Trim q0 q) ∧ q.ab = runM p.ab k ∧ PvS q ∧ Below w.heap.size w z
set_option maxRecDepth 100000 in
set_option maxHeartbeats 3200000 in
theorem rran_yes (p : Pv) (k : Int) (w : World) (h : PvD w w.heap.size p) (hs : PvS p) (hk : OkP p.ab) (h0 : 0 < p.hn) (E : p.t < 1099511627776 ∧ p.t ≤ minL p.hl) :
  Calls Tryz.prog 49 #[.agg #[.int .i64 p.i, .int .i64 p.n, .int .i64 p.d, .int .i64 p.t, .int .i64 p.s, .slice p.ma p.mn p.mc, .slice p.la p.ln p.lc, .slice p.ha p.hn p.hc, .slice p.aa p.an p.ac, .slice p.xa p.xn p.xc, .bool p.b], .int .u64 k] w (RnD w p k) := by
 obtain ⟨ii, hii, hiz0, hiz1, hiz2⟩ := info_parts info_u
 have HX16 : Hk (p.xn ≤ 16) := ⟨by have h1 := hk.x1; have h2 := h.x.len; have h3 : p.ab.x.length = p.xl.length := rfl; omega⟩
 have HT0 : Hk (0 ≤ p.t) := ⟨hk.c.t1⟩
 clear hk
 have HBW : Hk (Below w.heap.size w ((w.alloc (.cells #[.int .i64 p.i, .int .i64 p.n, .int .i64 p.d, .int .i64 p.t, .int .i64 p.s, .slice p.ma p.mn p.mc, .slice p.la p.ln p.lc, .slice p.ha p.hn p.hc, .slice p.aa p.an p.ac, .slice p.xa p.xn p.xc, .bool p.b] 26)).alloc (.cells #[.int .i64 0, .int .i64 0, .int .i64 0, .int .i64 0, .int .i64 0, .slice none 0 0, .slice none 0 0, .slice none 0 0, .slice none 0 0, .slice none 0 0, .bool false] 26))) := ⟨((Below.refl _ _).alloc (Nat.le_refl _) _).alloc (by simp) _⟩
 have HPB : Hk (Bx ((w.alloc (.cells #[.int .i64 p.i, .int .i64 p.n, .int .i64 p.d, .int .i64 p.t, .int .i64 p.s, .slice p.ma p.mn p.mc, .slice p.la p.ln p.lc, .slice p.ha p.hn p.hc, .slice p.aa p.an p.ac, .slice p.xa p.xn p.xc, .bool p.b] 26)).alloc (.cells #[.int .i64 0, .int .i64 0, .int .i64 0, .int .i64 0, .int .i64 0, .slice none 0 0, .slice none 0 0, .slice none 0 0, .slice none 0 0, .slice none 0 0, .bool false] 26)) w.heap.size p) := ⟨(Bx.new w p).al _⟩
 have e1 : (w.alloc (.cells #[.int .i64 p.i, .int .i64 p.n, .int .i64 p.d, .int .i64 p.t, .int .i64 p.s, .slice p.ma p.mn p.mc, .slice p.la p.ln p.lc, .slice p.ha p.hn p.hc, .slice p.aa p.an p.ac, .slice p.xa p.xn p.xc, .bool p.b] 26)).heap.size = w.heap.size + 1 := by simp
 have HRB : Hk (Bx ((w.alloc (.cells #[.int .i64 p.i, .int .i64 p.n, .int .i64 p.d, .int .i64 p.t, .int .i64 p.s, .slice p.ma p.mn p.mc, .slice p.la p.ln p.lc, .slice p.ha p.hn p.hc, .slice p.aa p.an p.ac, .slice p.xa p.xn p.xc, .bool p.b] 26)).alloc (.cells #[.int .i64 0, .int .i64 0, .int .i64 0, .int .i64 0, .int .i64 0, .slice none 0 0, .slice none 0 0, .slice none 0 0, .slice none 0 0, .slice none 0 0, .bool false] 26)) (w.heap.size + 1) nilV) := ⟨by rw [← e1]; exact Bx.new (w.alloc (.cells #[.int .i64 p.i, .int .i64 p.n, .int .i64 p.d, .int .i64 p.t, .int .i64 p.s, .slice p.ma p.mn p.mc, .slice p.la p.ln p.lc, .slice p.ha p.hn p.hc, .slice p.aa p.an p.ac, .slice p.xa p.xn p.xc, .bool p.b] 26)) nilV⟩
 have HDP : Hk (∀ X, Below w.heap.size w X → PvD X X.heap.size p) := ⟨fun X hX => h.later hX⟩
 have HS := Hk.mk hs
 have HN0 := Hk.mk h0
 have HNP := Hk.mk E
 clear e1 h hs h0 E
 go_enter Tryz.func49, Tryz.ntmps49
 go_upto_region 1 with fail
 generalize ((w.alloc (.cells #[.int .i64 p.i, .int .i64 p.n, .int .i64 p.d, .int .i64 p.t, .int .i64 p.s, .slice p.ma p.mn p.mc, .slice p.la p.ln p.lc, .slice p.ha p.hn p.hc, .slice p.aa p.an p.ac, .slice p.xa p.xn p.xc, .bool p.b] 26)).alloc (.cells #[.int .i64 0, .int .i64 0, .int .i64 0, .int .i64 0, .int .i64 0, .slice none 0 0, .slice none 0 0, .slice none 0 0, .slice none 0 0, .slice none 0 0, .bool false] 26)) = V at *
 have y0 := HPB.out.bk.c 0; have y1 := HPB.out.bk.c 1; have y2 := HPB.out.bk.c 2; have y3 := HPB.out.bk.c 3; have y4 := HPB.out.bk.c 4; have y5 := HPB.out.bk.c 5; have y6 := HPB.out.bk.c 6; have y7 := HPB.out.bk.c 7; have y8 := HPB.out.bk.c 8; have y9 := HPB.out.bk.c 9; have y10 := HPB.out.bk.c 10; have yl := HPB.out.lt; simp at y0 y1 y2 y3 y4 y5 y6 y7 y8 y9 y10
 go_upto_region 4 with (go_at_call 46; (with_reducible refine (rready_yes p _ (HDP.out _ HBW.out) HS.out HN0.out HNP.out).mono ?_); rintro e z ⟨_, _, _, _, rfl, _, _, hb⟩; have HP2 := Hk.mk (HPB.out.below hb); have HR2 := Hk.mk (HRB.out.below hb); have HB2 := Hk.mk (HBW.out.trans (hb.mono HBW.out.size)); clear hb; clear y0 y1 y2 y3 y4 y5 y6 y7 y8 y9 y10 yl; have y0 := HP2.out.bk.c 0; have y1 := HP2.out.bk.c 1; have y2 := HP2.out.bk.c 2; have y3 := HP2.out.bk.c 3; have y4 := HP2.out.bk.c 4; have y5 := HP2.out.bk.c 5; have y6 := HP2.out.bk.c 6; have y7 := HP2.out.bk.c 7; have y8 := HP2.out.bk.c 8; have y9 := HP2.out.bk.c 9; have y10 := HP2.out.bk.c 10; have yl := HP2.out.lt; simp at y0 y1 y2 y3 y4 y5 y6 y7 y8 y9 y10)
 go_upto_region 5 with (go_at_call 11; (with_reducible refine (copyp_any p _ (HDP.out _ HB2.out) HS.out).mono ?_); rintro e z3 ⟨u, rfl, ho, hab, g1, g2, g3, g4, g5, hb⟩; have HO := Hk.mk ho; have HAU := Hk.mk hab; have HSU := Hk.mk (HS.out.like (HDP.out _ HB2.out) ho.d hab g1 g2 g3 g4 g5); have HB3 := Hk.mk hb; have HXN : Hk (u.xn = p.xn) := ⟨g5⟩; clear ho hab g1 g2 g3 g4 g5 hb)
 have HO3 : Hk (PvO (z3.alloc (.cells #[.int .i64 u.i, .int .i64 u.n, .int .i64 u.d, .int .i64 u.t, .int .i64 u.s, .slice u.ma u.mn u.mc, .slice u.la u.ln u.lc, .slice u.ha u.hn u.hc, .slice u.aa u.an u.ac, .slice u.xa u.xn u.xc, .bool u.b] 26)) z.heap.size u) := ⟨HO.out.below (below_al _ _)⟩
 have HQ3 : Hk (Bx (z3.alloc (.cells #[.int .i64 u.i, .int .i64 u.n, .int .i64 u.d, .int .i64 u.t, .int .i64 u.s, .slice u.ma u.mn u.mc, .slice u.la u.ln u.lc, .slice u.ha u.hn u.hc, .slice u.aa u.an u.ac, .slice u.xa u.xn u.xc, .bool u.b] 26)) z3.heap.size u) := ⟨Bx.new z3 u⟩
 have HP3 : Hk (Bx (z3.alloc (.cells #[.int .i64 u.i, .int .i64 u.n, .int .i64 u.d, .int .i64 u.t, .int .i64 u.s, .slice u.ma u.mn u.mc, .slice u.la u.ln u.lc, .slice u.ha u.hn u.hc, .slice u.aa u.an u.ac, .slice u.xa u.xn u.xc, .bool u.b] 26)) w.heap.size p) := ⟨(HP2.out.below HB3.out).al _⟩
 have HR3 : Hk (Bx (z3.alloc (.cells #[.int .i64 u.i, .int .i64 u.n, .int .i64 u.d, .int .i64 u.t, .int .i64 u.s, .slice u.ma u.mn u.mc, .slice u.la u.ln u.lc, .slice u.ha u.hn u.hc, .slice u.aa u.an u.ac, .slice u.xa u.xn u.xc, .bool u.b] 26)) (w.heap.size + 1) nilV) := ⟨(HR2.out.below HB3.out).al _⟩
 have HBV : Hk (Below w.heap.size w (z3.alloc (.cells #[.int .i64 u.i, .int .i64 u.n, .int .i64 u.d, .int .i64 u.t, .int .i64 u.s, .slice u.ma u.mn u.mc, .slice u.la u.ln u.lc, .slice u.ha u.hn u.hc, .slice u.aa u.an u.ac, .slice u.xa u.xn u.xc, .bool u.b] 26))) := ⟨kw_al (HB2.out.trans (HB3.out.mono HB2.out.size)) (Nat.le_refl _) _⟩
 have HBB : Hk (z.heap.size ≤ (z3.alloc (.cells #[.int .i64 u.i, .int .i64 u.n, .int .i64 u.d, .int .i64 u.t, .int .i64 u.s, .slice u.ma u.mn u.mc, .slice u.la u.ln u.lc, .slice u.ha u.hn u.hc, .slice u.aa u.an u.ac, .slice u.xa u.xn u.xc, .bool u.b] 26)).heap.size) := ⟨Nat.le_trans HB3.out.size (by simp)⟩
 have HQR : Hk (z.heap.size ≤ z3.heap.size ∧ ¬ (w.heap.size + 1) = z3.heap.size ∧ ¬ w.heap.size = z3.heap.size ∧ w.heap.size ≤ z.heap.size) := ⟨by have h1 := HR2.out.lt; have h2 := HB3.out.size; omega⟩
 clear HO HP2 HR2 HB2 HB3 HPB HRB HBW
 generalize z.heap.size = B0 at *
 generalize z3.heap.size = Q at *
 generalize (z3.alloc (.cells #[.int .i64 u.i, .int .i64 u.n, .int .i64 u.d, .int .i64 u.t, .int .i64 u.s, .slice u.ma u.mn u.mc, .slice u.la u.ln u.lc, .slice u.ha u.hn u.hc, .slice u.aa u.an u.ac, .slice u.xa u.xn u.xc, .bool u.b] 26)) = V3 at *
 clear y0 y1 y2 y3 y4 y5 y6 y7 y8 y9 y10 yl
 have y0 := HP3.out.bk.c 0; have y1 := HP3.out.bk.c 1; have y2 := HP3.out.bk.c 2; have y3 := HP3.out.bk.c 3; have y4 := HP3.out.bk.c 4; have y5 := HP3.out.bk.c 5; have y6 := HP3.out.bk.c 6; have y7 := HP3.out.bk.c 7; have y8 := HP3.out.bk.c 8; have y9 := HP3.out.bk.c 9; have y10 := HP3.out.bk.c 10; have yl := HP3.out.lt; simp at y0 y1 y2 y3 y4 y5 y6 y7 y8 y9 y10
 have d0 := HQ3.out.bk.c 0; have d1 := HQ3.out.bk.c 1; have d2 := HQ3.out.bk.c 2; have d3 := HQ3.out.bk.c 3; have d4 := HQ3.out.bk.c 4; have d5 := HQ3.out.bk.c 5; have d6 := HQ3.out.bk.c 6; have d7 := HQ3.out.bk.c 7; have d8 := HQ3.out.bk.c 8; have d9 := HQ3.out.bk.c 9; have d10 := HQ3.out.bk.c 10; have dl := HQ3.out.lt; have g3 := HQ3.out.bk.f 3; have g6 := HQ3.out.bk.f 6; have g9 := HQ3.out.bk.f 9; simp at d0 d1 d2 d3 d4 d5 d6 d7 d8 d9 d10
 go_upto_region 6 with (go_at_call 75; (with_reducible refine (rtake_any p.t p.la p.ln p.lc p.ll _ (HDP.out _ HBV.out).l HS.out.l).mono ?_); rintro e z4 ⟨s1, n1, e1, s2, n2, e2, M1, M2, rfl, htk, ha1, ha2, hb⟩; have HMB := Hk.mk (htk.b.weak HBB.out); have HA2 := Hk.mk ha2; have HQ4 := Hk.mk (HQ3.out.below hb); have HP4 := Hk.mk (HP3.out.below hb); have HR4 := Hk.mk (HR3.out.below hb); have HO4 := Hk.mk (HO3.out.below hb); have HB4 := Hk.mk (HBV.out.trans (hb.mono HBV.out.size)); have HSM := Hk.mk (smI_of htk.b.d (HDP.out _ HBV.out).l HS.out.l (fun x hx => by rw [ha2] at hx; exact (List.mem_filter.1 hx).1) (by have h1 := congrArg List.length ha2; have h2 := List.length_filter_le (fun x : In => !(x.t == p.t)) (abI p.ll); rw [abI_len] at h1; rw [abI_len] at h2; omega)); clear htk ha1 ha2 hb; clear y0 y1 y2 y3 y4 y5 y6 y7 y8 y9 y10 yl; clear d0 d1 d2 d3 d4 d5 d6 d7 d8 d9 d10 dl g3 g6 g9; have d0 := HQ4.out.bk.c 0; have d1 := HQ4.out.bk.c 1; have d2 := HQ4.out.bk.c 2; have d3 := HQ4.out.bk.c 3; have d4 := HQ4.out.bk.c 4; have d5 := HQ4.out.bk.c 5; have d6 := HQ4.out.bk.c 6; have d7 := HQ4.out.bk.c 7; have d8 := HQ4.out.bk.c 8; have d9 := HQ4.out.bk.c 9; have d10 := HQ4.out.bk.c 10; have dl := HQ4.out.lt; have g3 := HQ4.out.bk.f 3; have g6 := HQ4.out.bk.f 6; have g9 := HQ4.out.bk.f 9; simp at d0 d1 d2 d3 d4 d5 d6 d7 d8 d9 d10)
 obtain ⟨u5, hu5⟩ : ∃ x : Pv, x = { u with la := s2, ln := n2, lc := e2, ll := M2 } := ⟨_, rfl⟩
 have HQ5 : Hk (Bx (z4.setCell ⟨Q, 6, none⟩ (.slice s2 n2 e2)) Q u5) := ⟨by rw [hu5]; exact HQ4.out.set 6 _ _ rfl⟩
 have HR5 : Hk (Bx (z4.setCell ⟨Q, 6, none⟩ (.slice s2 n2 e2)) (w.heap.size + 1) nilV) := ⟨HR4.out.oth HQR.out.2.1 _ _⟩
 have HK5 := Hk.mk (Kt.set HQR.out.1 HQ4.out.bl 6 (.slice s2 n2 e2))
 have HO5 : Hk (PvO (z4.setCell ⟨Q, 6, none⟩ (.slice s2 n2 e2)) B0 u5) := ⟨by rw [hu5]; exact HK5.out.pvo (HO4.out.setl HMB.out)⟩
 have HB5 := Hk.mk (HB4.out.trans (HK5.out.bl.mono HQR.out.2.2.2))
 have HL5 : Hk (B0 ≤ (z4.setCell ⟨Q, 6, none⟩ (.slice s2 n2 e2)).heap.size) := ⟨Nat.le_trans HQR.out.1 (Nat.le_of_lt HQ5.out.lt)⟩
 have HU5 := Hk.mk hu5
 clear hu5 HQ4 HR4 HO4 HMB HK5 HB4 HP4 HQ3 HP3 HR3 HO3 HBV HBB
 clear d0 d1 d2 d3 d4 d5 d6 d7 d8 d9 d10 dl g3 g6 g9
 generalize (z4.setCell ⟨Q, 6, none⟩ (.slice s2 n2 e2)) = V5 at *
 have HT5 : Hk (u5.t = p.t) := ⟨by rw [HU5.out]; obtain ⟨-, -, -, b4, -⟩ := (ab_iff u p).1 HAU.out; exact b4⟩
 have gt : IntKind.i64.wrap (u5.t + 1) = u5.t + 1 := wr27 (by have := HT5.out; have := HT0.out; omega) (by have := HT5.out; have := HNP.out.1; omega)
 have d0 := HQ5.out.bk.c 0; have d1 := HQ5.out.bk.c 1; have d2 := HQ5.out.bk.c 2; have d3 := HQ5.out.bk.c 3; have d4 := HQ5.out.bk.c 4; have d5 := HQ5.out.bk.c 5; have d6 := HQ5.out.bk.c 6; have d7 := HQ5.out.bk.c 7; have d8 := HQ5.out.bk.c 8; have d9 := HQ5.out.bk.c 9; have d10 := HQ5.out.bk.c 10; have dl := HQ5.out.lt; have g3 := HQ5.out.bk.f 3; have g6 := HQ5.out.bk.f 6; have g9 := HQ5.out.bk.f 9; simp at d0 d1 d2 d3 d4 d5 d6 d7 d8 d9 d10
 go_upto_region 7 with fail
 obtain ⟨u4, hu4⟩ : ∃ x : Pv, x = { u5 with t := u5.t + 1 } := ⟨_, rfl⟩
 have HQ6 : Hk (Bx (V5.setCell ⟨Q, 3, none⟩ (.int .i64 (u5.t + 1))) Q u4) := ⟨by rw [hu4]; exact HQ5.out.set 3 _ _ rfl⟩
 have HR6 : Hk (Bx (V5.setCell ⟨Q, 3, none⟩ (.int .i64 (u5.t + 1))) (w.heap.size + 1) nilV) := ⟨HR5.out.oth HQR.out.2.1 _ _⟩
 have HK6 := Hk.mk (Kt.set HQR.out.1 HQ5.out.bl 3 (.int .i64 (u5.t + 1)))
 have HO6 : Hk (PvO (V5.setCell ⟨Q, 3, none⟩ (.int .i64 (u5.t + 1))) B0 u4) := ⟨by rw [hu4]; exact HK6.out.pvo (HO5.out.sett _)⟩
 have HB6 := Hk.mk (HB5.out.trans (HK6.out.bl.mono HQR.out.2.2.2))
 have HL6 : Hk (B0 ≤ (V5.setCell ⟨Q, 3, none⟩ (.int .i64 (u5.t + 1))).heap.size) := ⟨Nat.le_trans HL5.out HK6.out.bl.size⟩
 have HU4 := Hk.mk hu4
 have hx4 : u4.xn ≤ 16 := by have h1 := HX16.out; have h2 := HXN.out; rw [hu4, HU5.out]; show u.xn ≤ 16; omega
 clear hu4 HQ5 HR5 HO5 HK6 HB5 HL5 gt
 clear d0 d1 d2 d3 d4 d5 d6 d7 d8 d9 d10 dl g3 g6 g9
 generalize (V5.setCell ⟨Q, 3, none⟩ (.int .i64 (u5.t + 1))) = V6 at *
 have HXA : Hk (World.ownsRow (V6.alloc (.cells #[.int .u64 k] 41)) B0 41 1 (.slice u4.xa u4.xn u4.xc) u4.xn (flt shU u4.xl)) := ⟨(HO6.out.x.alloc _).row⟩
 have HBL : Hk (B0 ≤ (V6.alloc (.cells #[.int .u64 k] 41)).heap.size) := ⟨Nat.le_trans HL6.out (by simp)⟩
 have d0 := HQ6.out.bk.c 0; have d1 := HQ6.out.bk.c 1; have d2 := HQ6.out.bk.c 2; have d3 := HQ6.out.bk.c 3; have d4 := HQ6.out.bk.c 4; have d5 := HQ6.out.bk.c 5; have d6 := HQ6.out.bk.c 6; have d7 := HQ6.out.bk.c 7; have d8 := HQ6.out.bk.c 8; have d9 := HQ6.out.bk.c 9; have d10 := HQ6.out.bk.c 10; have dl := HQ6.out.lt; have g3 := HQ6.out.bk.f 3; have g6 := HQ6.out.bk.f 6; have g9 := HQ6.out.bk.f 9; simp at d0 d1 d2 d3 d4 d5 d6 d7 d8 d9 d10
 go_upto_region 8 with (at_builtin; go_must (refine wpList_append_own_at _ rfl _ _ 24 rfl B0 41 ii (.int .u64 0) 1 8 Tryz.underlying24 hii hiz0 hiz1 hiz2 rfl (by decide) _ u4.xn (flt shU u4.xl) rfl HXA.out ⟨V6.heap.size, 0, none⟩ 1 1 [.int .u64 k] rfl rfl (one_new V6 _ _) (oneU_it _) (by unfold maxLen; omega) (by omega) HBL.out ?_); intro v z hown hgrow hnil hat; obtain ⟨g, c9, rfl, hcc, -⟩ := row_slice hown (by omega); have HKU := Hk.mk (Kt.grown HBL.out HXA.out hgrow); have HOX : Hk (Ow shU 41 z B0 (.slice (some ⟨g, 0, none⟩) (u4.xn + 1) c9) (u4.xn + 1) (u4.xl ++ [k])) := ⟨⟨by rw [List.length_append, HO6.out.x.len]; rfl, by rw [flt_app]; exact hown⟩⟩; have HCC := Hk.mk hcc; clear hown hgrow hnil hat hcc; have HQ7 := Hk.mk ((HQ6.out.al (.cells #[.int .u64 k] 41)).kt HKU.out (by decide)); clear d0 d1 d2 d3 d4 d5 d6 d7 d8 d9 d10 dl g3 g6 g9; have d0 := HQ7.out.bk.c 0; have d1 := HQ7.out.bk.c 1; have d2 := HQ7.out.bk.c 2; have d3 := HQ7.out.bk.c 3; have d4 := HQ7.out.bk.c 4; have d5 := HQ7.out.bk.c 5; have d6 := HQ7.out.bk.c 6; have d7 := HQ7.out.bk.c 7; have d8 := HQ7.out.bk.c 8; have d9 := HQ7.out.bk.c 9; have d10 := HQ7.out.bk.c 10; have dl := HQ7.out.lt; have g3 := HQ7.out.bk.f 3; have g6 := HQ7.out.bk.f 6; have g9 := HQ7.out.bk.f 9; simp at d0 d1 d2 d3 d4 d5 d6 d7 d8 d9 d10)
 obtain ⟨u6, hu6⟩ : ∃ x : Pv, x = { u4 with xa := some ⟨g, 0, none⟩, xn := u4.xn + 1, xc := c9, xl := u4.xl ++ [k] } := ⟨_, rfl⟩
 have HQ8 : Hk (Bx (z.setCell ⟨Q, 9, none⟩ (.slice (some ⟨g, 0, none⟩) (u4.xn + 1) c9)) Q u6) := ⟨by rw [hu6]; exact HQ7.out.set 9 _ _ rfl⟩
 have HR8 : Hk (Bx (z.setCell ⟨Q, 9, none⟩ (.slice (some ⟨g, 0, none⟩) (u4.xn + 1) c9)) (w.heap.size + 1) nilV) := ⟨((HR6.out.al (.cells #[.int .u64 k] 41)).kt HKU.out (by decide)).oth HQR.out.2.1 _ _⟩
 have HK8 := Hk.mk (Kt.set HQR.out.1 HQ7.out.bl 9 (.slice (some ⟨g, 0, none⟩) (u4.xn + 1) c9))
 have HO8 : Hk (PvO (z.setCell ⟨Q, 9, none⟩ (.slice (some ⟨g, 0, none⟩) (u4.xn + 1) c9)) B0 u6) := ⟨by rw [hu6]; exact HK8.out.pvo (HKU.out.pvu (HO6.out.below (below_al _ _)) HOX.out)⟩
 have HB8 := Hk.mk ((kw_al HB6.out (Nat.le_refl _) (.cells #[.int .u64 k] 41)).trans ((HKU.out.bl.trans HK8.out.bl).mono HQR.out.2.2.2))
 have HU6 := Hk.mk hu6
 have hx6 : u6.xn = u4.xn + 1 := by rw [hu6]
 clear hu6 HQ7 HQ6 HR6 HK8 HO6 HB6 HL6 HXA HBL HKU HOX
 clear d0 d1 d2 d3 d4 d5 d6 d7 d8 d9 d10 dl g3 g6 g9
 generalize (z.setCell ⟨Q, 9, none⟩ (.slice (some ⟨g, 0, none⟩) (u4.xn + 1) c9)) = V8 at *
 have d0 := HQ8.out.bk.c 0; have d1 := HQ8.out.bk.c 1; have d2 := HQ8.out.bk.c 2; have d3 := HQ8.out.bk.c 3; have d4 := HQ8.out.bk.c 4; have d5 := HQ8.out.bk.c 5; have d6 := HQ8.out.bk.c 6; have d7 := HQ8.out.bk.c 7; have d8 := HQ8.out.bk.c 8; have d9 := HQ8.out.bk.c 9; have d10 := HQ8.out.bk.c 10; have dl := HQ8.out.lt; have g3 := HQ8.out.bk.f 3; have g6 := HQ8.out.bk.f 6; have g9 := HQ8.out.bk.f 9; simp at d0 d1 d2 d3 d4 d5 d6 d7 d8 d9 d10
 have r0 := HR8.out.bk.c 0; have f0 := HR8.out.bk.f 0; have r1 := HR8.out.bk.c 1; have f1 := HR8.out.bk.f 1; have r2 := HR8.out.bk.c 2; have f2 := HR8.out.bk.f 2; have r3 := HR8.out.bk.c 3; have f3 := HR8.out.bk.f 3; have r4 := HR8.out.bk.c 4; have f4 := HR8.out.bk.f 4; have r5 := HR8.out.bk.c 5; have f5 := HR8.out.bk.f 5; have r6 := HR8.out.bk.c 6; have f6 := HR8.out.bk.f 6; have r7 := HR8.out.bk.c 7; have f7 := HR8.out.bk.f 7; have r8 := HR8.out.bk.c 8; have f8 := HR8.out.bk.f 8; have r9 := HR8.out.bk.c 9; have f9 := HR8.out.bk.f 9; have r10 := HR8.out.bk.c 10; have f10 := HR8.out.bk.f 10; have rl := HR8.out.lt; simp at r0 r1 r2 r3 r4 r5 r6 r7 r8 r9 r10
 rw [← hx6]
 rw [← hx6] at HCC
 have HX6 : Hk (u6.xn = u.xn + 1) := ⟨by rw [hx6, HU4.out, HU5.out]⟩
 have HPX : Hk (p.ab.x.length = u.xn) := ⟨by have h1 := (HDP.out w (Below.refl _ _)).x.len; rw [HXN.out]; exact h1⟩
 by_cases hlt : u6.xn ≤ 16
 ·have d16 : decide ((16 : Int) < (u6.xn : Int)) = false := by rw [decide_eq_false_iff_not]; omega
  have HLT := Hk.mk hlt
  have HFB := Hk.mk ((Kt.put (B := w.heap.size) HR8.out (by omega) u6))
  clear hlt hx4 hx6
  go_wp2
  refine bodyPost_ret (v := .tuple #[.agg #[.int .i64 u6.i, .int .i64 u6.n, .int .i64 u6.d, .int .i64 u6.t, .int .i64 u6.s, .slice u6.ma u6.mn u6.mc, .slice u6.la u6.ln u6.lc, .slice u6.ha u6.hn u6.hc, .slice u6.aa u6.an u6.ac, .slice u6.xa u6.xn u6.xc, .bool u6.b], .bool true]) (by simp [results, Tryz.results49, go_sem, r0, r1, r2, r3, r4, r5, r6, r7, r8, r9, r10, f0, f1, f2, f3, f4, f5, f6, f7, f8, f9, f10]) rfl ⟨u6, rfl, ⟨u6, HFB.out.pvo (HO8.out.weak HQR.out.2.2.2), .inl rfl⟩, ?_, ?_, HB8.out.trans HFB.out.bl⟩
  ·refine run_ab HAU.out (by rw [HU6.out, HU4.out, HU5.out]; rfl) HA2.out ?_
   have h1 := HPX.out
   have h2 := HLT.out
   have h5 := HX6.out
   rw [if_neg (by omega)]
   obtain ⟨-, -, -, -, -, -, -, -, -, b10, -⟩ := (ab_iff u p).1 HAU.out
   show u.xl ++ [k] = p.xl ++ [k]
   rw [b10]
  ·have h2 := HLT.out
   have h3 := HU6.out
   rw [HU4.out, HU5.out] at h3
   rw [h3] at h2 ⊢
   exact ⟨HSU.out.m, HSM.out, HSU.out.h, HSU.out.a, by show u.xn + 1 ≤ 1048576; have : u.xn + 1 ≤ 16 := h2; omega⟩
 ·have d16 : decide ((16 : Int) < (u6.xn : Int)) = true := by rw [decide_eq_true_iff]; omega
  have HLT : Hk (u6.xn = 17) := ⟨by omega⟩
  have j1 : (1 : Int) ≤ (u6.xn : Int) := by omega
  have hcc := HCC.out
  have j2 : (u6.xn : Int) ≤ (c9 : Int) := by omega
  have j3 : (1 : Int) ≤ (c9 : Int) := by omega
  have j4 : ¬ c9 = 1 := by omega
  have hxa : u6.xa = some ⟨g, 0, none⟩ := by rw [HU6.out]
  have hxc : u6.xc = c9 := by rw [HU6.out]
  rw [hxa, hxc] at d9
  clear hlt hx4 hcc hx6
  go_upto_region 10 with fail
  obtain ⟨u9, hu9⟩ : ∃ x : Pv, x = { u6 with xa := some ⟨g, 1, none⟩, xn := u6.xn - 1, xc := c9 - 1, xl := u6.xl.drop 1 } := ⟨_, rfl⟩
  have HQ9 : Hk (Bx (V8.setCell ⟨Q, 9, none⟩ (.slice (some ⟨g, 1, none⟩) (u6.xn - 1) (c9 - 1))) Q u9) := ⟨by rw [hu9]; exact HQ8.out.set 9 _ _ rfl⟩
  have HR9 : Hk (Bx (V8.setCell ⟨Q, 9, none⟩ (.slice (some ⟨g, 1, none⟩) (u6.xn - 1) (c9 - 1))) (w.heap.size + 1) nilV) := ⟨HR8.out.oth HQR.out.2.1 _ _⟩
  have HK9 := Hk.mk (Kt.set HQR.out.1 HQ8.out.bl 9 (.slice (some ⟨g, 1, none⟩) (u6.xn - 1) (c9 - 1)))
  have HO9 : Hk (PvO (V8.setCell ⟨Q, 9, none⟩ (.slice (some ⟨g, 1, none⟩) (u6.xn - 1) (c9 - 1))) B0 u6) := ⟨HK9.out.pvo HO8.out⟩
  have HB9 := Hk.mk (HB8.out.trans (HK9.out.bl.mono HQR.out.2.2.2))
  have HU9 := Hk.mk hu9
  have HXA9 : Hk (u6.xa = some ⟨g, 0, none⟩) := ⟨hxa⟩
  clear hu9 HQ8 HR8 HK9 HO8 HB8 hxa hxc
  clear d0 d1 d2 d3 d4 d5 d6 d7 d8 d9 d10 dl g3 g6 g9
  clear r0 r1 r2 r3 r4 r5 r6 r7 r8 r9 r10 f0 f1 f2 f3 f4 f5 f6 f7 f8 f9 f10 rl
  generalize (V8.setCell ⟨Q, 9, none⟩ (.slice (some ⟨g, 1, none⟩) (u6.xn - 1) (c9 - 1))) = V9 at *
  have d0 := HQ9.out.bk.c 0; have d1 := HQ9.out.bk.c 1; have d2 := HQ9.out.bk.c 2; have d3 := HQ9.out.bk.c 3; have d4 := HQ9.out.bk.c 4; have d5 := HQ9.out.bk.c 5; have d6 := HQ9.out.bk.c 6; have d7 := HQ9.out.bk.c 7; have d8 := HQ9.out.bk.c 8; have d9 := HQ9.out.bk.c 9; have d10 := HQ9.out.bk.c 10; have dl := HQ9.out.lt; have g3 := HQ9.out.bk.f 3; have g6 := HQ9.out.bk.f 6; have g9 := HQ9.out.bk.f 9; simp at d0 d1 d2 d3 d4 d5 d6 d7 d8 d9 d10
  have r0 := HR9.out.bk.c 0; have f0 := HR9.out.bk.f 0; have r1 := HR9.out.bk.c 1; have f1 := HR9.out.bk.f 1; have r2 := HR9.out.bk.c 2; have f2 := HR9.out.bk.f 2; have r3 := HR9.out.bk.c 3; have f3 := HR9.out.bk.f 3; have r4 := HR9.out.bk.c 4; have f4 := HR9.out.bk.f 4; have r5 := HR9.out.bk.c 5; have f5 := HR9.out.bk.f 5; have r6 := HR9.out.bk.c 6; have f6 := HR9.out.bk.f 6; have r7 := HR9.out.bk.c 7; have f7 := HR9.out.bk.f 7; have r8 := HR9.out.bk.c 8; have f8 := HR9.out.bk.f 8; have r9 := HR9.out.bk.c 9; have f9 := HR9.out.bk.f 9; have r10 := HR9.out.bk.c 10; have f10 := HR9.out.bk.f 10; have rl := HR9.out.lt; simp at r0 r1 r2 r3 r4 r5 r6 r7 r8 r9 r10
  have HFB := Hk.mk ((Kt.put (B := w.heap.size) HR9.out (by omega) u9))
  go_wp2
  refine bodyPost_ret (v := .tuple #[.agg #[.int .i64 u9.i, .int .i64 u9.n, .int .i64 u9.d, .int .i64 u9.t, .int .i64 u9.s, .slice u9.ma u9.mn u9.mc, .slice u9.la u9.ln u9.lc, .slice u9.ha u9.hn u9.hc, .slice u9.aa u9.an u9.ac, .slice u9.xa u9.xn u9.xc, .bool u9.b], .bool true]) (by simp [results, Tryz.results49, go_sem, r0, r1, r2, r3, r4, r5, r6, r7, r8, r9, r10, f0, f1, f2, f3, f4, f5, f6, f7, f8, f9, f10]) rfl ⟨u9, rfl, ⟨u6, HFB.out.pvo (HO9.out.weak HQR.out.2.2.2), .inr ⟨g, c9 - 1, HXA9.out, by have := HLT.out; omega, HU9.out⟩⟩, ?_, ?_, HB9.out.trans HFB.out.bl⟩
  ·refine run_ab HAU.out (by rw [HU9.out, HU6.out, HU4.out, HU5.out]; rfl) HA2.out ?_
   have h1 := HPX.out
   have h2 := HLT.out
   have h5 := HX6.out
   rw [if_pos (by omega)]
   obtain ⟨-, -, -, -, -, -, -, -, -, b10, -⟩ := (ab_iff u p).1 HAU.out
   show (u.xl ++ [k]).drop 1 = (p.xl ++ [k]).drop 1
   rw [b10]
  ·have h2 := HLT.out
   have h3 := HU6.out
   rw [HU4.out, HU5.out] at h3
   rw [HU9.out]
   rw [h3] at h2 ⊢
   exact ⟨HSU.out.m, HSM.out, HSU.out.h, HSU.out.a, by show u.xn + 1 - 1 ≤ 1048576; have : u.xn + 1 = 17 := h2; omega⟩
end Go.Proofs.YtdpblimhfmfbnaaGreat
namespace Go.Proofs.YtdpblimhfmfbnaaGreat
open Go.ChangeShapes Go.WideShapes Go.ChangeAt Go.RowKit Go.Deep
set_option maxRecDepth 100000 in
set_option maxHeartbeats 3200000 in
theorem pran_bad (p : Pv) (k : Int) (w : World) (h : PvD w w.heap.size p) (hs : PvS p) (E : ¬ OkP p.ab) :
  Calls Tryz.prog 21 #[.agg #[.int .i64 p.i, .int .i64 p.n, .int .i64 p.d, .int .i64 p.t, .int .i64 p.s, .slice p.ma p.mn p.mc, .slice p.la p.ln p.lc, .slice p.ha p.hn p.hc, .slice p.aa p.an p.ac, .slice p.xa p.xn p.xc, .bool p.b], .int .u64 k] w fun e z => e = .returned (.tuple #[.agg #[.int .i64 0, .int .i64 0, .int .i64 0, .int .i64 0, .int .i64 0, .slice none 0 0, .slice none 0 0, .slice none 0 0, .slice none 0 0, .slice none 0 0, .bool false], .int .i64 1]) ∧ Below w.heap.size w z := by
 have HNO := Hk.mk E
 clear E
 have HBW : Hk (Below w.heap.size w ((w.alloc (.cells #[.int .i64 p.i, .int .i64 p.n, .int .i64 p.d, .int .i64 p.t, .int .i64 p.s, .slice p.ma p.mn p.mc, .slice p.la p.ln p.lc, .slice p.ha p.hn p.hc, .slice p.aa p.an p.ac, .slice p.xa p.xn p.xc, .bool p.b] 26)).alloc (.cells #[.int .i64 0, .int .i64 0, .int .i64 0, .int .i64 0, .int .i64 0, .slice none 0 0, .slice none 0 0, .slice none 0 0, .slice none 0 0, .slice none 0 0, .bool false] 26))) := ⟨((Below.refl _ _).alloc (Nat.le_refl _) _).alloc (by simp) _⟩
 have HPB : Hk (Bx ((w.alloc (.cells #[.int .i64 p.i, .int .i64 p.n, .int .i64 p.d, .int .i64 p.t, .int .i64 p.s, .slice p.ma p.mn p.mc, .slice p.la p.ln p.lc, .slice p.ha p.hn p.hc, .slice p.aa p.an p.ac, .slice p.xa p.xn p.xc, .bool p.b] 26)).alloc (.cells #[.int .i64 0, .int .i64 0, .int .i64 0, .int .i64 0, .int .i64 0, .slice none 0 0, .slice none 0 0, .slice none 0 0, .slice none 0 0, .slice none 0 0, .bool false] 26)) w.heap.size p) := ⟨(Bx.new w p).al _⟩
 have e1 : (w.alloc (.cells #[.int .i64 p.i, .int .i64 p.n, .int .i64 p.d, .int .i64 p.t, .int .i64 p.s, .slice p.ma p.mn p.mc, .slice p.la p.ln p.lc, .slice p.ha p.hn p.hc, .slice p.aa p.an p.ac, .slice p.xa p.xn p.xc, .bool p.b] 26)).heap.size = w.heap.size + 1 := by simp
 have HRB : Hk (Bx ((w.alloc (.cells #[.int .i64 p.i, .int .i64 p.n, .int .i64 p.d, .int .i64 p.t, .int .i64 p.s, .slice p.ma p.mn p.mc, .slice p.la p.ln p.lc, .slice p.ha p.hn p.hc, .slice p.aa p.an p.ac, .slice p.xa p.xn p.xc, .bool p.b] 26)).alloc (.cells #[.int .i64 0, .int .i64 0, .int .i64 0, .int .i64 0, .int .i64 0, .slice none 0 0, .slice none 0 0, .slice none 0 0, .slice none 0 0, .slice none 0 0, .bool false] 26)) (w.heap.size + 1) nilV) := ⟨by rw [← e1]; exact Bx.new (w.alloc (.cells #[.int .i64 p.i, .int .i64 p.n, .int .i64 p.d, .int .i64 p.t, .int .i64 p.s, .slice p.ma p.mn p.mc, .slice p.la p.ln p.lc, .slice p.ha p.hn p.hc, .slice p.aa p.an p.ac, .slice p.xa p.xn p.xc, .bool p.b] 26)) nilV⟩
 have HDP : Hk (∀ X, Below w.heap.size w X → PvD X X.heap.size p) := ⟨fun X hX => h.later hX⟩
 have HS := Hk.mk hs
 clear e1 h hs
 go_enter Tryz.func21, Tryz.ntmps21
 go_upto_region 1 with fail
 generalize ((w.alloc (.cells #[.int .i64 p.i, .int .i64 p.n, .int .i64 p.d, .int .i64 p.t, .int .i64 p.s, .slice p.ma p.mn p.mc, .slice p.la p.ln p.lc, .slice p.ha p.hn p.hc, .slice p.aa p.an p.ac, .slice p.xa p.xn p.xc, .bool p.b] 26)).alloc (.cells #[.int .i64 0, .int .i64 0, .int .i64 0, .int .i64 0, .int .i64 0, .slice none 0 0, .slice none 0 0, .slice none 0 0, .slice none 0 0, .slice none 0 0, .bool false] 26)) = V at *
 have y0 := HPB.out.bk.c 0; have y1 := HPB.out.bk.c 1; have y2 := HPB.out.bk.c 2; have y3 := HPB.out.bk.c 3; have y4 := HPB.out.bk.c 4; have y5 := HPB.out.bk.c 5; have y6 := HPB.out.bk.c 6; have y7 := HPB.out.bk.c 7; have y8 := HPB.out.bk.c 8; have y9 := HPB.out.bk.c 9; have y10 := HPB.out.bk.c 10; have yl := HPB.out.lt; simp at y0 y1 y2 y3 y4 y5 y6 y7 y8 y9 y10
 go_upto_region 3 with (go_at_call 14; (with_reducible refine (pcheck_as false 1 p _ (HDP.out _ HBW.out) HS.out ⟨⟨fun g => absurd g HNO.out, fun g => by cases g⟩⟩ ⟨rfl⟩).mono ?_); rintro e z1 ⟨rfl, hb⟩; have HP9 := Hk.mk (HPB.out.below hb); have HR9 := Hk.mk (HRB.out.below hb); have HB9 := Hk.mk (HBW.out.trans (hb.mono HBW.out.size)); clear hb HPB HRB HBW; clear y0 y1 y2 y3 y4 y5 y6 y7 y8 y9 y10 yl; have HPB := HP9; have HRB := HR9; have HBW := HB9; clear HP9 HR9 HB9; have y0 := HPB.out.bk.c 0; have y1 := HPB.out.bk.c 1; have y2 := HPB.out.bk.c 2; have y3 := HPB.out.bk.c 3; have y4 := HPB.out.bk.c 4; have y5 := HPB.out.bk.c 5; have y6 := HPB.out.bk.c 6; have y7 := HPB.out.bk.c 7; have y8 := HPB.out.bk.c 8; have y9 := HPB.out.bk.c 9; have y10 := HPB.out.bk.c 10; have yl := HPB.out.lt; simp at y0 y1 y2 y3 y4 y5 y6 y7 y8 y9 y10)
 have r0 := HRB.out.bk.c 0; have f0 := HRB.out.bk.f 0; have r1 := HRB.out.bk.c 1; have f1 := HRB.out.bk.f 1; have r2 := HRB.out.bk.c 2; have f2 := HRB.out.bk.f 2; have r3 := HRB.out.bk.c 3; have f3 := HRB.out.bk.f 3; have r4 := HRB.out.bk.c 4; have f4 := HRB.out.bk.f 4; have r5 := HRB.out.bk.c 5; have f5 := HRB.out.bk.f 5; have r6 := HRB.out.bk.c 6; have f6 := HRB.out.bk.f 6; have r7 := HRB.out.bk.c 7; have f7 := HRB.out.bk.f 7; have r8 := HRB.out.bk.c 8; have f8 := HRB.out.bk.f 8; have r9 := HRB.out.bk.c 9; have f9 := HRB.out.bk.f 9; have r10 := HRB.out.bk.c 10; have f10 := HRB.out.bk.f 10; have rl := HRB.out.lt; simp at r0 r1 r2 r3 r4 r5 r6 r7 r8 r9 r10
 have HFB := Hk.mk ((Kt.put (B := w.heap.size) HRB.out (by omega) nilV).bl)
 go_wp2
 refine bodyPost_ret (v := .tuple #[.agg #[.int .i64 0, .int .i64 0, .int .i64 0, .int .i64 0, .int .i64 0, .slice none 0 0, .slice none 0 0, .slice none 0 0, .slice none 0 0, .slice none 0 0, .bool false], .int .i64 1]) (by simp [results, Tryz.results21, go_sem, r0, r1, r2, r3, r4, r5, r6, r7, r8, r9, r10, f0, f1, f2, f3, f4, f5, f6, f7, f8, f9, f10]) rfl ⟨rfl, HBW.out.trans HFB.out⟩
set_option maxRecDepth 100000 in
set_option maxHeartbeats 3200000 in
theorem pran_wait (p : Pv) (k : Int) (w : World) (h : PvD w w.heap.size p) (hs : PvS p) (hk : OkP p.ab) (E : ¬ (p.t < 1099511627776 ∧ p.t ≤ minL p.hl)) :
  Calls Tryz.prog 21 #[.agg #[.int .i64 p.i, .int .i64 p.n, .int .i64 p.d, .int .i64 p.t, .int .i64 p.s, .slice p.ma p.mn p.mc, .slice p.la p.ln p.lc, .slice p.ha p.hn p.hc, .slice p.aa p.an p.ac, .slice p.xa p.xn p.xc, .bool p.b], .int .u64 k] w fun e z => e = .returned (.tuple #[.agg #[.int .i64 0, .int .i64 0, .int .i64 0, .int .i64 0, .int .i64 0, .slice none 0 0, .slice none 0 0, .slice none 0 0, .slice none 0 0, .slice none 0 0, .bool false], .int .i64 10]) ∧ Below w.heap.size w z := by
 have HNO := Hk.mk E
 have HOK := Hk.mk hk
 have HN0 : Hk (0 < p.hn) := ⟨by have h1 := hk.k.h1; have h2 := hk.c.n1; have h3 := h.h.len; have h4 : p.ab.h.length = p.hl.length := rfl; omega⟩
 clear E hk
 have HBW : Hk (Below w.heap.size w ((w.alloc (.cells #[.int .i64 p.i, .int .i64 p.n, .int .i64 p.d, .int .i64 p.t, .int .i64 p.s, .slice p.ma p.mn p.mc, .slice p.la p.ln p.lc, .slice p.ha p.hn p.hc, .slice p.aa p.an p.ac, .slice p.xa p.xn p.xc, .bool p.b] 26)).alloc (.cells #[.int .i64 0, .int .i64 0, .int .i64 0, .int .i64 0, .int .i64 0, .slice none 0 0, .slice none 0 0, .slice none 0 0, .slice none 0 0, .slice none 0 0, .bool false] 26))) := ⟨((Below.refl _ _).alloc (Nat.le_refl _) _).alloc (by simp) _⟩
 have HPB : Hk (Bx ((w.alloc (.cells #[.int .i64 p.i, .int .i64 p.n, .int .i64 p.d, .int .i64 p.t, .int .i64 p.s, .slice p.ma p.mn p.mc, .slice p.la p.ln p.lc, .slice p.ha p.hn p.hc, .slice p.aa p.an p.ac, .slice p.xa p.xn p.xc, .bool p.b] 26)).alloc (.cells #[.int .i64 0, .int .i64 0, .int .i64 0, .int .i64 0, .int .i64 0, .slice none 0 0, .slice none 0 0, .slice none 0 0, .slice none 0 0, .slice none 0 0, .bool false] 26)) w.heap.size p) := ⟨(Bx.new w p).al _⟩
 have e1 : (w.alloc (.cells #[.int .i64 p.i, .int .i64 p.n, .int .i64 p.d, .int .i64 p.t, .int .i64 p.s, .slice p.ma p.mn p.mc, .slice p.la p.ln p.lc, .slice p.ha p.hn p.hc, .slice p.aa p.an p.ac, .slice p.xa p.xn p.xc, .bool p.b] 26)).heap.size = w.heap.size + 1 := by simp
 have HRB : Hk (Bx ((w.alloc (.cells #[.int .i64 p.i, .int .i64 p.n, .int .i64 p.d, .int .i64 p.t, .int .i64 p.s, .slice p.ma p.mn p.mc, .slice p.la p.ln p.lc, .slice p.ha p.hn p.hc, .slice p.aa p.an p.ac, .slice p.xa p.xn p.xc, .bool p.b] 26)).alloc (.cells #[.int .i64 0, .int .i64 0, .int .i64 0, .int .i64 0, .int .i64 0, .slice none 0 0, .slice none 0 0, .slice none 0 0, .slice none 0 0, .slice none 0 0, .bool false] 26)) (w.heap.size + 1) nilV) := ⟨by rw [← e1]; exact Bx.new (w.alloc (.cells #[.int .i64 p.i, .int .i64 p.n, .int .i64 p.d, .int .i64 p.t, .int .i64 p.s, .slice p.ma p.mn p.mc, .slice p.la p.ln p.lc, .slice p.ha p.hn p.hc, .slice p.aa p.an p.ac, .slice p.xa p.xn p.xc, .bool p.b] 26)) nilV⟩
 have HDP : Hk (∀ X, Below w.heap.size w X → PvD X X.heap.size p) := ⟨fun X hX => h.later hX⟩
 have HS := Hk.mk hs
 clear e1 h hs
 go_enter Tryz.func21, Tryz.ntmps21
 go_upto_region 1 with fail
 generalize ((w.alloc (.cells #[.int .i64 p.i, .int .i64 p.n, .int .i64 p.d, .int .i64 p.t, .int .i64 p.s, .slice p.ma p.mn p.mc, .slice p.la p.ln p.lc, .slice p.ha p.hn p.hc, .slice p.aa p.an p.ac, .slice p.xa p.xn p.xc, .bool p.b] 26)).alloc (.cells #[.int .i64 0, .int .i64 0, .int .i64 0, .int .i64 0, .int .i64 0, .slice none 0 0, .slice none 0 0, .slice none 0 0, .slice none 0 0, .slice none 0 0, .bool false] 26)) = V at *
 have y0 := HPB.out.bk.c 0; have y1 := HPB.out.bk.c 1; have y2 := HPB.out.bk.c 2; have y3 := HPB.out.bk.c 3; have y4 := HPB.out.bk.c 4; have y5 := HPB.out.bk.c 5; have y6 := HPB.out.bk.c 6; have y7 := HPB.out.bk.c 7; have y8 := HPB.out.bk.c 8; have y9 := HPB.out.bk.c 9; have y10 := HPB.out.bk.c 10; have yl := HPB.out.lt; simp at y0 y1 y2 y3 y4 y5 y6 y7 y8 y9 y10
 go_upto_region 5 with (first | (go_at_call 14; (with_reducible refine (pcheck_as true 0 p _ (HDP.out _ HBW.out) HS.out ⟨⟨fun _ => rfl, fun _ => HOK.out⟩⟩ ⟨rfl⟩).mono ?_); rintro e z1 ⟨rfl, hb⟩; have HP9 := Hk.mk (HPB.out.below hb); have HR9 := Hk.mk (HRB.out.below hb); have HB9 := Hk.mk (HBW.out.trans (hb.mono HBW.out.size)); clear hb HPB HRB HBW; clear y0 y1 y2 y3 y4 y5 y6 y7 y8 y9 y10 yl; have HPB := HP9; have HRB := HR9; have HBW := HB9; clear HP9 HR9 HB9; have y0 := HPB.out.bk.c 0; have y1 := HPB.out.bk.c 1; have y2 := HPB.out.bk.c 2; have y3 := HPB.out.bk.c 3; have y4 := HPB.out.bk.c 4; have y5 := HPB.out.bk.c 5; have y6 := HPB.out.bk.c 6; have y7 := HPB.out.bk.c 7; have y8 := HPB.out.bk.c 8; have y9 := HPB.out.bk.c 9; have y10 := HPB.out.bk.c 10; have yl := HPB.out.lt; simp at y0 y1 y2 y3 y4 y5 y6 y7 y8 y9 y10) | (go_at_call 60; (with_reducible refine (ready_as false p _ (HDP.out _ HBW.out) HS.out HN0.out ⟨⟨fun g => absurd g HNO.out, fun g => by cases g⟩⟩).mono ?_); rintro e z2 ⟨rfl, hb⟩; have HP9 := Hk.mk (HPB.out.below hb); have HR9 := Hk.mk (HRB.out.below hb); have HB9 := Hk.mk (HBW.out.trans (hb.mono HBW.out.size)); clear hb HPB HRB HBW; clear y0 y1 y2 y3 y4 y5 y6 y7 y8 y9 y10 yl; have HPB := HP9; have HRB := HR9; have HBW := HB9; clear HP9 HR9 HB9; have y0 := HPB.out.bk.c 0; have y1 := HPB.out.bk.c 1; have y2 := HPB.out.bk.c 2; have y3 := HPB.out.bk.c 3; have y4 := HPB.out.bk.c 4; have y5 := HPB.out.bk.c 5; have y6 := HPB.out.bk.c 6; have y7 := HPB.out.bk.c 7; have y8 := HPB.out.bk.c 8; have y9 := HPB.out.bk.c 9; have y10 := HPB.out.bk.c 10; have yl := HPB.out.lt; simp at y0 y1 y2 y3 y4 y5 y6 y7 y8 y9 y10))
 have r0 := HRB.out.bk.c 0; have f0 := HRB.out.bk.f 0; have r1 := HRB.out.bk.c 1; have f1 := HRB.out.bk.f 1; have r2 := HRB.out.bk.c 2; have f2 := HRB.out.bk.f 2; have r3 := HRB.out.bk.c 3; have f3 := HRB.out.bk.f 3; have r4 := HRB.out.bk.c 4; have f4 := HRB.out.bk.f 4; have r5 := HRB.out.bk.c 5; have f5 := HRB.out.bk.f 5; have r6 := HRB.out.bk.c 6; have f6 := HRB.out.bk.f 6; have r7 := HRB.out.bk.c 7; have f7 := HRB.out.bk.f 7; have r8 := HRB.out.bk.c 8; have f8 := HRB.out.bk.f 8; have r9 := HRB.out.bk.c 9; have f9 := HRB.out.bk.f 9; have r10 := HRB.out.bk.c 10; have f10 := HRB.out.bk.f 10; have rl := HRB.out.lt; simp at r0 r1 r2 r3 r4 r5 r6 r7 r8 r9 r10
 have HFB := Hk.mk ((Kt.put (B := w.heap.size) HRB.out (by omega) nilV).bl)
 go_wp2
 refine bodyPost_ret (v := .tuple #[.agg #[.int .i64 0, .int .i64 0, .int .i64 0, .int .i64 0, .int .i64 0, .slice none 0 0, .slice none 0 0, .slice none 0 0, .slice none 0 0, .slice none 0 0, .bool false], .int .i64 10]) (by simp [results, Tryz.results21, go_sem, r0, r1, r2, r3, r4, r5, r6, r7, r8, r9, r10, f0, f1, f2, f3, f4, f5, f6, f7, f8, f9, f10]) rfl ⟨rfl, HBW.out.trans HFB.out⟩
end Go.Proofs.YtdpblimhfmfbnaaGreat
namespace Go.Proofs.YtdpblimhfmfbnaaGreat
open Go.ChangeShapes Go.WideShapes Go.ChangeAt Go.RowKit Go.Deep
def RnO (w : World) (p : Pv) (k : Int) (e : Ending) (z : World) : Prop := ∃ q : Pv, e = .returned (.tuple #[.agg #[.int .i64 q.i, .int .i64 q.n, .int .i64 q.d, .int .i64 q.t, .int .i64 q.s, .slice q.ma q.mn q.mc, .slice q.la q.ln q.lc, .slice q.ha q.hn q.hc, .slice q.aa q.an q.ac, .slice q.xa q.xn q.xc, .bool q.b], .int .i64 0]) ∧ PvO z w.heap.size q ∧ q.ab = runM p.ab k ∧ PvS q ∧ Below w.heap.size w z
set_option maxRecDepth 100000 in
set_option maxHeartbeats 3200000 in
theorem pran_yes (p : Pv) (k : Int) (w : World) (h : PvD w w.heap.size p) (hs : PvS p) (hk : OkP p.ab) (E : p.t < 1099511627776 ∧ p.t ≤ minL p.hl) :
  Calls Tryz.prog 21 #[.agg #[.int .i64 p.i, .int .i64 p.n, .int .i64 p.d, .int .i64 p.t, .int .i64 p.s, .slice p.ma p.mn p.mc, .slice p.la p.ln p.lc, .slice p.ha p.hn p.hc, .slice p.aa p.an p.ac, .slice p.xa p.xn p.xc, .bool p.b], .int .u64 k] w (RnO w p k) := by
 obtain ⟨ii, hii, hiz0, hiz1, hiz2⟩ := info_parts info_u
 have HX16 : Hk (p.xn ≤ 16) := ⟨by have h1 := hk.x1; have h2 := h.x.len; have h3 : p.ab.x.length = p.xl.length := rfl; omega⟩
 have HT0 : Hk (0 ≤ p.t) := ⟨hk.c.t1⟩
 have HNP := Hk.mk E
 have HOK := Hk.mk hk
 have HN0 : Hk (0 < p.hn) := ⟨by have h1 := hk.k.h1; have h2 := hk.c.n1; have h3 := h.h.len; have h4 : p.ab.h.length = p.hl.length := rfl; omega⟩
 clear E hk
 have HBW : Hk (Below w.heap.size w ((w.alloc (.cells #[.int .i64 p.i, .int .i64 p.n, .int .i64 p.d, .int .i64 p.t, .int .i64 p.s, .slice p.ma p.mn p.mc, .slice p.la p.ln p.lc, .slice p.ha p.hn p.hc, .slice p.aa p.an p.ac, .slice p.xa p.xn p.xc, .bool p.b] 26)).alloc (.cells #[.int .i64 0, .int .i64 0, .int .i64 0, .int .i64 0, .int .i64 0, .slice none 0 0, .slice none 0 0, .slice none 0 0, .slice none 0 0, .slice none 0 0, .bool false] 26))) := ⟨((Below.refl _ _).alloc (Nat.le_refl _) _).alloc (by simp) _⟩
 have HPB : Hk (Bx ((w.alloc (.cells #[.int .i64 p.i, .int .i64 p.n, .int .i64 p.d, .int .i64 p.t, .int .i64 p.s, .slice p.ma p.mn p.mc, .slice p.la p.ln p.lc, .slice p.ha p.hn p.hc, .slice p.aa p.an p.ac, .slice p.xa p.xn p.xc, .bool p.b] 26)).alloc (.cells #[.int .i64 0, .int .i64 0, .int .i64 0, .int .i64 0, .int .i64 0, .slice none 0 0, .slice none 0 0, .slice none 0 0, .slice none 0 0, .slice none 0 0, .bool false] 26)) w.heap.size p) := ⟨(Bx.new w p).al _⟩
 have e1 : (w.alloc (.cells #[.int .i64 p.i, .int .i64 p.n, .int .i64 p.d, .int .i64 p.t, .int .i64 p.s, .slice p.ma p.mn p.mc, .slice p.la p.ln p.lc, .slice p.ha p.hn p.hc, .slice p.aa p.an p.ac, .slice p.xa p.xn p.xc, .bool p.b] 26)).heap.size = w.heap.size + 1 := by simp
 have HRB : Hk (Bx ((w.alloc (.cells #[.int .i64 p.i, .int .i64 p.n, .int .i64 p.d, .int .i64 p.t, .int .i64 p.s, .slice p.ma p.mn p.mc, .slice p.la p.ln p.lc, .slice p.ha p.hn p.hc, .slice p.aa p.an p.ac, .slice p.xa p.xn p.xc, .bool p.b] 26)).alloc (.cells #[.int .i64 0, .int .i64 0, .int .i64 0, .int .i64 0, .int .i64 0, .slice none 0 0, .slice none 0 0, .slice none 0 0, .slice none 0 0, .slice none 0 0, .bool false] 26)) (w.heap.size + 1) nilV) := ⟨by rw [← e1]; exact Bx.new (w.alloc (.cells #[.int .i64 p.i, .int .i64 p.n, .int .i64 p.d, .int .i64 p.t, .int .i64 p.s, .slice p.ma p.mn p.mc, .slice p.la p.ln p.lc, .slice p.ha p.hn p.hc, .slice p.aa p.an p.ac, .slice p.xa p.xn p.xc, .bool p.b] 26)) nilV⟩
 have HDP : Hk (∀ X, Below w.heap.size w X → PvD X X.heap.size p) := ⟨fun X hX => h.later hX⟩
 have HS := Hk.mk hs
 clear e1 h hs
 go_enter Tryz.func21, Tryz.ntmps21
 go_upto_region 1 with fail
 generalize ((w.alloc (.cells #[.int .i64 p.i, .int .i64 p.n, .int .i64 p.d, .int .i64 p.t, .int .i64 p.s, .slice p.ma p.mn p.mc, .slice p.la p.ln p.lc, .slice p.ha p.hn p.hc, .slice p.aa p.an p.ac, .slice p.xa p.xn p.xc, .bool p.b] 26)).alloc (.cells #[.int .i64 0, .int .i64 0, .int .i64 0, .int .i64 0, .int .i64 0, .slice none 0 0, .slice none 0 0, .slice none 0 0, .slice none 0 0, .slice none 0 0, .bool false] 26)) = V at *
 have y0 := HPB.out.bk.c 0; have y1 := HPB.out.bk.c 1; have y2 := HPB.out.bk.c 2; have y3 := HPB.out.bk.c 3; have y4 := HPB.out.bk.c 4; have y5 := HPB.out.bk.c 5; have y6 := HPB.out.bk.c 6; have y7 := HPB.out.bk.c 7; have y8 := HPB.out.bk.c 8; have y9 := HPB.out.bk.c 9; have y10 := HPB.out.bk.c 10; have yl := HPB.out.lt; simp at y0 y1 y2 y3 y4 y5 y6 y7 y8 y9 y10
 go_upto_region 6 with (first | (go_at_call 14; (with_reducible refine (pcheck_as true 0 p _ (HDP.out _ HBW.out) HS.out ⟨⟨fun _ => rfl, fun _ => HOK.out⟩⟩ ⟨rfl⟩).mono ?_); rintro e z1 ⟨rfl, hb⟩; have HP9 := Hk.mk (HPB.out.below hb); have HR9 := Hk.mk (HRB.out.below hb); have HB9 := Hk.mk (HBW.out.trans (hb.mono HBW.out.size)); clear hb HPB HRB HBW; clear y0 y1 y2 y3 y4 y5 y6 y7 y8 y9 y10 yl; have HPB := HP9; have HRB := HR9; have HBW := HB9; clear HP9 HR9 HB9; have y0 := HPB.out.bk.c 0; have y1 := HPB.out.bk.c 1; have y2 := HPB.out.bk.c 2; have y3 := HPB.out.bk.c 3; have y4 := HPB.out.bk.c 4; have y5 := HPB.out.bk.c 5; have y6 := HPB.out.bk.c 6; have y7 := HPB.out.bk.c 7; have y8 := HPB.out.bk.c 8; have y9 := HPB.out.bk.c 9; have y10 := HPB.out.bk.c 10; have yl := HPB.out.lt; simp at y0 y1 y2 y3 y4 y5 y6 y7 y8 y9 y10) | (go_at_call 60; (with_reducible refine (ready_as true p _ (HDP.out _ HBW.out) HS.out HN0.out ⟨⟨fun _ => rfl, fun _ => HNP.out⟩⟩).mono ?_); rintro e z2 ⟨rfl, hb⟩; have HP9 := Hk.mk (HPB.out.below hb); have HR9 := Hk.mk (HRB.out.below hb); have HB9 := Hk.mk (HBW.out.trans (hb.mono HBW.out.size)); clear hb HPB HRB HBW; clear y0 y1 y2 y3 y4 y5 y6 y7 y8 y9 y10 yl; have HPB := HP9; have HRB := HR9; have HBW := HB9; clear HP9 HR9 HB9; have y0 := HPB.out.bk.c 0; have y1 := HPB.out.bk.c 1; have y2 := HPB.out.bk.c 2; have y3 := HPB.out.bk.c 3; have y4 := HPB.out.bk.c 4; have y5 := HPB.out.bk.c 5; have y6 := HPB.out.bk.c 6; have y7 := HPB.out.bk.c 7; have y8 := HPB.out.bk.c 8; have y9 := HPB.out.bk.c 9; have y10 := HPB.out.bk.c 10; have yl := HPB.out.lt; simp at y0 y1 y2 y3 y4 y5 y6 y7 y8 y9 y10))
 go_upto_region 7 with (go_at_call 55; (with_reducible refine (cpp_any p _ (HDP.out _ HBW.out) HS.out).mono ?_); rintro e z3 ⟨u, rfl, ho, hab, g1, g2, g3, g4, g5, hb⟩; have HO3 := Hk.mk (ho.weak HBW.out.size); have HAU := Hk.mk hab; have HSU := Hk.mk (HS.out.like (HDP.out _ HBW.out) ho.d hab g1 g2 g3 g4 g5); have HP3 := Hk.mk (HPB.out.below hb); have HR3 := Hk.mk (HRB.out.below hb); have HB3 := Hk.mk (HBW.out.trans (hb.mono HBW.out.size)); have HXN : Hk (u.xn = p.xn) := ⟨g5⟩; clear ho hab g1 g2 g3 g4 g5 hb; have HPK := Hk.mk HP3.out.bk; have m0 := HPK.out.c 0; have k0 := HPK.out.f 0; have m1 := HPK.out.c 1; have k1 := HPK.out.f 1; have m2 := HPK.out.c 2; have k2 := HPK.out.f 2; have m3 := HPK.out.c 3; have k3 := HPK.out.f 3; have m4 := HPK.out.c 4; have k4 := HPK.out.f 4; have m5 := HPK.out.c 5; have k5 := HPK.out.f 5; have m6 := HPK.out.c 6; have k6 := HPK.out.f 6; have m7 := HPK.out.c 7; have k7 := HPK.out.f 7; have m8 := HPK.out.c 8; have k8 := HPK.out.f 8; have m9 := HPK.out.c 9; have k9 := HPK.out.f 9; have m10 := HPK.out.c 10; have k10 := HPK.out.f 10; simp at m0 m1 m2 m3 m4 m5 m6 m7 m8 m9 m10)
 clear m0 m1 m2 m3 m4 m5 m6 m7 m8 m9 m10 k0 k1 k2 k3 k4 k5 k6 k7 k8 k9 k10
 have HP4 : Hk (Bx ((((((((((((World.setCell z3 ⟨w.heap.size, 0, none⟩ (.int .i64 u.i)).setCell ⟨w.heap.size, 1, none⟩ (.int .i64 u.n)).setCell ⟨w.heap.size, 2, none⟩ (.int .i64 u.d)).setCell ⟨w.heap.size, 3, none⟩ (.int .i64 u.t)).setCell ⟨w.heap.size, 4, none⟩ (.int .i64 u.s)).setCell ⟨w.heap.size, 5, none⟩ (.slice u.ma u.mn u.mc)).setCell ⟨w.heap.size, 6, none⟩ (.slice u.la u.ln u.lc)).setCell ⟨w.heap.size, 7, none⟩ (.slice u.ha u.hn u.hc)).setCell ⟨w.heap.size, 8, none⟩ (.slice u.aa u.an u.ac)).setCell ⟨w.heap.size, 9, none⟩ (.slice u.xa u.xn u.xc)).setCell ⟨w.heap.size, 10, none⟩ (.bool u.b))) w.heap.size u) := ⟨HP3.out.put u⟩
 have HR4 : Hk (Bx ((((((((((((World.setCell z3 ⟨w.heap.size, 0, none⟩ (.int .i64 u.i)).setCell ⟨w.heap.size, 1, none⟩ (.int .i64 u.n)).setCell ⟨w.heap.size, 2, none⟩ (.int .i64 u.d)).setCell ⟨w.heap.size, 3, none⟩ (.int .i64 u.t)).setCell ⟨w.heap.size, 4, none⟩ (.int .i64 u.s)).setCell ⟨w.heap.size, 5, none⟩ (.slice u.ma u.mn u.mc)).setCell ⟨w.heap.size, 6, none⟩ (.slice u.la u.ln u.lc)).setCell ⟨w.heap.size, 7, none⟩ (.slice u.ha u.hn u.hc)).setCell ⟨w.heap.size, 8, none⟩ (.slice u.aa u.an u.ac)).setCell ⟨w.heap.size, 9, none⟩ (.slice u.xa u.xn u.xc)).setCell ⟨w.heap.size, 10, none⟩ (.bool u.b))) (w.heap.size + 1) nilV) := ⟨HR3.out.fr (fr_put u) (by omega)⟩
 have HK4 := Hk.mk (Kt.put HP3.out (Nat.le_refl _) u)
 have HO4 : Hk (PvO ((((((((((((World.setCell z3 ⟨w.heap.size, 0, none⟩ (.int .i64 u.i)).setCell ⟨w.heap.size, 1, none⟩ (.int .i64 u.n)).setCell ⟨w.heap.size, 2, none⟩ (.int .i64 u.d)).setCell ⟨w.heap.size, 3, none⟩ (.int .i64 u.t)).setCell ⟨w.heap.size, 4, none⟩ (.int .i64 u.s)).setCell ⟨w.heap.size, 5, none⟩ (.slice u.ma u.mn u.mc)).setCell ⟨w.heap.size, 6, none⟩ (.slice u.la u.ln u.lc)).setCell ⟨w.heap.size, 7, none⟩ (.slice u.ha u.hn u.hc)).setCell ⟨w.heap.size, 8, none⟩ (.slice u.aa u.an u.ac)).setCell ⟨w.heap.size, 9, none⟩ (.slice u.xa u.xn u.xc)).setCell ⟨w.heap.size, 10, none⟩ (.bool u.b))) w.heap.size u) := ⟨HK4.out.pvo HO3.out⟩
 have HB4 : Hk (Below w.heap.size w ((((((((((((World.setCell z3 ⟨w.heap.size, 0, none⟩ (.int .i64 u.i)).setCell ⟨w.heap.size, 1, none⟩ (.int .i64 u.n)).setCell ⟨w.heap.size, 2, none⟩ (.int .i64 u.d)).setCell ⟨w.heap.size, 3, none⟩ (.int .i64 u.t)).setCell ⟨w.heap.size, 4, none⟩ (.int .i64 u.s)).setCell ⟨w.heap.size, 5, none⟩ (.slice u.ma u.mn u.mc)).setCell ⟨w.heap.size, 6, none⟩ (.slice u.la u.ln u.lc)).setCell ⟨w.heap.size, 7, none⟩ (.slice u.ha u.hn u.hc)).setCell ⟨w.heap.size, 8, none⟩ (.slice u.aa u.an u.ac)).setCell ⟨w.heap.size, 9, none⟩ (.slice u.xa u.xn u.xc)).setCell ⟨w.heap.size, 10, none⟩ (.bool u.b)))) := ⟨HB3.out.trans HK4.out.bl⟩
 have HL4 : Hk (w.heap.size ≤ (((((((((((((World.setCell z3 ⟨w.heap.size, 0, none⟩ (.int .i64 u.i)).setCell ⟨w.heap.size, 1, none⟩ (.int .i64 u.n)).setCell ⟨w.heap.size, 2, none⟩ (.int .i64 u.d)).setCell ⟨w.heap.size, 3, none⟩ (.int .i64 u.t)).setCell ⟨w.heap.size, 4, none⟩ (.int .i64 u.s)).setCell ⟨w.heap.size, 5, none⟩ (.slice u.ma u.mn u.mc)).setCell ⟨w.heap.size, 6, none⟩ (.slice u.la u.ln u.lc)).setCell ⟨w.heap.size, 7, none⟩ (.slice u.ha u.hn u.hc)).setCell ⟨w.heap.size, 8, none⟩ (.slice u.aa u.an u.ac)).setCell ⟨w.heap.size, 9, none⟩ (.slice u.xa u.xn u.xc)).setCell ⟨w.heap.size, 10, none⟩ (.bool u.b)))).heap.size) := ⟨HB4.out.size⟩
 have HORD : Hk (Hk (ordN none (abI u.ll) = true)) := ⟨⟨by have h1 := HOK.out.w.o; rw [← HAU.out] at h1; exact h1⟩⟩
 clear HPK HO3 HP3 HR3 HK4 HB3 HPB HRB HBW
 clear y0 y1 y2 y3 y4 y5 y6 y7 y8 y9 y10 yl
 generalize ((((((((((((World.setCell z3 ⟨w.heap.size, 0, none⟩ (.int .i64 u.i)).setCell ⟨w.heap.size, 1, none⟩ (.int .i64 u.n)).setCell ⟨w.heap.size, 2, none⟩ (.int .i64 u.d)).setCell ⟨w.heap.size, 3, none⟩ (.int .i64 u.t)).setCell ⟨w.heap.size, 4, none⟩ (.int .i64 u.s)).setCell ⟨w.heap.size, 5, none⟩ (.slice u.ma u.mn u.mc)).setCell ⟨w.heap.size, 6, none⟩ (.slice u.la u.ln u.lc)).setCell ⟨w.heap.size, 7, none⟩ (.slice u.ha u.hn u.hc)).setCell ⟨w.heap.size, 8, none⟩ (.slice u.aa u.an u.ac)).setCell ⟨w.heap.size, 9, none⟩ (.slice u.xa u.xn u.xc)).setCell ⟨w.heap.size, 10, none⟩ (.bool u.b))) = V4 at *
 have d0 := HP4.out.bk.c 0; have d1 := HP4.out.bk.c 1; have d2 := HP4.out.bk.c 2; have d3 := HP4.out.bk.c 3; have d4 := HP4.out.bk.c 4; have d5 := HP4.out.bk.c 5; have d6 := HP4.out.bk.c 6; have d7 := HP4.out.bk.c 7; have d8 := HP4.out.bk.c 8; have d9 := HP4.out.bk.c 9; have d10 := HP4.out.bk.c 10; have dl := HP4.out.lt; have g3 := HP4.out.bk.f 3; have g6 := HP4.out.bk.f 6; have g9 := HP4.out.bk.f 9; simp at d0 d1 d2 d3 d4 d5 d6 d7 d8 d9 d10
 have HRP : Hk (¬ (w.heap.size + 1) = w.heap.size) := ⟨by omega⟩
 go_upto_region 8 with (go_at_call 61; (with_reducible refine (take_yes u.t u.la u.ln u.lc u.ll _ HO4.out.d.l HSU.out.l HORD.out).mono ?_); rintro e z4 ⟨s1, n1, e1, s2, n2, e2, M1, M2, rfl, htk, ha1, ha2, hb⟩; have HMB := Hk.mk (htk.b.weak HL4.out); have HA2 := Hk.mk ha2; have HQ4 := Hk.mk (HP4.out.below hb); have HR4b := Hk.mk (HR4.out.below hb); have HO4b := Hk.mk (HO4.out.below hb); have HB4b := Hk.mk (HB4.out.trans (hb.mono HB4.out.size)); have HSM := Hk.mk (smI_of htk.b.d HO4.out.d.l HSU.out.l (fun x hx => by rw [ha2] at hx; exact (List.mem_filter.1 hx).1) (by have h1 := congrArg List.length ha2; have h2 := List.length_filter_le (fun x : In => !(x.t == u.t)) (abI u.ll); rw [abI_len] at h1; rw [abI_len] at h2; omega)); clear htk ha1 ha2 hb; clear d0 d1 d2 d3 d4 d5 d6 d7 d8 d9 d10 dl g3 g6 g9; have d0 := HQ4.out.bk.c 0; have d1 := HQ4.out.bk.c 1; have d2 := HQ4.out.bk.c 2; have d3 := HQ4.out.bk.c 3; have d4 := HQ4.out.bk.c 4; have d5 := HQ4.out.bk.c 5; have d6 := HQ4.out.bk.c 6; have d7 := HQ4.out.bk.c 7; have d8 := HQ4.out.bk.c 8; have d9 := HQ4.out.bk.c 9; have d10 := HQ4.out.bk.c 10; have dl := HQ4.out.lt; have g3 := HQ4.out.bk.f 3; have g6 := HQ4.out.bk.f 6; have g9 := HQ4.out.bk.f 9; simp at d0 d1 d2 d3 d4 d5 d6 d7 d8 d9 d10)
 have HA3 : Hk (abI M2 = (abI p.ll).filter (fun x => !(x.t == p.t))) := ⟨by obtain ⟨-, -, -, b4, -, -, b7, -⟩ := (ab_iff u p).1 HAU.out; rw [← b4, ← b7]; exact HA2.out⟩
 obtain ⟨u5, hu5⟩ : ∃ x : Pv, x = { u with la := s2, ln := n2, lc := e2, ll := M2 } := ⟨_, rfl⟩
 have HQ5 : Hk (Bx (z4.setCell ⟨w.heap.size, 6, none⟩ (.slice s2 n2 e2)) w.heap.size u5) := ⟨by rw [hu5]; exact HQ4.out.set 6 _ _ rfl⟩
 have HR5 : Hk (Bx (z4.setCell ⟨w.heap.size, 6, none⟩ (.slice s2 n2 e2)) (w.heap.size + 1) nilV) := ⟨HR4b.out.oth HRP.out _ _⟩
 have HK5 := Hk.mk (Kt.set (Nat.le_refl _) HQ4.out.bl 6 (.slice s2 n2 e2))
 have HO5 : Hk (PvO (z4.setCell ⟨w.heap.size, 6, none⟩ (.slice s2 n2 e2)) w.heap.size u5) := ⟨by rw [hu5]; exact HK5.out.pvo (HO4b.out.setl HMB.out)⟩
 have HB5 := Hk.mk (HB4b.out.trans (HK5.out.bl.mono (Nat.le_refl _)))
 have HL5 : Hk (w.heap.size ≤ (z4.setCell ⟨w.heap.size, 6, none⟩ (.slice s2 n2 e2)).heap.size) := ⟨Nat.le_trans (Nat.le_refl _) (Nat.le_of_lt HQ5.out.lt)⟩
 have HU5 := Hk.mk hu5
 clear hu5 HQ4 HR4 HR4b HO4 HO4b HMB HK5 HB4 HB4b HP4 HL4
 clear d0 d1 d2 d3 d4 d5 d6 d7 d8 d9 d10 dl g3 g6 g9
 generalize (z4.setCell ⟨w.heap.size, 6, none⟩ (.slice s2 n2 e2)) = V5 at *
 have HT5 : Hk (u5.t = p.t) := ⟨by rw [HU5.out]; obtain ⟨-, -, -, b4, -⟩ := (ab_iff u p).1 HAU.out; exact b4⟩
 have gt : IntKind.i64.wrap (u5.t + 1) = u5.t + 1 := wr27 (by have := HT5.out; have := HT0.out; omega) (by have := HT5.out; have := HNP.out.1; omega)
 have d0 := HQ5.out.bk.c 0; have d1 := HQ5.out.bk.c 1; have d2 := HQ5.out.bk.c 2; have d3 := HQ5.out.bk.c 3; have d4 := HQ5.out.bk.c 4; have d5 := HQ5.out.bk.c 5; have d6 := HQ5.out.bk.c 6; have d7 := HQ5.out.bk.c 7; have d8 := HQ5.out.bk.c 8; have d9 := HQ5.out.bk.c 9; have d10 := HQ5.out.bk.c 10; have dl := HQ5.out.lt; have g3 := HQ5.out.bk.f 3; have g6 := HQ5.out.bk.f 6; have g9 := HQ5.out.bk.f 9; simp at d0 d1 d2 d3 d4 d5 d6 d7 d8 d9 d10
 go_upto_region 9 with fail
 obtain ⟨u4, hu4⟩ : ∃ x : Pv, x = { u5 with t := u5.t + 1 } := ⟨_, rfl⟩
 have HQ6 : Hk (Bx (V5.setCell ⟨w.heap.size, 3, none⟩ (.int .i64 (u5.t + 1))) w.heap.size u4) := ⟨by rw [hu4]; exact HQ5.out.set 3 _ _ rfl⟩
 have HR6 : Hk (Bx (V5.setCell ⟨w.heap.size, 3, none⟩ (.int .i64 (u5.t + 1))) (w.heap.size + 1) nilV) := ⟨HR5.out.oth HRP.out _ _⟩
 have HK6 := Hk.mk (Kt.set (Nat.le_refl _) HQ5.out.bl 3 (.int .i64 (u5.t + 1)))
 have HO6 : Hk (PvO (V5.setCell ⟨w.heap.size, 3, none⟩ (.int .i64 (u5.t + 1))) w.heap.size u4) := ⟨by rw [hu4]; exact HK6.out.pvo (HO5.out.sett _)⟩
 have HB6 := Hk.mk (HB5.out.trans (HK6.out.bl.mono (Nat.le_refl _)))
 have HL6 : Hk (w.heap.size ≤ (V5.setCell ⟨w.heap.size, 3, none⟩ (.int .i64 (u5.t + 1))).heap.size) := ⟨Nat.le_trans HL5.out HK6.out.bl.size⟩
 have HU4 := Hk.mk hu4
 have hx4 : u4.xn ≤ 16 := by have h1 := HX16.out; have h2 := HXN.out; rw [hu4, HU5.out]; show u.xn ≤ 16; omega
 clear hu4 HQ5 HR5 HO5 HK6 HB5 HL5 gt
 clear d0 d1 d2 d3 d4 d5 d6 d7 d8 d9 d10 dl g3 g6 g9
 generalize (V5.setCell ⟨w.heap.size, 3, none⟩ (.int .i64 (u5.t + 1))) = V6 at *
 have HXA : Hk (World.ownsRow (V6.alloc (.cells #[.int .u64 k] 41)) w.heap.size 41 1 (.slice u4.xa u4.xn u4.xc) u4.xn (flt shU u4.xl)) := ⟨(HO6.out.x.alloc _).row⟩
 have HBL : Hk (w.heap.size ≤ (V6.alloc (.cells #[.int .u64 k] 41)).heap.size) := ⟨Nat.le_trans HL6.out (by simp)⟩
 have d0 := HQ6.out.bk.c 0; have d1 := HQ6.out.bk.c 1; have d2 := HQ6.out.bk.c 2; have d3 := HQ6.out.bk.c 3; have d4 := HQ6.out.bk.c 4; have d5 := HQ6.out.bk.c 5; have d6 := HQ6.out.bk.c 6; have d7 := HQ6.out.bk.c 7; have d8 := HQ6.out.bk.c 8; have d9 := HQ6.out.bk.c 9; have d10 := HQ6.out.bk.c 10; have dl := HQ6.out.lt; have g3 := HQ6.out.bk.f 3; have g6 := HQ6.out.bk.f 6; have g9 := HQ6.out.bk.f 9; simp at d0 d1 d2 d3 d4 d5 d6 d7 d8 d9 d10
 go_upto_region 10 with (at_builtin; go_must (refine wpList_append_own_at _ rfl _ _ 24 rfl w.heap.size 41 ii (.int .u64 0) 1 8 Tryz.underlying24 hii hiz0 hiz1 hiz2 rfl (by decide) _ u4.xn (flt shU u4.xl) rfl HXA.out ⟨V6.heap.size, 0, none⟩ 1 1 [.int .u64 k] rfl rfl (one_new V6 _ _) (oneU_it _) (by unfold maxLen; omega) (by omega) HBL.out ?_); intro v z hown hgrow hnil hat; obtain ⟨g, c9, rfl, hcc, -⟩ := row_slice hown (by omega); have HKU := Hk.mk (Kt.grown HBL.out HXA.out hgrow); have HOX : Hk (Ow shU 41 z w.heap.size (.slice (some ⟨g, 0, none⟩) (u4.xn + 1) c9) (u4.xn + 1) (u4.xl ++ [k])) := ⟨⟨by rw [List.length_append, HO6.out.x.len]; rfl, by rw [flt_app]; exact hown⟩⟩; have HCC := Hk.mk hcc; clear hown hgrow hnil hat hcc; have HQ7 := Hk.mk ((HQ6.out.al (.cells #[.int .u64 k] 41)).kt HKU.out (by decide)); clear d0 d1 d2 d3 d4 d5 d6 d7 d8 d9 d10 dl g3 g6 g9; have d0 := HQ7.out.bk.c 0; have d1 := HQ7.out.bk.c 1; have d2 := HQ7.out.bk.c 2; have d3 := HQ7.out.bk.c 3; have d4 := HQ7.out.bk.c 4; have d5 := HQ7.out.bk.c 5; have d6 := HQ7.out.bk.c 6; have d7 := HQ7.out.bk.c 7; have d8 := HQ7.out.bk.c 8; have d9 := HQ7.out.bk.c 9; have d10 := HQ7.out.bk.c 10; have dl := HQ7.out.lt; have g3 := HQ7.out.bk.f 3; have g6 := HQ7.out.bk.f 6; have g9 := HQ7.out.bk.f 9; simp at d0 d1 d2 d3 d4 d5 d6 d7 d8 d9 d10)
 obtain ⟨u6, hu6⟩ : ∃ x : Pv, x = { u4 with xa := some ⟨g, 0, none⟩, xn := u4.xn + 1, xc := c9, xl := u4.xl ++ [k] } := ⟨_, rfl⟩
 have HQ8 : Hk (Bx (z.setCell ⟨w.heap.size, 9, none⟩ (.slice (some ⟨g, 0, none⟩) (u4.xn + 1) c9)) w.heap.size u6) := ⟨by rw [hu6]; exact HQ7.out.set 9 _ _ rfl⟩
 have HR8 : Hk (Bx (z.setCell ⟨w.heap.size, 9, none⟩ (.slice (some ⟨g, 0, none⟩) (u4.xn + 1) c9)) (w.heap.size + 1) nilV) := ⟨((HR6.out.al (.cells #[.int .u64 k] 41)).kt HKU.out (by decide)).oth HRP.out _ _⟩
 have HK8 := Hk.mk (Kt.set (Nat.le_refl _) HQ7.out.bl 9 (.slice (some ⟨g, 0, none⟩) (u4.xn + 1) c9))
 have HO8 : Hk (PvO (z.setCell ⟨w.heap.size, 9, none⟩ (.slice (some ⟨g, 0, none⟩) (u4.xn + 1) c9)) w.heap.size u6) := ⟨by rw [hu6]; exact HK8.out.pvo (HKU.out.pvu (HO6.out.below (below_al _ _)) HOX.out)⟩
 have HB8 := Hk.mk ((kw_al HB6.out (Nat.le_refl _) (.cells #[.int .u64 k] 41)).trans ((HKU.out.bl.trans HK8.out.bl).mono (Nat.le_refl _)))
 have HU6 := Hk.mk hu6
 have hx6 : u6.xn = u4.xn + 1 := by rw [hu6]
 clear hu6 HQ7 HQ6 HR6 HK8 HO6 HB6 HL6 HXA HBL HKU HOX
 clear d0 d1 d2 d3 d4 d5 d6 d7 d8 d9 d10 dl g3 g6 g9
 generalize (z.setCell ⟨w.heap.size, 9, none⟩ (.slice (some ⟨g, 0, none⟩) (u4.xn + 1) c9)) = V8 at *
 have d0 := HQ8.out.bk.c 0; have d1 := HQ8.out.bk.c 1; have d2 := HQ8.out.bk.c 2; have d3 := HQ8.out.bk.c 3; have d4 := HQ8.out.bk.c 4; have d5 := HQ8.out.bk.c 5; have d6 := HQ8.out.bk.c 6; have d7 := HQ8.out.bk.c 7; have d8 := HQ8.out.bk.c 8; have d9 := HQ8.out.bk.c 9; have d10 := HQ8.out.bk.c 10; have dl := HQ8.out.lt; have g3 := HQ8.out.bk.f 3; have g6 := HQ8.out.bk.f 6; have g9 := HQ8.out.bk.f 9; simp at d0 d1 d2 d3 d4 d5 d6 d7 d8 d9 d10
 have r0 := HR8.out.bk.c 0; have f0 := HR8.out.bk.f 0; have r1 := HR8.out.bk.c 1; have f1 := HR8.out.bk.f 1; have r2 := HR8.out.bk.c 2; have f2 := HR8.out.bk.f 2; have r3 := HR8.out.bk.c 3; have f3 := HR8.out.bk.f 3; have r4 := HR8.out.bk.c 4; have f4 := HR8.out.bk.f 4; have r5 := HR8.out.bk.c 5; have f5 := HR8.out.bk.f 5; have r6 := HR8.out.bk.c 6; have f6 := HR8.out.bk.f 6; have r7 := HR8.out.bk.c 7; have f7 := HR8.out.bk.f 7; have r8 := HR8.out.bk.c 8; have f8 := HR8.out.bk.f 8; have r9 := HR8.out.bk.c 9; have f9 := HR8.out.bk.f 9; have r10 := HR8.out.bk.c 10; have f10 := HR8.out.bk.f 10; have rl := HR8.out.lt; simp at r0 r1 r2 r3 r4 r5 r6 r7 r8 r9 r10
 rw [← hx6]
 rw [← hx6] at HCC
 have HX6 : Hk (u6.xn = u.xn + 1) := ⟨by rw [hx6, HU4.out, HU5.out]⟩
 have HPX : Hk (p.ab.x.length = u.xn) := ⟨by have h1 := (HDP.out w (Below.refl _ _)).x.len; rw [HXN.out]; exact h1⟩
 by_cases hlt : u6.xn ≤ 16
 ·have d16 : decide ((16 : Int) < (u6.xn : Int)) = false := by rw [decide_eq_false_iff_not]; omega
  have HLT := Hk.mk hlt
  have HFB := Hk.mk ((Kt.put (B := w.heap.size) HR8.out (by omega) u6))
  clear hlt hx4 hx6
  go_wp2
  refine bodyPost_ret (v := .tuple #[.agg #[.int .i64 u6.i, .int .i64 u6.n, .int .i64 u6.d, .int .i64 u6.t, .int .i64 u6.s, .slice u6.ma u6.mn u6.mc, .slice u6.la u6.ln u6.lc, .slice u6.ha u6.hn u6.hc, .slice u6.aa u6.an u6.ac, .slice u6.xa u6.xn u6.xc, .bool u6.b], .int .i64 0]) (by simp [results, Tryz.results21, go_sem, r0, r1, r2, r3, r4, r5, r6, r7, r8, r9, r10, f0, f1, f2, f3, f4, f5, f6, f7, f8, f9, f10]) rfl ⟨u6, rfl, HFB.out.pvo HO8.out, ?_, ?_, HB8.out.trans HFB.out.bl⟩
  ·refine run_ab HAU.out (by rw [HU6.out, HU4.out, HU5.out]; rfl) HA3.out ?_
   have h1 := HPX.out
   have h2 := HLT.out
   have h5 := HX6.out
   rw [if_neg (by omega)]
   obtain ⟨-, -, -, -, -, -, -, -, -, b10, -⟩ := (ab_iff u p).1 HAU.out
   show u.xl ++ [k] = p.xl ++ [k]
   rw [b10]
  ·have h2 := HLT.out
   have h3 := HU6.out
   rw [HU4.out, HU5.out] at h3
   rw [h3] at h2 ⊢
   exact ⟨HSU.out.m, HSM.out, HSU.out.h, HSU.out.a, by show u.xn + 1 ≤ 1048576; have : u.xn + 1 ≤ 16 := h2; omega⟩
 ·have d16 : decide ((16 : Int) < (u6.xn : Int)) = true := by rw [decide_eq_true_iff]; omega
  have HLT : Hk (u6.xn = 17) := ⟨by omega⟩
  have hxa : u6.xa = some ⟨g, 0, none⟩ := by rw [HU6.out]
  have hxc : u6.xc = c9 := by rw [HU6.out]
  rw [hxa, hxc] at d9
  have HOX8 : Hk (Ow shU 41 V8 w.heap.size (.slice (some ⟨g, 0, none⟩) u6.xn c9) u6.xn u6.xl) := ⟨by rw [← hxa, ← hxc]; exact HO8.out.x⟩
  clear hlt hx4 hx6
  clear r0 r1 r2 r3 r4 r5 r6 r7 r8 r9 r10 f0 f1 f2 f3 f4 f5 f6 f7 f8 f9 f10 rl
  go_upto_region 12 with (go_at_call 62; (with_reducible refine (delU_first w.heap.size g u6.xn c9 u6.xl _ HOX8.out (by have := HLT.out; omega) (by have := HLT.out; omega)).mono ?_); rintro e z7 ⟨rfl, hox, hb, hfr⟩; have HKG := Hk.mk (Kt.frow HOX8.out hfr); have HOXG := Hk.mk hox; have HQ7 := Hk.mk (HQ8.out.kt HKG.out (by decide)); clear hox hb hfr; clear d0 d1 d2 d3 d4 d5 d6 d7 d8 d9 d10 dl g3 g6 g9; have d0 := HQ7.out.bk.c 0; have d1 := HQ7.out.bk.c 1; have d2 := HQ7.out.bk.c 2; have d3 := HQ7.out.bk.c 3; have d4 := HQ7.out.bk.c 4; have d5 := HQ7.out.bk.c 5; have d6 := HQ7.out.bk.c 6; have d7 := HQ7.out.bk.c 7; have d8 := HQ7.out.bk.c 8; have d9 := HQ7.out.bk.c 9; have d10 := HQ7.out.bk.c 10; have dl := HQ7.out.lt; have g3 := HQ7.out.bk.f 3; have g6 := HQ7.out.bk.f 6; have g9 := HQ7.out.bk.f 9; simp at d0 d1 d2 d3 d4 d5 d6 d7 d8 d9 d10)
  obtain ⟨u9, hu9⟩ : ∃ x : Pv, x = { u6 with xa := some ⟨g, 0, none⟩, xn := u6.xn - 1, xc := c9, xl := u6.xl.drop 1 } := ⟨_, rfl⟩
  have HQ9 : Hk (Bx (z7.setCell ⟨w.heap.size, 9, none⟩ (.slice (some ⟨g, 0, none⟩) (u6.xn - 1) c9)) w.heap.size u9) := ⟨by rw [hu9]; exact HQ7.out.set 9 _ _ rfl⟩
  have HR9 : Hk (Bx (z7.setCell ⟨w.heap.size, 9, none⟩ (.slice (some ⟨g, 0, none⟩) (u6.xn - 1) c9)) (w.heap.size + 1) nilV) := ⟨(HR8.out.kt HKG.out (by decide)).oth HRP.out _ _⟩
  have HK9 := Hk.mk (Kt.set (Nat.le_refl _) HQ7.out.bl 9 (.slice (some ⟨g, 0, none⟩) (u6.xn - 1) c9))
  have HO9 : Hk (PvO (z7.setCell ⟨w.heap.size, 9, none⟩ (.slice (some ⟨g, 0, none⟩) (u6.xn - 1) c9)) w.heap.size u9) := ⟨by rw [hu9]; exact HK9.out.pvo (HKG.out.pvu HO8.out HOXG.out)⟩
  have HB9 := Hk.mk (HB8.out.trans (HKG.out.bl.trans HK9.out.bl))
  have HU9 := Hk.mk hu9
  clear hu9 HQ8 HQ7 HR8 HK9 HO8 HB8 hxa hxc HKG HOXG HOX8
  clear d0 d1 d2 d3 d4 d5 d6 d7 d8 d9 d10 dl g3 g6 g9
  generalize (z7.setCell ⟨w.heap.size, 9, none⟩ (.slice (some ⟨g, 0, none⟩) (u6.xn - 1) c9)) = V9 at *
  have d0 := HQ9.out.bk.c 0; have d1 := HQ9.out.bk.c 1; have d2 := HQ9.out.bk.c 2; have d3 := HQ9.out.bk.c 3; have d4 := HQ9.out.bk.c 4; have d5 := HQ9.out.bk.c 5; have d6 := HQ9.out.bk.c 6; have d7 := HQ9.out.bk.c 7; have d8 := HQ9.out.bk.c 8; have d9 := HQ9.out.bk.c 9; have d10 := HQ9.out.bk.c 10; have dl := HQ9.out.lt; have g3 := HQ9.out.bk.f 3; have g6 := HQ9.out.bk.f 6; have g9 := HQ9.out.bk.f 9; simp at d0 d1 d2 d3 d4 d5 d6 d7 d8 d9 d10
  have r0 := HR9.out.bk.c 0; have f0 := HR9.out.bk.f 0; have r1 := HR9.out.bk.c 1; have f1 := HR9.out.bk.f 1; have r2 := HR9.out.bk.c 2; have f2 := HR9.out.bk.f 2; have r3 := HR9.out.bk.c 3; have f3 := HR9.out.bk.f 3; have r4 := HR9.out.bk.c 4; have f4 := HR9.out.bk.f 4; have r5 := HR9.out.bk.c 5; have f5 := HR9.out.bk.f 5; have r6 := HR9.out.bk.c 6; have f6 := HR9.out.bk.f 6; have r7 := HR9.out.bk.c 7; have f7 := HR9.out.bk.f 7; have r8 := HR9.out.bk.c 8; have f8 := HR9.out.bk.f 8; have r9 := HR9.out.bk.c 9; have f9 := HR9.out.bk.f 9; have r10 := HR9.out.bk.c 10; have f10 := HR9.out.bk.f 10; have rl := HR9.out.lt; simp at r0 r1 r2 r3 r4 r5 r6 r7 r8 r9 r10
  have HFB := Hk.mk ((Kt.put (B := w.heap.size) HR9.out (by omega) u9))
  go_wp2
  refine bodyPost_ret (v := .tuple #[.agg #[.int .i64 u9.i, .int .i64 u9.n, .int .i64 u9.d, .int .i64 u9.t, .int .i64 u9.s, .slice u9.ma u9.mn u9.mc, .slice u9.la u9.ln u9.lc, .slice u9.ha u9.hn u9.hc, .slice u9.aa u9.an u9.ac, .slice u9.xa u9.xn u9.xc, .bool u9.b], .int .i64 0]) (by simp [results, Tryz.results21, go_sem, r0, r1, r2, r3, r4, r5, r6, r7, r8, r9, r10, f0, f1, f2, f3, f4, f5, f6, f7, f8, f9, f10]) rfl ⟨u9, rfl, HFB.out.pvo HO9.out, ?_, ?_, HB9.out.trans HFB.out.bl⟩
  ·refine run_ab HAU.out (by rw [HU9.out, HU6.out, HU4.out, HU5.out]; rfl) HA3.out ?_
   have h1 := HPX.out
   have h2 := HLT.out
   have h5 := HX6.out
   rw [if_pos (by omega)]
   obtain ⟨-, -, -, -, -, -, -, -, -, b10, -⟩ := (ab_iff u p).1 HAU.out
   show (u.xl ++ [k]).drop 1 = (p.xl ++ [k]).drop 1
   rw [b10]
  ·have h2 := HLT.out
   have h3 := HU6.out
   rw [HU4.out, HU5.out] at h3
   rw [HU9.out]
   rw [h3] at h2 ⊢
   exact ⟨HSU.out.m, HSM.out, HSU.out.h, HSU.out.a, by show u.xn + 1 - 1 ≤ 1048576; have : u.xn + 1 = 17 := h2; omega⟩
end Go.Proofs.YtdpblimhfmfbnaaGreat
