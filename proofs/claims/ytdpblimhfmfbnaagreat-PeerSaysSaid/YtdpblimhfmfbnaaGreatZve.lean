import Derived.Deep.QuietTactic
import Derived.BigQuiet
import Derived.Deep.RegionWith
import Derived.Deep.RegionHeld3
import Derived.Deep.DeepCutAuto
import Derived.Deep.DeepFit
import Derived.Outline
import Derived.Test.YtdpblimhfmfbnaaGreatZvc
import Derived.Test.YtdpblimhfmfbnaaGreatZvd
import Derived.WalkKit
import Derived.Below
import Derived.Test.YtdpblimhfmfbnaaGreatProg
import Derived.OwnWalk
import Derived.Test.YtdpblimhfmfbnaaGreatZvb
import Derived.Test.YtdpblimhfmfbnaaGreatZva
set_option linter.unusedVariables false
set_option linter.unusedSimpArgs false
namespace Go.Proofs.YtdpblimhfmfbnaaGreat
open Go.ChangeShapes Go.WideShapes Go.ChangeAt Go.RowKit Go.Deep
structure Cm where
 p : Int
 s : Int
 k : Int
 f : CF
structure Cv where
 p : Int
 s : Int
 k : Int
 n : Int
 a : Option Addr
 m : Nat
 c : Nat
 t : Int
 w : Int
 h : Int
 x : Int
 y : Int
 u : List Int
instance : Inhabited Cv := ⟨⟨0, 0, 0, 0, none, 0, 0, 0, 0, 0, 0, 0, []⟩⟩
def Cv.f (q : Cv) : CF := ⟨q.n, q.u, q.t, q.w, q.h, q.x, q.y⟩
def Cv.ab (q : Cv) : Cm := ⟨q.p, q.s, q.k, q.f⟩
def Cv.cs (q : Cv) : List Value := [.int .i64 q.p, .int .i64 q.s, .int .i64 q.k, .int .i64 q.n, .slice q.a q.m q.c, .int .i64 q.t, .int .i64 q.w, .int .i64 q.h, .int .i64 q.x, .int .i64 q.y]
def shC : Sh Cv := ⟨Cv.cs, 10, fun _ => rfl, fun x u hu => by
 simp [Cv.cs] at hu
 rcases hu with rfl | rfl | rfl | rfl | rfl | rfl | rfl | rfl | rfl | rfl <;> rfl⟩
structure Iv where
 t : Int
 p : Int
 a : Option Addr
 n : Nat
 c : Nat
 l : List Cv
instance : Inhabited Iv := ⟨⟨0, 0, none, 0, 0, []⟩⟩
def Iv.cs (i : Iv) : List Value := [.int .i64 i.t, .int .i64 i.p, .slice i.a i.n i.c]
def shI : Sh Iv := ⟨Iv.cs, 3, fun _ => rfl, fun x u hu => by
 simp [Iv.cs] at hu
 rcases hu with rfl | rfl | rfl <;> rfl⟩
structure In where
 t : Int
 p : Int
 l : List Cm
def Iv.ab (i : Iv) : In := ⟨i.t, i.p, i.l.map Cv.ab⟩
structure CmD (w : World) (B : Nat) (a : Option Addr) (n : Nat) (l : List Cv) : Prop where
 q : Qv shC w B a n l
 u : ∀ x, x ∈ l → Nq w B x.a x.m x.u
structure InD (w : World) (B : Nat) (a : Option Addr) (n : Nat) (l : List Iv) : Prop where
 q : Qv shI w B a n l
 u : ∀ x, x ∈ l → CmD w B x.a x.n x.l
section
variable {w w' : World} {B B' n : Nat} {a : Option Addr}
theorem CmD.below {l : List Cv} (h : CmD w B a n l) (hb : Below B' w w') (hB : B ≤ B') : CmD w' B a n l := ⟨h.q.below hb hB, fun x hx => (h.u x hx).below hb hB⟩
theorem CmD.mono {l : List Cv} (h : CmD w B a n l) (hB : B ≤ B') : CmD w B' a n l := ⟨h.q.mono hB, fun x hx => (h.u x hx).mono hB⟩
theorem CmD.drewN {l : List Cv} (h : CmD w B a n l) (m : Nat) : CmD (w.drewN m) B a n l := ⟨h.q.drewN m, fun x hx => (h.u x hx).drewN m⟩
theorem CmD.nil (w : World) (B : Nat) (a : Option Addr) : CmD w B a 0 [] := ⟨Qv.nil _ _ _, fun _ h => by cases h⟩
theorem CmD.later {l : List Cv} (h : CmD w w.heap.size a n l) (hb : Below w.heap.size w w') : CmD w' w'.heap.size a n l := (h.below hb (Nat.le_refl _)).mono hb.size
theorem InD.below {l : List Iv} (h : InD w B a n l) (hb : Below B' w w') (hB : B ≤ B') : InD w' B a n l := ⟨h.q.below hb hB, fun x hx => (h.u x hx).below hb hB⟩
theorem InD.mono {l : List Iv} (h : InD w B a n l) (hB : B ≤ B') : InD w B' a n l := ⟨h.q.mono hB, fun x hx => (h.u x hx).mono hB⟩
theorem InD.drewN {l : List Iv} (h : InD w B a n l) (m : Nat) : InD (w.drewN m) B a n l := ⟨h.q.drewN m, fun x hx => (h.u x hx).drewN m⟩
theorem InD.nil (w : World) (B : Nat) (a : Option Addr) : InD w B a 0 [] := ⟨Qv.nil _ _ _, fun _ h => by cases h⟩
theorem InD.later {l : List Iv} (h : InD w w.heap.size a n l) (hb : Below w.heap.size w w') : InD w' w'.heap.size a n l := (h.below hb (Nat.le_refl _)).mono hb.size
theorem CmD.head {l : List Cv} (h : CmD w B a n l) {k : Nat} (hk : k ≤ n) : CmD w B a k (l.take k) := ⟨h.q.head hk, fun x hx => h.u x (List.mem_of_mem_take hx)⟩
theorem InD.head {l : List Iv} (h : InD w B a n l) {k : Nat} (hk : k ≤ n) : InD w B a k (l.take k) := ⟨h.q.head hk, fun x hx => h.u x (List.mem_of_mem_take hx)⟩
theorem CmD.ten {l : List Cv} (h : CmD w B a n l) {k : Nat} (hk : k < n) : ∃ b off, a = some ⟨b, off, none⟩ ∧ b < B ∧ (w.cell? ⟨b, off + k * 10, none⟩ = some (.int .i64 (l.getD k default).p) ∧ w.cell? ⟨b, off + k * 10 + 1, none⟩ = some (.int .i64 (l.getD k default).s) ∧ w.cell? ⟨b, off + k * 10 + 2, none⟩ = some (.int .i64 (l.getD k default).k) ∧ w.cell? ⟨b, off + k * 10 + 3, none⟩ = some (.int .i64 (l.getD k default).n) ∧ w.cell? ⟨b, off + k * 10 + 4, none⟩ = some (.slice (l.getD k default).a (l.getD k default).m (l.getD k default).c) ∧ w.cell? ⟨b, off + k * 10 + 5, none⟩ = some (.int .i64 (l.getD k default).t) ∧ w.cell? ⟨b, off + k * 10 + 6, none⟩ = some (.int .i64 (l.getD k default).w) ∧ w.cell? ⟨b, off + k * 10 + 7, none⟩ = some (.int .i64 (l.getD k default).h) ∧ w.cell? ⟨b, off + k * 10 + 8, none⟩ = some (.int .i64 (l.getD k default).x) ∧ w.cell? ⟨b, off + k * 10 + 9, none⟩ = some (.int .i64 (l.getD k default).y)) ∧ Nq w B (l.getD k default).a (l.getD k default).m (l.getD k default).u := by
 obtain ⟨b, off, e, hlt, hc⟩ := h.q.rd (by omega)
 have hk' : k < l.length := by rw [h.q.len]; exact hk
 have hg : l.getD k default = l[k] := by simp [List.getD, hk']
 have c := hc k hk'
 rw [hg]
 exact ⟨b, off, e, hlt, ⟨c 0 (by decide), c 1 (by decide), c 2 (by decide), c 3 (by decide), c 4 (by decide), c 5 (by decide), c 6 (by decide), c 7 (by decide), c 8 (by decide), c 9 (by decide)⟩, h.u _ (List.getElem_mem hk')⟩
theorem InD.three {l : List Iv} (h : InD w B a n l) {k : Nat} (hk : k < n) : ∃ b off, a = some ⟨b, off, none⟩ ∧ b < B ∧ (w.cell? ⟨b, off + k * 3, none⟩ = some (.int .i64 (l.getD k default).t) ∧ w.cell? ⟨b, off + k * 3 + 1, none⟩ = some (.int .i64 (l.getD k default).p) ∧ w.cell? ⟨b, off + k * 3 + 2, none⟩ = some (.slice (l.getD k default).a (l.getD k default).n (l.getD k default).c)) ∧ CmD w B (l.getD k default).a (l.getD k default).n (l.getD k default).l := by
 obtain ⟨b, off, e, hlt, hc⟩ := h.q.rd (by omega)
 have hk' : k < l.length := by rw [h.q.len]; exact hk
 have hg : l.getD k default = l[k] := by simp [List.getD, hk']
 have c := hc k hk'
 rw [hg]
 exact ⟨b, off, e, hlt, ⟨c 0 (by decide), c 1 (by decide), c 2 (by decide)⟩, h.u _ (List.getElem_mem hk')⟩
end
def OwE (w : World) (base : Nat) (a : Option Addr) (m c : Nat) (u : List Int) : Prop := OwnI w base (.slice a m c) m u ∨ (m = 0 ∧ c = 0 ∧ u = [])
theorem OwE.nq {w : World} {base m c : Nat} {a : Option Addr} {u : List Int} (h : OwE w base a m c u) : Nq w w.heap.size a m u := by
 rcases h with h | ⟨rfl, rfl, rfl⟩
 ·obtain ⟨a', c', e, _, hq⟩ := h.nq
  injection e with e1 e2 e3
  subst e1
  exact hq
 ·exact Nq.nil _ _ _
theorem OwE.below {w w' : World} {base m c : Nat} {a : Option Addr} {u : List Int} (h : OwE w base a m c u) (hb : Below w.heap.size w w') : OwE w' base a m c u := h.imp (fun h => h.below hb) id
theorem OwE.weak {w : World} {base base' m c : Nat} {a : Option Addr} {u : List Int} (h : OwE w base a m c u) (hb : base' ≤ base) : OwE w base' a m c u := h.imp (fun h => h.weak hb) id
theorem OwE.drewN {w : World} {base m c : Nat} {a : Option Addr} {u : List Int} (h : OwE w base a m c u) (k : Nat) : OwE (w.drewN k) base a m c u := h
theorem OwE.fr {M : Nat → Prop} {w w' : World} {base m c : Nat} {a : Option Addr} {u : List Int} (h : OwE w base a m c u) (k : Fr M w w') (hm : ∀ b off, a = some ⟨b, off, none⟩ → base ≤ b → ¬ M b) : OwE w' base a m c u := by
 rcases h with h | h
 ·refine .inl (Fr.owni h k fun j hj => ?_)
  obtain ⟨hl, hl2⟩ := h.lt j hj
  rcases h.2.2 with ⟨e, _⟩ | ⟨g, cap, cur, e, hg, _⟩
  ·rw [e] at hj; cases hj
  ·injection e with e1 e2 e3
   subst e1
   simp [Value.ownBlock] at hj
   subst hj
   exact hm g 0 rfl hg
 ·exact .inr h
theorem Ow.typ {α : Type} {S : Sh α} {T : TypeId} {w : World} {base n : Nat} {v : Value} {l : List α} (h : Ow S T w base v n l) {j : Nat} (hj : v.ownBlock = some j) : ∃ cur fr, w.heap[j]? = some (.cells cur T fr) := by
 rcases h.row.2 with ⟨e, _⟩ | ⟨g, cap, cur, e, hg, hh, _⟩
 ·rw [e] at hj; cases hj
 ·rw [e] at hj
  simp [Value.ownBlock] at hj
  subst hj
  exact ⟨_, _, hh⟩
theorem OwnI.typ {w : World} {base n : Nat} {v : Value} {l : List Int} (h : OwnI w base v n l) {j : Nat} (hj : v.ownBlock = some j) : ∃ cur fr, w.heap[j]? = some (.cells cur 3 fr) := by
 rcases h.2.2 with ⟨e, _⟩ | ⟨g, cap, cur, e, hg, hh, _⟩
 ·rw [e] at hj; cases hj
 ·rw [e] at hj
  simp [Value.ownBlock] at hj
  subst hj
  exact ⟨_, _, hh⟩
theorem OwE.keep {M : Nat → Prop} {w w' : World} {base m c : Nat} {a : Option Addr} {u : List Int} (h : OwE w base a m c u) (k : Fr M w w') (hm : ∀ j cur fr, w.heap[j]? = some (.cells cur 3 fr) → ¬ M j) : OwE w' base a m c u := by
 rcases h with h | h
 ·exact .inl (Fr.owni h k fun j hj => by obtain ⟨cur, fr, e⟩ := h.typ hj; exact hm j cur fr e)
 ·exact .inr h
structure OwC (w : World) (base : Nat) (v : Value) (n : Nat) (l : List Cv) : Prop where
 o : Ow shC 95 w base v n l
 u : ∀ x, x ∈ l → OwE w base x.a x.m x.c x.u
section
variable {w w' : World} {base base' n : Nat} {v : Value} {l : List Cv}
theorem OwC.below (h : OwC w base v n l) (hb : Below w.heap.size w w') : OwC w' base v n l := ⟨h.o.below hb, fun x hx => (h.u x hx).below hb⟩
theorem OwC.weak (h : OwC w base v n l) (hb : base' ≤ base) : OwC w base' v n l := ⟨h.o.weak hb, fun x hx => (h.u x hx).weak hb⟩
theorem OwC.drewN (h : OwC w base v n l) (m : Nat) : OwC (w.drewN m) base v n l := ⟨h.o.drewN m, fun x hx => (h.u x hx).drewN m⟩
theorem OwC.nil (w : World) (base : Nat) : OwC w base (.slice none 0 0) 0 [] := ⟨Ow.nil _ _, fun _ h => by cases h⟩
theorem OwC.d {a : Option Addr} {c : Nat} (h : OwC w base (.slice a n c) n l) : CmD w w.heap.size a n l := ⟨h.o.qv, fun x hx => (h.u x hx).nq⟩
end
def OwCE (w : World) (base : Nat) (a : Option Addr) (n c : Nat) (l : List Cv) : Prop := OwC w base (.slice a n c) n l ∨ (n = 0 ∧ c = 0 ∧ l = [])
section
variable {w w' : World} {base base' n c : Nat} {a : Option Addr} {l : List Cv}
theorem OwCE.d (h : OwCE w base a n c l) : CmD w w.heap.size a n l := by
 rcases h with h | ⟨rfl, rfl, rfl⟩
 ·exact h.d
 ·exact CmD.nil _ _ _
theorem OwCE.below (h : OwCE w base a n c l) (hb : Below w.heap.size w w') : OwCE w' base a n c l := h.imp (fun h => h.below hb) id
theorem OwCE.weak (h : OwCE w base a n c l) (hb : base' ≤ base) : OwCE w base' a n c l := h.imp (fun h => h.weak hb) id
theorem OwCE.drewN (h : OwCE w base a n c l) (m : Nat) : OwCE (w.drewN m) base a n c l := h.imp (fun h => h.drewN m) id
end
theorem OwC.keep {M : Nat → Prop} {w w' : World} {base n : Nat} {v : Value} {l : List Cv} (h : OwC w base v n l) (k : Fr M w w') (hm : ∀ j cur fr, w.heap[j]? = some (.cells cur 3 fr) → ¬ M j) (hm2 : ∀ j cur fr, w.heap[j]? = some (.cells cur 95 fr) → ¬ M j) : OwC w' base v n l :=
 ⟨h.o.fr k fun j hj => by obtain ⟨cur, fr, e⟩ := h.o.typ hj; exact hm2 j cur fr e, fun x hx => (h.u x hx).keep k hm⟩
theorem OwCE.keep {M : Nat → Prop} {w w' : World} {base n c : Nat} {a : Option Addr} {l : List Cv} (h : OwCE w base a n c l) (k : Fr M w w') (hm : ∀ j cur fr, w.heap[j]? = some (.cells cur 3 fr) → ¬ M j) (hm2 : ∀ j cur fr, w.heap[j]? = some (.cells cur 95 fr) → ¬ M j) : OwCE w' base a n c l := h.imp (fun h => h.keep k hm hm2) id
theorem OwE.up {M : Nat → Prop} {w w' : World} {base m c : Nat} {a : Option Addr} {u : List Int} (h : OwE w base a m c u) (k : Fr M w w') (hm : ∀ j, base ≤ j → ¬ M j) : OwE w' base a m c u := by
 rcases h with h | h
 ·exact .inl (Fr.owni h k fun j hj => hm j (h.lt j hj).1)
 ·exact .inr h
theorem OwC.up {M : Nat → Prop} {w w' : World} {base n : Nat} {v : Value} {l : List Cv} (h : OwC w base v n l) (k : Fr M w w') (hm : ∀ j, base ≤ j → ¬ M j) : OwC w' base v n l := ⟨h.o.fr k fun j hj => hm j (h.o.lt j hj).1, fun x hx => (h.u x hx).up k hm⟩
theorem OwCE.up {M : Nat → Prop} {w w' : World} {base n c : Nat} {a : Option Addr} {l : List Cv} (h : OwCE w base a n c l) (k : Fr M w w') (hm : ∀ j, base ≤ j → ¬ M j) : OwCE w' base a n c l := h.imp (fun h => h.up k hm) id
structure OwN (w : World) (base : Nat) (v : Value) (n : Nat) (l : List Iv) : Prop where
 o : Ow shI 40 w base v n l
 u : ∀ x, x ∈ l → OwCE w base x.a x.n x.c x.l
section
variable {w w' : World} {base base' n : Nat} {v : Value} {l : List Iv}
theorem OwN.below (h : OwN w base v n l) (hb : Below w.heap.size w w') : OwN w' base v n l := ⟨h.o.below hb, fun x hx => (h.u x hx).below hb⟩
theorem OwN.weak (h : OwN w base v n l) (hb : base' ≤ base) : OwN w base' v n l := ⟨h.o.weak hb, fun x hx => (h.u x hx).weak hb⟩
theorem OwN.drewN (h : OwN w base v n l) (m : Nat) : OwN (w.drewN m) base v n l := ⟨h.o.drewN m, fun x hx => (h.u x hx).drewN m⟩
theorem OwN.nil (w : World) (base : Nat) : OwN w base (.slice none 0 0) 0 [] := ⟨Ow.nil _ _, fun _ h => by cases h⟩
theorem OwN.d {a : Option Addr} {c : Nat} (h : OwN w base (.slice a n c) n l) : InD w w.heap.size a n l := ⟨h.o.qv, fun x hx => (h.u x hx).d⟩
end
theorem getD_mapC {l : List Cv} {k : Nat} (h : k < l.length) : (l.map Cv.ab)[k]? = some (l.getD k default).ab := by simp [List.getD, h]
theorem take_snocC {l : List Cv} {k : Nat} (h : k < l.length) : l.take (k + 1) = l.take k ++ [l.getD k default] := by rw [List.take_succ_eq_append_getElem h]; simp [List.getD, h]
theorem take_snocI {l : List Iv} {k : Nat} (h : k < l.length) : l.take (k + 1) = l.take k ++ [l.getD k default] := by rw [List.take_succ_eq_append_getElem h]; simp [List.getD, h]
end Go.Proofs.YtdpblimhfmfbnaaGreat
namespace Go.Proofs.YtdpblimhfmfbnaaGreat
open Go.RowKit
theorem kw_rules {N : Nat} {W X : World} (h : Below N W X) (hN : N ≤ W.heap.size) :
  (∀ b o, b < N → X.cell? ⟨b, o, none⟩ = W.cell? ⟨b, o, none⟩) ∧ (∀ b o, b < N → X.frozen? ⟨b, o, none⟩ = W.frozen? ⟨b, o, none⟩) ∧ (∀ b, b < N → b < X.heap.size) ∧ (∀ b, b < N → ¬ b = X.heap.size) ∧ (∀ b, b < N → ¬ X.heap.size = b) := by
 have hs := h.size
 exact ⟨fun b o hb => h.cell (p := ⟨b, o, none⟩) hb, fun b o hb => h.frozen (p := ⟨b, o, none⟩) hb, fun b hb => by omega, fun b hb => by omega, fun b hb => by omega⟩
theorem kw_step {N : Nat} {W X Y : World} (h : Below N W X) (hN : N ≤ W.heap.size) (hb : Below X.heap.size X Y) : Below N W Y := h.trans (hb.mono (Nat.le_trans hN h.size))
theorem kw_drew {N : Nat} {W X : World} (h : Below N W X) : Below N W X.drew := h.drew
theorem kw_S {N : Nat} {W X : World} (h : Below N W X) : (∀ b o, b < N → X.cell? ⟨b, o, none⟩ = W.cell? ⟨b, o, none⟩) ∧ Below N W X := ⟨fun b o hb => h.cell (p := ⟨b, o, none⟩) hb, h⟩
theorem kw_size {N : Nat} {W X : World} (h : Below N W X) (hN : N ≤ W.heap.size) : N ≤ X.heap.size := Nat.le_trans hN h.size
end Go.Proofs.YtdpblimhfmfbnaaGreat
namespace Go.Proofs.YtdpblimhfmfbnaaGreat
open Go.ChangeShapes Go.WideShapes Go.ChangeAt Go.RowKit Go.Deep
theorem wr27 {x : Int} (h : -9223372036854775808 ≤ x) (h' : x ≤ 9223372036854775807) : IntKind.i64.wrap x = x := by rw [IntKind.wrap_i64]; omega
theorem nx_ms {i n : Nat} (h : i < n) : n - (intOf (.int .i64 ((i : Int) + 1))).toNat < n - (intOf (.int .i64 (i : Int))).toNat := by simp [intOf]; omega
theorem nx_ms' {i n : Nat} (h : i < n) : n - (intOf (.int .i64 ((i + 1 : Nat) : Int))).toNat < n - (intOf (.int .i64 (i : Int))).toNat := by simp [intOf]; omega
theorem all_getC {l : List Cv} {P : Cv → Prop} (h : ∀ j, j < l.length → P (l.getD j default)) : ∀ x, x ∈ l → P x := fun x hx => by
 obtain ⟨j, hj, rfl⟩ := List.mem_iff_getElem.1 hx
 have := h j hj
 simpa [List.getD, hj] using this
theorem all_getI {l : List Iv} {P : Iv → Prop} (h : ∀ j, j < l.length → P (l.getD j default)) : ∀ x, x ∈ l → P x := fun x hx => by
 obtain ⟨j, hj, rfl⟩ := List.mem_iff_getElem.1 hx
 have := h j hj
 simpa [List.getD, hj] using this
theorem getD_memC {l : List Cv} {k : Nat} (h : k < l.length) : l.getD k default ∈ l := by simp [List.getD, h]
theorem getD_memI {l : List Iv} {k : Nat} (h : k < l.length) : l.getD k default ∈ l := by simp [List.getD, h]
def WSe (a b : World) : Prop := a = b
theorem lt20_no {r : Nat} (h : ¬ r < 1048576) : decide ((r : Int) < 1048576) = false := by
 rw [decide_eq_false_iff_not]
 omega
theorem lt20_yes {r : Nat} (h : r < 1048576) : decide ((r : Int) < 1048576) = true := by
 rw [decide_eq_true_iff]
 omega
def mxC (r : Nat) (l : List Cv) : Prop := l.length ≤ r ∧ ∀ x, x ∈ l → x.m ≤ r
structure CwR (r : Nat) (l : List Cv) : Prop where
 le : r ≤ 17592187092992
 mx : r < 1048576 → mxC r l
set_option maxRecDepth 100000 in
theorem cw_any (a : Option Addr) (n c : Nat) (l : List Cv) (w : World) (h : CmD w w.heap.size a n l) (hn : n ≤ 17592186044416) (hu : ∀ x, x ∈ l → x.m ≤ 17592186044416) :
  Calls Tryz.prog 25 #[.slice a n c] w fun e w' => (∃ r : Nat, e = .returned (.int .i64 (r : Nat)) ∧ CwR r l) ∧ w' = w := by
 have H := Hk.mk h
 have HU := Hk.mk hu
 have hlen := h.q.len
 have HL := Hk.mk hlen
 clear h hu hlen
 go_enter Tryz.func25, Tryz.ntmps25
 go_wp2
 go_loopw [3, 4] (fun s i wr => ∃ k r : Nat, s = .int .i64 (r : Nat) ∧ i = .int .i64 k ∧ k ≤ n ∧ r ≤ 17592187092992 ∧ Hk (n ≤ r ∧ ∀ j, j < k → (l.getD j default).m ≤ r) ∧ Hk (WSe wr w)) (fun _ i _ => n - (intOf i).toNat)
 case atStart => exact ⟨0, n, rfl, rfl, Nat.zero_le _, by omega, ⟨⟨Nat.le_refl _, fun j h => absurd h (by omega)⟩⟩, ⟨rfl⟩⟩
 case round =>
  obtain ⟨k, r, rfl, rfl, hk, hr, HR, HW⟩ := hrel
  obtain ⟨HW⟩ := HW
  unfold WSe at HW
  subst HW
  by_cases hlt : k < n
  ·by_cases hrl : r < 1048576
   ·obtain ⟨b, off, rfl, hbl, ⟨-, -, -, -, c4, -⟩, -⟩ := H.out.ten hlt
    have hm := HU.out _ (getD_memC (by rw [HL.out]; exact hlt))
    generalize hq : l.getD k default = q at *
    have t0 : (0 : Int) ≤ (k : Int) := by omega
    have t1 : (k : Int) < (n : Int) := by omega
    have g1 : IntKind.i64.wrap ((r : Int) + (q.m : Int)) = ((r + q.m : Nat) : Int) := by push_cast; exact wr27 (by omega) (by omega)
    have HR2 : Hk (n ≤ r + q.m ∧ ∀ j, j < k + 1 → (l.getD j default).m ≤ r + q.m) := ⟨by have := HR.out.1; omega, fun j hj => by
     by_cases e : j = k
     ·subst e; rw [hq]; omega
     ·have := HR.out.2 j (by omega); omega⟩
    have d1 := lt20_yes hrl
    have gk : IntKind.i64.wrap ((k : Int) + 1) = ((k + 1 : Nat) : Int) := by push_cast; exact wr27 (by omega) (by omega)
    have hnx : k + 1 ≤ n := hlt
    have HX := Hk.mk (show r + q.m ≤ 17592187092992 by omega)
    have HLT := Hk.mk hlt
    clear hq HR hrl hr hn hm hk hlt
    go_wp2
    exact ⟨⟨k + 1, r + q.m, rfl, by go_num, hnx, HX.out, HR2, ⟨rfl⟩⟩, by first | exact nx_ms HLT.out | exact nx_ms' HLT.out⟩
   ·have d1 := lt20_no hrl
    have HRL := Hk.mk hrl
    have HRR := Hk.mk hr
    have t1 : (k : Int) < (n : Int) := by omega
    have HLT := Hk.mk hlt
    have HK := Hk.mk hk
    clear hrl hr hn HR hlt hk
    go_wp2
    go_ret
    exact ⟨⟨r, rfl, ⟨HRR.out, fun h => absurd h HRL.out⟩⟩, rfl⟩
  ·obtain rfl : k = n := by omega
   have HR2 : Hk (mxC r l) := ⟨by rw [HL.out]; exact HR.out.1, all_getC fun j hj => HR.out.2 j (by rw [← HL.out]; exact hj)⟩
   clear HR
   go_wp2
   go_ret
   exact ⟨⟨r, rfl, ⟨hr, fun _ => HR2.out⟩⟩, rfl⟩
def mxI (r : Nat) (l : List Iv) : Prop := l.length ≤ r ∧ ∀ i, i ∈ l → mxC r i.l
theorem mxC.mono {r r' : Nat} {l : List Cv} (h : mxC r l) (hr : r ≤ r') : mxC r' l := ⟨Nat.le_trans h.1 hr, fun x hx => Nat.le_trans (h.2 x hx) hr⟩
structure BdI (l : List Iv) : Prop where
 n : ∀ i, i ∈ l → i.n ≤ 17592186044416
 m : ∀ i, i ∈ l → ∀ x, x ∈ i.l → x.m ≤ 17592186044416
structure IwR (r : Nat) (l : List Iv) : Prop where
 le : r ≤ 17592188141568
 mx : r < 1048576 → mxI r l
set_option maxRecDepth 100000 in
theorem iw_any (a : Option Addr) (n c : Nat) (l : List Iv) (w : World) (h : InD w w.heap.size a n l) (hn : n ≤ 17592186044416) (hu : BdI l) :
  Calls Tryz.prog 24 #[.slice a n c] w fun e w' => (∃ r : Nat, e = .returned (.int .i64 (r : Nat)) ∧ IwR r l) ∧ w' = w := by
 have H := Hk.mk h
 have HU := Hk.mk hu
 have hlen := h.q.len
 have HL := Hk.mk hlen
 clear h hu hlen
 go_enter Tryz.func24, Tryz.ntmps24
 go_wp2
 go_loopw [3, 4] (fun s i wr => ∃ k r : Nat, s = .int .i64 (r : Nat) ∧ i = .int .i64 k ∧ k ≤ n ∧ r ≤ 17592188141568 ∧ Hk (n ≤ r ∧ (r < 1048576 → ∀ j, j < k → mxC r (l.getD j default).l)) ∧ Hk (WSe wr w)) (fun _ i _ => n - (intOf i).toNat)
 case atStart => exact ⟨0, n, rfl, rfl, Nat.zero_le _, by omega, ⟨⟨Nat.le_refl _, fun _ j h => absurd h (by omega)⟩⟩, ⟨rfl⟩⟩
 case round =>
  obtain ⟨k, r, rfl, rfl, hk, hr, HR, HW⟩ := hrel
  obtain ⟨HW⟩ := HW
  unfold WSe at HW
  subst HW
  by_cases hlt : k < n
  ·by_cases hrl : r < 1048576
   ·obtain ⟨b, off, rfl, hbl, ⟨-, -, c2⟩, hd⟩ := H.out.three hlt
    have hm := getD_memI (show k < l.length by rw [HL.out]; exact hlt)
    have hb1 := HU.out.n _ hm
    have hb2 := HU.out.m _ hm
    generalize hq : l.getD k default = q at *
    have HD := Hk.mk hd
    have HB2 := Hk.mk hb2
    have t0 : (0 : Int) ≤ (k : Int) := by omega
    have t1 : (k : Int) < (n : Int) := by omega
    have d1 := lt20_yes hrl
    have gk : IntKind.i64.wrap ((k : Int) + 1) = ((k + 1 : Nat) : Int) := by push_cast; exact wr27 (by omega) (by omega)
    have hnx : k + 1 ≤ n := hlt
    have HLT := Hk.mk hlt
    have HB1 := Hk.mk hb1
    have HRL := Hk.mk hrl
    clear hd hm hb2 hrl hr hn hb1 hk hlt
    go_wp2_with (go_at_call 25; (with_reducible refine (cw_any q.a q.n q.c q.l _ HD.out HB1.out HB2.out).mono ?_); rintro e w2 ⟨⟨s, rfl, hmx⟩, rfl⟩; have HMX := Hk.mk hmx; clear hmx; have g1 : IntKind.i64.wrap ((r : Int) + (s : Int)) = ((r + s : Nat) : Int) := by have h1 := HRL.out; have h2 := HMX.out.le; push_cast; exact wr27 (by omega) (by omega))
    have HR2 : Hk (n ≤ r + s ∧ (r + s < 1048576 → ∀ j, j < k + 1 → mxC (r + s) (l.getD j default).l)) := ⟨by have := HR.out.1; omega, fun hx j hj => by
     by_cases e : j = k
     ·subst e; rw [hq]; exact (HMX.out.mx (by omega)).mono (by omega)
     ·exact (HR.out.2 HRL.out j (by omega)).mono (by omega)⟩
    exact ⟨⟨k + 1, r + s, rfl, by go_num, hnx, by have h1 := HRL.out; have h2 := HMX.out.le; omega, HR2, ⟨rfl⟩⟩, by first | exact nx_ms HLT.out | exact nx_ms' HLT.out⟩
   ·have d1 := lt20_no hrl
    have HRL := Hk.mk hrl
    have HRR := Hk.mk hr
    have t1 : (k : Int) < (n : Int) := by omega
    have HLT := Hk.mk hlt
    have HK := Hk.mk hk
    clear hrl hr hn HR hlt hk
    go_wp2
    go_ret
    exact ⟨⟨r, rfl, ⟨HRR.out, fun h => absurd h HRL.out⟩⟩, rfl⟩
  ·obtain rfl : k = n := by omega
   have HR2 : Hk (r < 1048576 → mxI r l) := ⟨fun hx => ⟨by rw [HL.out]; exact HR.out.1, all_getI fun j hj => HR.out.2 hx j (by rw [← HL.out]; exact hj)⟩⟩
   clear HR
   go_wp2
   go_ret
   exact ⟨⟨r, rfl, ⟨hr, HR2.out⟩⟩, rfl⟩
end Go.Proofs.YtdpblimhfmfbnaaGreat
namespace Go.Proofs.YtdpblimhfmfbnaaGreat
open Go.RowKit
structure Arr (w : World) (g n : Nat) (T : TypeId) (f : Nat → Value) : Prop where
 ex : ∃ cur : Array Value, w.heap[g]? = some (.cells cur T (0, 0)) ∧ cur.size = n ∧ ∀ k, k < n → cur[k]? = some (f k)
theorem Arr.lt {w : World} {g n : Nat} {T : TypeId} {f : Nat → Value} (h : Arr w g n T f) : g < w.heap.size := by
 obtain ⟨cur, e, _⟩ := h.ex
 exact (Array.getElem?_eq_some_iff.1 e).1
theorem Arr.cell {w : World} {g n : Nat} {T : TypeId} {f : Nat → Value} (h : Arr w g n T f) {k : Nat} (hk : k < n) : w.cell? ⟨g, k, none⟩ = some (f k) := by
 obtain ⟨cur, e, hs, hc⟩ := h.ex
 simp [World.cell?, e, hc k hk]
theorem Arr.frozen {w : World} {g n : Nat} {T : TypeId} {f : Nat → Value} (h : Arr w g n T f) (k : Nat) : w.frozen? ⟨g, k, none⟩ = false := by
 obtain ⟨cur, e, hs, hc⟩ := h.ex
 simp [World.frozen?, e]
theorem Arr.of_block {w w' : World} {g n : Nat} {T : TypeId} {f : Nat → Value} (h : Arr w g n T f) (e : w'.heap[g]? = w.heap[g]?) : Arr w' g n T f := by
 obtain ⟨cur, e', hs, hc⟩ := h.ex
 exact ⟨cur, by rw [e]; exact e', hs, hc⟩
theorem Arr.below {w w' : World} {B g n : Nat} {T : TypeId} {f : Nat → Value} (h : Arr w g n T f) (k : Below B w w') (hg : g < B) : Arr w' g n T f := h.of_block (k.block g hg)
theorem Arr.later {w w' : World} {g n : Nat} {T : TypeId} {f : Nat → Value} (h : Arr w g n T f) (k : Below w.heap.size w w') : Arr w' g n T f := h.below k h.lt
theorem Arr.fr {M : Nat → Prop} {w w' : World} {g n : Nat} {T : TypeId} {f : Nat → Value} (h : Arr w g n T f) (k : Fr M w w') (hm : ¬ M g) : Arr w' g n T f := h.of_block (k.block g h.lt hm)
theorem Arr.drewN {w : World} {g n : Nat} {T : TypeId} {f : Nat → Value} (h : Arr w g n T f) (m : Nat) : Arr (w.drewN m) g n T f := h.of_block rfl
theorem Arr.drew {w : World} {g n : Nat} {T : TypeId} {f : Nat → Value} (h : Arr w g n T f) : Arr w.drew g n T f := h.of_block rfl
theorem Arr.alloc {w : World} {g n : Nat} {T : TypeId} {f : Nat → Value} (h : Arr w g n T f) (o : Obj) : Arr (w.alloc o) g n T f := h.later ((Below.refl _ _).alloc (Nat.le_refl _) o)
theorem Arr.congr {w : World} {g n : Nat} {T : TypeId} {f f' : Nat → Value} (h : Arr w g n T f) (e : ∀ k, k < n → f' k = f k) : Arr w g n T f' := by
 obtain ⟨cur, e', hs, hc⟩ := h.ex
 exact ⟨cur, e', hs, fun k hk => by rw [e k hk]; exact hc k hk⟩
theorem Arr.far {w : World} {g n : Nat} {T : TypeId} {f : Nat → Value} (h : Arr w g n T f) (p : Addr) (v : Value) (hp : g ≠ p.block) : Arr (w.setCell p v) g n T f :=
 h.of_block (Go.heap_setCell_other _ _ _ _ hp)
theorem Arr.set {w : World} {g n : Nat} {T : TypeId} {f : Nat → Value} (h : Arr w g n T f) {k : Nat} (hk : k < n) (v : Value) : Arr (w.setCell ⟨g, k, none⟩ v) g n T (fun j => if j = k then v else f j) := by
 obtain ⟨cur, e, hs, hc⟩ := h.ex
 have hg := (Array.getElem?_eq_some_iff.1 e).1
 refine ⟨cur.setIfInBounds k v, ?_, by simp [hs], fun j hj => ?_⟩
 ·have hge : w.heap[g] = .cells cur T (0, 0) := by simpa [hg] using e
  simp [World.setCell, hg, Array.getElem_modify, hge]
 ·by_cases ej : j = k
  ·subst ej; simp [hs, hj]
  ·rw [Array.getElem?_setIfInBounds_ne (Ne.symm ej), if_neg ej]; exact hc j hj
theorem Arr.new (w : World) (cs : Array Value) (T : TypeId) (f : Nat → Value) (n : Nat) (hs : cs.size = n) (h : ∀ k, k < n → cs[k]? = some (f k)) : Arr (w.alloc (.cells cs T)) w.heap.size n T f :=
 ⟨cs, Go.heap_alloc_new _ _, hs, h⟩
theorem Arr.rd {w : World} {g n B : Nat} {T : TypeId} {f : Nat → Value} (h : Arr w g n T f) (hg : g < B) : Rd w B (some ⟨g, 0, none⟩) n f :=
 fun _ => ⟨g, 0, rfl, hg, fun k hk => by rw [Nat.zero_add]; exact h.cell hk⟩
theorem Arr.own {w : World} {base g n : Nat} {T : TypeId} {xs : List Value} (h : w.ownsRow base T 1 (.slice (some ⟨g, 0, none⟩) n n) n xs) (f : Nat → Value) (e : ∀ k, k < n → xs[k]? = some (f k)) : Arr w g n T f := by
 rcases h.2 with ⟨hv, _⟩ | ⟨g', cap, cur, hv, hb, hg, h1, h2, h3, h4⟩
 ·simp at hv
 ·simp at hv
  obtain ⟨rfl, rfl⟩ := hv
  refine ⟨cur, hg, by omega, fun k hk => ?_⟩
  have := e k hk
  rw [← h4, List.getElem?_take, if_pos (by omega)] at this
  simpa using this
theorem below_grown {w w' : World} (h : w.grownBy w' none) : Below w.heap.size w w' := (Below.refl _ _).grown h (Nat.le_refl _) (fun _ h => by cases h)
end Go.Proofs.YtdpblimhfmfbnaaGreat
namespace Go.Proofs.YtdpblimhfmfbnaaGreat
def gB (W H : Int) (n : Nat) (xs : List Int) : Bool := decide (1 ≤ W ∧ W ≤ 128 ∧ 1 ≤ H ∧ H ≤ 128 ∧ (n : Int) = W * H ∧ ∀ x ∈ xs, x ≤ 5)
def gE (W H : Int) (n : Nat) (xs : List Int) : Int := if gB W H n xs = true then 0 else 1
structure GOk (W H : Int) (n : Nat) (xs : List Int) : Prop where
 w1 : 1 ≤ W
 w2 : W ≤ 128
 h1 : 1 ≤ H
 h2 : H ≤ 128
 nn : (n : Int) = W * H
 ts : ∀ x ∈ xs, x ≤ 5
structure GHd (W H : Int) (n : Nat) : Prop where
 w1 : 1 ≤ W
 w2 : W ≤ 128
 h1 : 1 ≤ H
 h2 : H ≤ 128
 nn : (n : Int) = W * H
end Go.Proofs.YtdpblimhfmfbnaaGreat
namespace Go.Proofs.YtdpblimhfmfbnaaGreat
open Go.RowKit
structure Bd where
 i : Int
 o : Int
 x : Int
 y : Int
 w : Int
 h : Int
instance : Inhabited Bd := ⟨⟨0, 0, 0, 0, 0, 0⟩⟩
def Bd.v (b : Bd) : Value := .agg #[.int .i64 b.i, .int .i64 b.o, .int .i64 b.x, .int .i64 b.y, .int .i64 b.w, .int .i64 b.h]
def Bd.c (b : Bd) : Nat → Int
 | 0 => b.i
 | 1 => b.o
 | 2 => b.x
 | 3 => b.y
 | 4 => b.w
 | _ => b.h
def fmB (b : Bd) : Bool := decide (1 ≤ b.i ∧ b.i ≤ 1099511627776 ∧ 1 ≤ b.o ∧ b.o ≤ 8 ∧ 1 ≤ b.w ∧ b.w ≤ 4 ∧ 1 ≤ b.h ∧ b.h ≤ 4)
structure FmOk (b : Bd) : Prop where
 i1 : 1 ≤ b.i
 i2 : b.i ≤ 1099511627776
 o1 : 1 ≤ b.o
 o2 : b.o ≤ 8
 w1 : 1 ≤ b.w
 w2 : b.w ≤ 4
 h1 : 1 ≤ b.h
 h2 : b.h ≤ 4
def inB (W H : Int) (b : Bd) : Bool := decide (0 ≤ b.x ∧ b.x ≤ W - b.w ∧ 0 ≤ b.y ∧ b.y ≤ H - b.h)
structure InOk (W H : Int) (b : Bd) : Prop where
 x1 : 0 ≤ b.x
 x2 : b.x ≤ W - b.w
 y1 : 0 ≤ b.y
 y2 : b.y ≤ H - b.h
def hsB (W : Int) (b : Bd) (t : Int) : Bool := decide (b.x ≤ t % W ∧ t % W < b.x + b.w ∧ b.y ≤ t / W ∧ t / W < b.y + b.h)
def undAt (W : Int) (b : Bd) (k : Nat) : Int := b.x + ((k % b.w.toNat : Nat) : Int) + W * (b.y + ((k / b.w.toNat : Nat) : Int))
def undL (W : Int) (b : Bd) : List Int := (List.range (b.w.toNat * b.h.toNat)).map (undAt W b)
def frB (W : Int) (xs : List Int) (b : Bd) : Bool := (undL W b).all fun t => decide (xs.getD t.toNat 0 ≤ 1)
def mtB (a b : Bd) : Bool := decide (a.x < b.x + b.w ∧ b.x < a.x + a.w ∧ a.y < b.y + b.h ∧ b.y < a.y + a.h)
def ascB (bs : List Bd) : Prop := ∀ k, k + 1 < bs.length → (bs.getD k default).i < (bs.getD (k + 1) default).i
def cvB (W : Int) (bs : List Bd) (t : Int) : Bool := bs.any fun b => hsB W b t
structure MOk (W H : Int) (n : Nat) (xs : List Int) (bs : List Bd) : Prop where
 g : GOk W H n xs
 len : bs.length ≤ 256
 asc : ascB bs
 fm : ∀ b ∈ bs, FmOk b
 ins : ∀ b ∈ bs, InOk W H b
 fr : ∀ b ∈ bs, frB W xs b = true
 ap : ∀ i j, j < i → i < bs.length → mtB (bs.getD i default) (bs.getD j default) = false
end Go.Proofs.YtdpblimhfmfbnaaGreat
