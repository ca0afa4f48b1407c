import Derived.RegionTactic
import Derived.ChangeAlike
import Derived.BigRegion
import Derived.Test.YtdpblimhfmfbnaaZtb
import Derived.Deep.QuietTactic
import Derived.BigQuiet
import Derived.Deep.RegionWith
import Derived.Deep.RegionHeld3
import Derived.Deep.DeepCutAuto
import Derived.Deep.DeepFit
import Derived.Outline
import Derived.WalkKit
import Derived.Below
import Derived.Test.YtdpblimhfmfbnaaProg
/- Whether a command may be, by the reference. -/
namespace Go.Proofs.Ytdpblimhfmfbnaa
open Go.RowKit
set_option linter.unusedVariables false
end Go.Proofs.Ytdpblimhfmfbnaa
/- Whether a command may be, by the reference. -/
namespace Go.Proofs.Ytdpblimhfmfbnaa
open Go.RowKit
set_option linter.unusedVariables false
end Go.Proofs.Ytdpblimhfmfbnaa
/- Whether a command may be, by the reference. -/
namespace Go.Proofs.Ytdpblimhfmfbnaa
open Go.RowKit
set_option linter.unusedVariables false
end Go.Proofs.Ytdpblimhfmfbnaa
/- Whether a command may be, by the reference: all kinds. -/
namespace Go.Proofs.Ytdpblimhfmfbnaa
open Go.RowKit
set_option linter.unusedVariables false
end Go.Proofs.Ytdpblimhfmfbnaa
/- Lists of commands, lists of inputs: as they lie in memory, and as they read. -/
namespace Go.Proofs.Ytdpblimhfmfbnaa
open Go.ChangeShapes Go.WideShapes Go.ChangeAt Go.RowKit Go.Deep
set_option linter.unusedVariables false
set_option linter.unusedSimpArgs false
/-- A command. -/
structure Cm where
  p : Int
  s : Int
  k : Int
  f : CF
/-- A command as it lies, and its units. -/
structure Cv where
  p : Int
  s : Int
  k : Int
  n : Int
  a : Option Addr
  m : Nat
  c : Nat
  t : Int
  w : Int
  h : Int
  x : Int
  y : Int
  u : List Int
instance : Inhabited Cv := ⟨⟨0, 0, 0, 0, none, 0, 0, 0, 0, 0, 0, 0, []⟩⟩
def Cv.f (q : Cv) : CF := ⟨q.n, q.u, q.t, q.w, q.h, q.x, q.y⟩
def Cv.ab (q : Cv) : Cm := ⟨q.p, q.s, q.k, q.f⟩
def Cv.cs (q : Cv) : List Value := [.int .i64 q.p, .int .i64 q.s, .int .i64 q.k, .int .i64 q.n, .slice q.a q.m q.c, .int .i64 q.t, .int .i64 q.w, .int .i64 q.h, .int .i64 q.x, .int .i64 q.y]
def shC : Sh Cv := ⟨Cv.cs, 10, fun _ => rfl, fun x u hu => by
  simp [Cv.cs] at hu
  rcases hu with rfl | rfl | rfl | rfl | rfl | rfl | rfl | rfl | rfl | rfl <;> rfl⟩
/-- An input as it lies, and its commands. -/
structure Iv where
  t : Int
  p : Int
  a : Option Addr
  n : Nat
  c : Nat
  l : List Cv
instance : Inhabited Iv := ⟨⟨0, 0, none, 0, 0, []⟩⟩
def Iv.cs (i : Iv) : List Value := [.int .i64 i.t, .int .i64 i.p, .slice i.a i.n i.c]
def shI : Sh Iv := ⟨Iv.cs, 3, fun _ => rfl, fun x u hu => by
  simp [Iv.cs] at hu
  rcases hu with rfl | rfl | rfl <;> rfl⟩
structure In where
  t : Int
  p : Int
  l : List Cm
def Iv.ab (i : Iv) : In := ⟨i.t, i.p, i.l.map Cv.ab⟩
/-- The slice reads as these commands. -/
structure CmD (w : World) (B : Nat) (a : Option Addr) (n : Nat) (l : List Cv) : Prop where
  q : Qv shC w B a n l
  u : ∀ x, x ∈ l → Nq w B x.a x.m x.u
/-- The slice reads as these inputs. -/
structure InD (w : World) (B : Nat) (a : Option Addr) (n : Nat) (l : List Iv) : Prop where
  q : Qv shI w B a n l
  u : ∀ x, x ∈ l → CmD w B x.a x.n x.l
section
variable {w w' : World} {B B' n : Nat} {a : Option Addr}
theorem CmD.below {l : List Cv} (h : CmD w B a n l) (hb : Below B' w w') (hB : B ≤ B') : CmD w' B a n l := ⟨h.q.below hb hB, fun x hx => (h.u x hx).below hb hB⟩
theorem CmD.mono {l : List Cv} (h : CmD w B a n l) (hB : B ≤ B') : CmD w B' a n l := ⟨h.q.mono hB, fun x hx => (h.u x hx).mono hB⟩
theorem CmD.drewN {l : List Cv} (h : CmD w B a n l) (m : Nat) : CmD (w.drewN m) B a n l := ⟨h.q.drewN m, fun x hx => (h.u x hx).drewN m⟩
theorem CmD.nil (w : World) (B : Nat) (a : Option Addr) : CmD w B a 0 [] := ⟨Qv.nil _ _ _, fun _ h => by cases h⟩
theorem CmD.later {l : List Cv} (h : CmD w w.heap.size a n l) (hb : Below w.heap.size w w') : CmD w' w'.heap.size a n l := (h.below hb (Nat.le_refl _)).mono hb.size
theorem InD.below {l : List Iv} (h : InD w B a n l) (hb : Below B' w w') (hB : B ≤ B') : InD w' B a n l := ⟨h.q.below hb hB, fun x hx => (h.u x hx).below hb hB⟩
theorem InD.mono {l : List Iv} (h : InD w B a n l) (hB : B ≤ B') : InD w B' a n l := ⟨h.q.mono hB, fun x hx => (h.u x hx).mono hB⟩
theorem InD.drewN {l : List Iv} (h : InD w B a n l) (m : Nat) : InD (w.drewN m) B a n l := ⟨h.q.drewN m, fun x hx => (h.u x hx).drewN m⟩
theorem InD.nil (w : World) (B : Nat) (a : Option Addr) : InD w B a 0 [] := ⟨Qv.nil _ _ _, fun _ h => by cases h⟩
theorem InD.later {l : List Iv} (h : InD w w.heap.size a n l) (hb : Below w.heap.size w w') : InD w' w'.heap.size a n l := (h.below hb (Nat.le_refl _)).mono hb.size
theorem CmD.head {l : List Cv} (h : CmD w B a n l) {k : Nat} (hk : k ≤ n) : CmD w B a k (l.take k) := ⟨h.q.head hk, fun x hx => h.u x (List.mem_of_mem_take hx)⟩
theorem InD.head {l : List Iv} (h : InD w B a n l) {k : Nat} (hk : k ≤ n) : InD w B a k (l.take k) := ⟨h.q.head hk, fun x hx => h.u x (List.mem_of_mem_take hx)⟩
theorem CmD.ten {l : List Cv} (h : CmD w B a n l) {k : Nat} (hk : k < n) : ∃ b off, a = some ⟨b, off, none⟩ ∧ b < B ∧ (w.cell? ⟨b, off + k * 10, none⟩ = some (.int .i64 (l.getD k default).p) ∧ w.cell? ⟨b, off + k * 10 + 1, none⟩ = some (.int .i64 (l.getD k default).s) ∧ w.cell? ⟨b, off + k * 10 + 2, none⟩ = some (.int .i64 (l.getD k default).k) ∧ w.cell? ⟨b, off + k * 10 + 3, none⟩ = some (.int .i64 (l.getD k default).n) ∧ w.cell? ⟨b, off + k * 10 + 4, none⟩ = some (.slice (l.getD k default).a (l.getD k default).m (l.getD k default).c) ∧ w.cell? ⟨b, off + k * 10 + 5, none⟩ = some (.int .i64 (l.getD k default).t) ∧ w.cell? ⟨b, off + k * 10 + 6, none⟩ = some (.int .i64 (l.getD k default).w) ∧ w.cell? ⟨b, off + k * 10 + 7, none⟩ = some (.int .i64 (l.getD k default).h) ∧ w.cell? ⟨b, off + k * 10 + 8, none⟩ = some (.int .i64 (l.getD k default).x) ∧ w.cell? ⟨b, off + k * 10 + 9, none⟩ = some (.int .i64 (l.getD k default).y)) ∧ Nq w B (l.getD k default).a (l.getD k default).m (l.getD k default).u := by
  obtain ⟨b, off, e, hlt, hc⟩ := h.q.rd (by omega)
  have hk' : k < l.length := by rw [h.q.len]; exact hk
  have hg : l.getD k default = l[k] := by simp [List.getD, hk']
  have c := hc k hk'
  rw [hg]
  exact ⟨b, off, e, hlt, ⟨c 0 (by decide), c 1 (by decide), c 2 (by decide), c 3 (by decide), c 4 (by decide), c 5 (by decide), c 6 (by decide), c 7 (by decide), c 8 (by decide), c 9 (by decide)⟩, h.u _ (List.getElem_mem hk')⟩
theorem InD.three {l : List Iv} (h : InD w B a n l) {k : Nat} (hk : k < n) : ∃ b off, a = some ⟨b, off, none⟩ ∧ b < B ∧ (w.cell? ⟨b, off + k * 3, none⟩ = some (.int .i64 (l.getD k default).t) ∧ w.cell? ⟨b, off + k * 3 + 1, none⟩ = some (.int .i64 (l.getD k default).p) ∧ w.cell? ⟨b, off + k * 3 + 2, none⟩ = some (.slice (l.getD k default).a (l.getD k default).n (l.getD k default).c)) ∧ CmD w B (l.getD k default).a (l.getD k default).n (l.getD k default).l := by
  obtain ⟨b, off, e, hlt, hc⟩ := h.q.rd (by omega)
  have hk' : k < l.length := by rw [h.q.len]; exact hk
  have hg : l.getD k default = l[k] := by simp [List.getD, hk']
  have c := hc k hk'
  rw [hg]
  exact ⟨b, off, e, hlt, ⟨c 0 (by decide), c 1 (by decide), c 2 (by decide)⟩, h.u _ (List.getElem_mem hk')⟩
end
/-- Numbers of one's own, or a slice without room. -/
def OwE (w : World) (base : Nat) (a : Option Addr) (m c : Nat) (u : List Int) : Prop := OwnI w base (.slice a m c) m u ∨ (m = 0 ∧ c = 0 ∧ u = [])
theorem OwE.nq {w : World} {base m c : Nat} {a : Option Addr} {u : List Int} (h : OwE w base a m c u) : Nq w w.heap.size a m u := by
  rcases h with h | ⟨rfl, rfl, rfl⟩
  · obtain ⟨a', c', e, _, hq⟩ := h.nq
    injection e with e1 e2 e3
    subst e1
    exact hq
  · exact Nq.nil _ _ _
theorem OwE.below {w w' : World} {base m c : Nat} {a : Option Addr} {u : List Int} (h : OwE w base a m c u) (hb : Below w.heap.size w w') : OwE w' base a m c u := h.imp (fun h => h.below hb) id
theorem OwE.weak {w : World} {base base' m c : Nat} {a : Option Addr} {u : List Int} (h : OwE w base a m c u) (hb : base' ≤ base) : OwE w base' a m c u := h.imp (fun h => h.weak hb) id
theorem OwE.drewN {w : World} {base m c : Nat} {a : Option Addr} {u : List Int} (h : OwE w base a m c u) (k : Nat) : OwE (w.drewN k) base a m c u := h
theorem OwE.fr {M : Nat → Prop} {w w' : World} {base m c : Nat} {a : Option Addr} {u : List Int} (h : OwE w base a m c u) (k : Fr M w w') (hm : ∀ b off, a = some ⟨b, off, none⟩ → base ≤ b → ¬ M b) : OwE w' base a m c u := by
  rcases h with h | h
  · refine .inl (Fr.owni h k fun j hj => ?_)
    obtain ⟨hl, hl2⟩ := h.lt j hj
    rcases h.2.2 with ⟨e, _⟩ | ⟨g, cap, cur, e, hg, _⟩
    · rw [e] at hj; cases hj
    · injection e with e1 e2 e3
      subst e1
      simp [Value.ownBlock] at hj
      subst hj
      exact hm g 0 rfl hg
  · exact .inr h
theorem Ow.typ {α : Type} {S : Sh α} {T : TypeId} {w : World} {base n : Nat} {v : Value} {l : List α} (h : Ow S T w base v n l) {j : Nat} (hj : v.ownBlock = some j) : ∃ cur fr, w.heap[j]? = some (.cells cur T fr) := by
  rcases h.row.2 with ⟨e, _⟩ | ⟨g, cap, cur, e, hg, hh, _⟩
  · rw [e] at hj; cases hj
  · rw [e] at hj
    simp [Value.ownBlock] at hj
    subst hj
    exact ⟨_, _, hh⟩
theorem OwnI.typ {w : World} {base n : Nat} {v : Value} {l : List Int} (h : OwnI w base v n l) {j : Nat} (hj : v.ownBlock = some j) : ∃ cur fr, w.heap[j]? = some (.cells cur 3 fr) := by
  rcases h.2.2 with ⟨e, _⟩ | ⟨g, cap, cur, e, hg, hh, _⟩
  · rw [e] at hj; cases hj
  · rw [e] at hj
    simp [Value.ownBlock] at hj
    subst hj
    exact ⟨_, _, hh⟩
/-- What writes no block of numbers keeps them. -/
theorem OwE.keep {M : Nat → Prop} {w w' : World} {base m c : Nat} {a : Option Addr} {u : List Int} (h : OwE w base a m c u) (k : Fr M w w') (hm : ∀ j cur fr, w.heap[j]? = some (.cells cur 3 fr) → ¬ M j) : OwE w' base a m c u := by
  rcases h with h | h
  · exact .inl (Fr.owni h k fun j hj => by obtain ⟨cur, fr, e⟩ := h.typ hj; exact hm j cur fr e)
  · exact .inr h
/-- Commands of one's own, through and through. -/
structure OwC (w : World) (base : Nat) (v : Value) (n : Nat) (l : List Cv) : Prop where
  o : Ow shC 50 w base v n l
  u : ∀ x, x ∈ l → OwE w base x.a x.m x.c x.u
section
variable {w w' : World} {base base' n : Nat} {v : Value} {l : List Cv}
theorem OwC.below (h : OwC w base v n l) (hb : Below w.heap.size w w') : OwC w' base v n l := ⟨h.o.below hb, fun x hx => (h.u x hx).below hb⟩
theorem OwC.weak (h : OwC w base v n l) (hb : base' ≤ base) : OwC w base' v n l := ⟨h.o.weak hb, fun x hx => (h.u x hx).weak hb⟩
theorem OwC.drewN (h : OwC w base v n l) (m : Nat) : OwC (w.drewN m) base v n l := ⟨h.o.drewN m, fun x hx => (h.u x hx).drewN m⟩
theorem OwC.nil (w : World) (base : Nat) : OwC w base (.slice none 0 0) 0 [] := ⟨Ow.nil _ _, fun _ h => by cases h⟩
theorem OwC.d {a : Option Addr} {c : Nat} (h : OwC w base (.slice a n c) n l) : CmD w w.heap.size a n l := ⟨h.o.qv, fun x hx => (h.u x hx).nq⟩
end
/-- Commands of one's own, or a slice without room. -/
def OwCE (w : World) (base : Nat) (a : Option Addr) (n c : Nat) (l : List Cv) : Prop := OwC w base (.slice a n c) n l ∨ (n = 0 ∧ c = 0 ∧ l = [])
section
variable {w w' : World} {base base' n c : Nat} {a : Option Addr} {l : List Cv}
theorem OwCE.d (h : OwCE w base a n c l) : CmD w w.heap.size a n l := by
  rcases h with h | ⟨rfl, rfl, rfl⟩
  · exact h.d
  · exact CmD.nil _ _ _
theorem OwCE.below (h : OwCE w base a n c l) (hb : Below w.heap.size w w') : OwCE w' base a n c l := h.imp (fun h => h.below hb) id
theorem OwCE.weak (h : OwCE w base a n c l) (hb : base' ≤ base) : OwCE w base' a n c l := h.imp (fun h => h.weak hb) id
theorem OwCE.drewN (h : OwCE w base a n c l) (m : Nat) : OwCE (w.drewN m) base a n c l := h.imp (fun h => h.drewN m) id
end
/-- What writes no block of numbers or of commands keeps them. -/
theorem OwC.keep {M : Nat → Prop} {w w' : World} {base n : Nat} {v : Value} {l : List Cv} (h : OwC w base v n l) (k : Fr M w w') (hm : ∀ j cur fr, w.heap[j]? = some (.cells cur 3 fr) → ¬ M j) (hm2 : ∀ j cur fr, w.heap[j]? = some (.cells cur 50 fr) → ¬ M j) : OwC w' base v n l :=
  ⟨h.o.fr k fun j hj => by obtain ⟨cur, fr, e⟩ := h.o.typ hj; exact hm2 j cur fr e, fun x hx => (h.u x hx).keep k hm⟩
theorem OwCE.keep {M : Nat → Prop} {w w' : World} {base n c : Nat} {a : Option Addr} {l : List Cv} (h : OwCE w base a n c l) (k : Fr M w w') (hm : ∀ j cur fr, w.heap[j]? = some (.cells cur 3 fr) → ¬ M j) (hm2 : ∀ j cur fr, w.heap[j]? = some (.cells cur 50 fr) → ¬ M j) : OwCE w' base a n c l := h.imp (fun h => h.keep k hm hm2) id
/-- What writes below keeps what lies above. -/
theorem OwE.up {M : Nat → Prop} {w w' : World} {base m c : Nat} {a : Option Addr} {u : List Int} (h : OwE w base a m c u) (k : Fr M w w') (hm : ∀ j, base ≤ j → ¬ M j) : OwE w' base a m c u := by
  rcases h with h | h
  · exact .inl (Fr.owni h k fun j hj => hm j (h.lt j hj).1)
  · exact .inr h
theorem OwC.up {M : Nat → Prop} {w w' : World} {base n : Nat} {v : Value} {l : List Cv} (h : OwC w base v n l) (k : Fr M w w') (hm : ∀ j, base ≤ j → ¬ M j) : OwC w' base v n l := ⟨h.o.fr k fun j hj => hm j (h.o.lt j hj).1, fun x hx => (h.u x hx).up k hm⟩
theorem OwCE.up {M : Nat → Prop} {w w' : World} {base n c : Nat} {a : Option Addr} {l : List Cv} (h : OwCE w base a n c l) (k : Fr M w w') (hm : ∀ j, base ≤ j → ¬ M j) : OwCE w' base a n c l := h.imp (fun h => h.up k hm) id
/-- Inputs of one's own, through and through. -/
structure OwN (w : World) (base : Nat) (v : Value) (n : Nat) (l : List Iv) : Prop where
  o : Ow shI 55 w base v n l
  u : ∀ x, x ∈ l → OwCE w base x.a x.n x.c x.l
section
variable {w w' : World} {base base' n : Nat} {v : Value} {l : List Iv}
theorem OwN.below (h : OwN w base v n l) (hb : Below w.heap.size w w') : OwN w' base v n l := ⟨h.o.below hb, fun x hx => (h.u x hx).below hb⟩
theorem OwN.weak (h : OwN w base v n l) (hb : base' ≤ base) : OwN w base' v n l := ⟨h.o.weak hb, fun x hx => (h.u x hx).weak hb⟩
theorem OwN.drewN (h : OwN w base v n l) (m : Nat) : OwN (w.drewN m) base v n l := ⟨h.o.drewN m, fun x hx => (h.u x hx).drewN m⟩
theorem OwN.nil (w : World) (base : Nat) : OwN w base (.slice none 0 0) 0 [] := ⟨Ow.nil _ _, fun _ h => by cases h⟩
theorem OwN.d {a : Option Addr} {c : Nat} (h : OwN w base (.slice a n c) n l) : InD w w.heap.size a n l := ⟨h.o.qv, fun x hx => (h.u x hx).d⟩
end
theorem getD_mapC {l : List Cv} {k : Nat} (h : k < l.length) : (l.map Cv.ab)[k]? = some (l.getD k default).ab := by simp [List.getD, h]
theorem take_snocC {l : List Cv} {k : Nat} (h : k < l.length) : l.take (k + 1) = l.take k ++ [l.getD k default] := by rw [List.take_succ_eq_append_getElem h]; simp [List.getD, h]
theorem take_snocI {l : List Iv} {k : Nat} (h : k < l.length) : l.take (k + 1) = l.take k ++ [l.getD k default] := by rw [List.take_succ_eq_append_getElem h]; simp [List.getD, h]
end Go.Proofs.Ytdpblimhfmfbnaa
/- Rules by which a walk reads old cells in a later world. -/
namespace Go.Proofs.Ytdpblimhfmfbnaa
open Go.RowKit
theorem kw_rules {N : Nat} {W X : World} (h : Below N W X) (hN : N ≤ W.heap.size) :
    (∀ b o, b < N → X.cell? ⟨b, o, none⟩ = W.cell? ⟨b, o, none⟩) ∧ (∀ b o, b < N → X.frozen? ⟨b, o, none⟩ = W.frozen? ⟨b, o, none⟩) ∧ (∀ b, b < N → b < X.heap.size) ∧ (∀ b, b < N → ¬ b = X.heap.size) ∧ (∀ b, b < N → ¬ X.heap.size = b) := by
  have hs := h.size
  exact ⟨fun b o hb => h.cell (p := ⟨b, o, none⟩) hb, fun b o hb => h.frozen (p := ⟨b, o, none⟩) hb, fun b hb => by omega, fun b hb => by omega, fun b hb => by omega⟩
theorem kw_step {N : Nat} {W X Y : World} (h : Below N W X) (hN : N ≤ W.heap.size) (hb : Below X.heap.size X Y) : Below N W Y := h.trans (hb.mono (Nat.le_trans hN h.size))
theorem kw_drew {N : Nat} {W X : World} (h : Below N W X) : Below N W X.drew := h.drew
theorem bset {B : Nat} {w X : World} (h : Below B w X) {b : Nat} (off : Nat) (hb : B ≤ b) (v : Value) : Below B w (X.setCell ⟨b, off, none⟩ v) := Below.setCell (p := ⟨b, off, none⟩) h hb v
theorem kw_S {N : Nat} {W X : World} (h : Below N W X) : (∀ b o, b < N → X.cell? ⟨b, o, none⟩ = W.cell? ⟨b, o, none⟩) ∧ Below N W X := ⟨fun b o hb => h.cell (p := ⟨b, o, none⟩) hb, h⟩
theorem kw_size {N : Nat} {W X : World} (h : Below N W X) (hN : N ≤ W.heap.size) : N ≤ X.heap.size := Nat.le_trans hN h.size
end Go.Proofs.Ytdpblimhfmfbnaa
