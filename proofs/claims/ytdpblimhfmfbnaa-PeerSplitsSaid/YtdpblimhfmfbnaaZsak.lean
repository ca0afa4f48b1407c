import Derived.Deep.QuietTactic
import Derived.BigQuiet
import Derived.Deep.RegionWith
import Derived.Deep.RegionHeld3
import Derived.Deep.DeepCutAuto
import Derived.Deep.DeepFit
import Derived.Outline
import Derived.Test.YtdpblimhfmfbnaaZsaj
import Derived.Test.YtdpblimhfmfbnaaZsac
import Derived.Test.YtdpblimhfmfbnaaZsb
import Derived.SizedLaws
import Derived.Test.YtdpblimhfmfbnaaZsd
import Derived.Test.YtdpblimhfmfbnaaZsae
set_option linter.unusedVariables false
set_option linter.unusedSimpArgs false
namespace Go.Proofs.Ytdpblimhfmfbnaa
open Go.ChangeShapes Go.WideShapes Go.ChangeAt Go.RowKit Go.Deep
def RRd (w : World) (p : Pv) (e : Ending) (z : World) : Prop := ∃ a2 n2 c2 M, e = .returned (.tuple #[.slice a2 n2 c2, .bool true]) ∧ OwC z w.heap.size (.slice a2 n2 c2) n2 M ∧ abC M = flR (mergeN ((abI p.ll).filter (fun x => x.t == p.t))) ∧ Below w.heap.size w z
end Go.Proofs.Ytdpblimhfmfbnaa
namespace Go.Proofs.Ytdpblimhfmfbnaa
open Go.ChangeShapes Go.WideShapes Go.ChangeAt Go.RowKit Go.Deep
def Asks22 (w : World) (a0 : Option Addr) (len cap : Nat) : Prop :=
 len ≤ cap ∧ cap ≤ 9223372036854775807 ∧ ∀ i, i < len → ∃ (b off : Nat) (p s k n : Int) (a : Option Addr) (m c : Nat) (u : List Int) (t wd h x y : Int) (ax : Option Addr) (nx cx : Nat) (ys : List Int), a0 = some ⟨b, off, none⟩ ∧ b < w.heap.size ∧ m ≤ 9223372036854775807 ∧ Nq w w.heap.size a m u ∧ (nx ≤ cx ∧ cx ≤ 9223372036854775807 ∧ (ax = none → cx = 0) ∧ By w w.heap.size ax nx ys) ∧
  w.cell? ⟨b, off + i * 11, none⟩ = some (.int .i64 p) ∧ w.cell? ⟨b, off + i * 11 + 1, none⟩ = some (.int .i64 s) ∧ w.cell? ⟨b, off + i * 11 + 2, none⟩ = some (.int .i64 k) ∧ w.cell? ⟨b, off + i * 11 + 3, none⟩ = some (.int .i64 n) ∧ w.cell? ⟨b, off + i * 11 + 4, none⟩ = some (.slice a m c) ∧ w.cell? ⟨b, off + i * 11 + 5, none⟩ = some (.int .i64 t) ∧ w.cell? ⟨b, off + i * 11 + 6, none⟩ = some (.int .i64 wd) ∧ w.cell? ⟨b, off + i * 11 + 7, none⟩ = some (.int .i64 h) ∧ w.cell? ⟨b, off + i * 11 + 8, none⟩ = some (.int .i64 x) ∧ w.cell? ⟨b, off + i * 11 + 9, none⟩ = some (.int .i64 y) ∧ w.cell? ⟨b, off + i * 11 + 10, none⟩ = some (.slice ax nx cx)
end Go.Proofs.Ytdpblimhfmfbnaa
namespace Go.Proofs.Ytdpblimhfmfbnaa
open Go.ChangeShapes Go.WideShapes Go.ChangeAt Go.RowKit Go.Deep
def Szd {H : Type} (t : TypeId) (d : DataW H) : Prop := ∀ n, n ∈ d.weights Try.prog t → n ≤ reachBytes
section
variable {H : Type} {enc : TypeId × Value → H} {w : World} {base : Nat} {held : Bool} {fuel : Nat} {x : DataW H × List MemPlace}
end
def Asks27 (w : World) (v : Value) : Prop := ∃ (la : Option Addr) (ln lc : Nat) (l : List Iv) (ma : Option Addr) (mn mc : Nat) (m : List Iv) (ta : Option Addr) (tn tc : Nat) (ts : List Int),
 v = .agg #[.slice la ln lc, .slice ma mn mc, .slice ta tn tc] ∧ (ln ≤ 17592186044416 ∧ InD w w.heap.size la ln l ∧ BdI l) ∧ (mn ≤ 17592186044416 ∧ InD w w.heap.size ma mn m ∧ BdI m) ∧ (tn ≤ 17592186044416 ∧ Nq w w.heap.size ta tn ts)
end Go.Proofs.Ytdpblimhfmfbnaa
namespace Go.Proofs.Ytdpblimhfmfbnaa
open Go.ChangeShapes Go.WideShapes Go.ChangeAt Go.RowKit Go.Deep
section
variable {H : Type} {enc : TypeId × Value → H} {w : World} {base : Nat} {held : Bool} {fuel : Nat} {x : DataW H × List MemPlace}
structure BdP (p : Pv) : Prop where
 m : p.mn ≤ 17592186044416
 l : p.ln ≤ 17592186044416
 h : p.hn ≤ 17592186044416
 a : p.an ≤ 17592186044416
 x : p.xn ≤ 17592186044416
 mb : BdI p.ml
 lb : BdI p.ll
end
end Go.Proofs.Ytdpblimhfmfbnaa
namespace Go.Proofs.Ytdpblimhfmfbnaa
open Go.ChangeShapes Go.WideShapes Go.ChangeAt Go.RowKit Go.Deep
structure Nv where
 f : Int
 t : Int
 q : Iv
 d : Int
 h : Int
 v : Int
deriving Inhabited
abbrev jjN (q : Nv) : Array Value := #[.int .i64 q.f, .int .i64 q.t, .int .i64 q.q.t, .int .i64 q.q.p, .slice q.q.a q.q.n q.q.c, .int .i64 q.d, .int .u64 q.h, .int .i64 q.v]
def Nv.cs (e : Nv) : List Value := [.int .i64 e.f, .int .i64 e.t, .int .i64 e.q.t, .int .i64 e.q.p, .slice e.q.a e.q.n e.q.c, .int .i64 e.d, .int .u64 e.h, .int .i64 e.v]
structure Av where
 o : Int
 la : Option Addr
 ln : Nat
 lc : Nat
 ll : List Cv
 e : Nv
 b : Bool
 h : Int
deriving Inhabited
def Av.cs (x : Av) : List Value := [.int .i64 x.o, .slice x.la x.ln x.lc, .int .i64 x.e.f, .int .i64 x.e.t, .int .i64 x.e.q.t, .int .i64 x.e.q.p, .slice x.e.q.a x.e.q.n x.e.q.c, .int .i64 x.e.d, .int .u64 x.e.h, .int .i64 x.e.v, .bool x.b, .int .u64 x.h]
def shA : Sh Av := ⟨Av.cs, 12, fun _ => rfl, fun x u hu => by
 simp [Av.cs] at hu
 rcases hu with rfl | rfl | rfl | rfl | rfl | rfl | rfl | rfl | rfl | rfl | rfl | rfl <;> rfl⟩
structure AvD (w : World) (B : Nat) (x : Av) : Prop where
 l : CmD w B x.la x.ln x.ll
 n : CmD w B x.e.q.a x.e.q.n x.e.q.l
 l1 : x.ln ≤ 17592186044416
 l2 : ∀ y, y ∈ x.ll → y.m ≤ 17592186044416
 n1 : x.e.q.n ≤ 17592186044416
 n2 : ∀ y, y ∈ x.e.q.l → y.m ≤ 17592186044416
structure AsD (w : World) (B : Nat) (a : Option Addr) (n : Nat) (l : List Av) : Prop where
 q : Qv shA w B a n l
 u : ∀ x, x ∈ l → AvD w B x
section
variable {H : Type} {enc : TypeId × Value → H} {w : World} {base : Nat} {held : Bool} {fuel : Nat} {x : DataW H × List MemPlace}
end
def Asks28z (w : World) (v : Value) : Prop := ∃ (p : Pv) (la : Option Addr) (ln lc : Nat) (l : List Av),
 v = .agg #[.int .i64 p.i, .int .i64 p.n, .int .i64 p.d, .int .i64 p.t, .int .i64 p.s, .slice p.ma p.mn p.mc, .slice p.la p.ln p.lc, .slice p.ha p.hn p.hc, .slice p.aa p.an p.ac, .slice p.xa p.xn p.xc, .bool p.b, .slice la ln lc] ∧ (PvD w w.heap.size p ∧ BdP p) ∧ ln ≤ 17592186044416 ∧ AsD w w.heap.size la ln l
end Go.Proofs.Ytdpblimhfmfbnaa
namespace Go.Proofs.Ytdpblimhfmfbnaa
open Go.ChangeShapes Go.WideShapes Go.ChangeAt Go.RowKit Go.Deep
structure Nm where
 f : Int
 t : Int
 q : In
 d : Int
 h : Int
 v : Int
def Nv.ab (e : Nv) : Nm := ⟨e.f, e.t, e.q.ab, e.d, e.h, e.v⟩
def abN (l : List Nv) : List Nm := l.map Nv.ab
def shN : Sh Nv := ⟨Nv.cs, 8, fun _ => rfl, fun x u hu => by
 simp [Nv.cs] at hu
 rcases hu with rfl | rfl | rfl | rfl | rfl | rfl | rfl | rfl <;> rfl⟩
structure NsD (w : World) (B : Nat) (a : Option Addr) (n : Nat) (l : List Nv) : Prop where
 q : Qv shN w B a n l
 u : ∀ x, x ∈ l → CmD w B x.q.a x.q.n x.q.l
theorem NsD.later {w w' : World} {a : Option Addr} {n : Nat} {l : List Nv} (h : NsD w w.heap.size a n l) (hb : Below w.heap.size w w') : NsD w' w'.heap.size a n l := ⟨(h.q.below hb (Nat.le_refl _)).mono hb.size, fun x hx => (h.u x hx).later hb⟩
theorem NsD.nil (w : World) (B : Nat) (a : Option Addr) : NsD w B a 0 [] := ⟨Qv.nil _ _ _, fun _ h => by cases h⟩
theorem abN_len (l : List Nv) : (abN l).length = l.length := List.length_map _
theorem NsD.eight {w : World} {B : Nat} {a : Option Addr} {n : Nat} {l : List Nv} (h : NsD w B a n l) {k : Nat} (hk : k < n) {q : Nv} (hq : l.getD k default = q) : CmD w B q.q.a q.q.n q.q.l ∧ q ∈ l ∧ ∃ b off, a = some ⟨b, off, none⟩ ∧ b < B ∧ ∀ j, j < 8 → w.cell? ⟨b, off + k * 8 + j, none⟩ = q.cs[j]? := by
 obtain ⟨b, off, e, hlt, hc⟩ := h.q.rd (by omega)
 have hk' : k < l.length := by rw [h.q.len]; exact hk
 have hg : l.getD k default = l[k] := by simp [List.getD, hk']
 rw [hg] at hq
 subst hq
 exact ⟨h.u _ (List.getElem_mem hk'), List.getElem_mem hk', b, off, e, hlt, fun j hj => hc k hk' j hj⟩
end Go.Proofs.Ytdpblimhfmfbnaa
