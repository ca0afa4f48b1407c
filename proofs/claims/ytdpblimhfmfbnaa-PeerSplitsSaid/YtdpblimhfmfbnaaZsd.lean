import Derived.WalkKit
import Derived.Below
import Derived.Test.YtdpblimhfmfbnaaProg
import Derived.Deep.QuietTactic
import Derived.BigQuiet
import Derived.Deep.RegionWith
import Derived.Deep.RegionHeld3
import Derived.Deep.DeepCutAuto
import Derived.Deep.DeepFit
import Derived.Outline
import Derived.Test.YtdpblimhfmfbnaaZsc
import Derived.OwnWalk
import Derived.Test.YtdpblimhfmfbnaaZsb
import Derived.Test.YtdpblimhfmfbnaaZsa
import Derived.IntWalk
set_option linter.unusedVariables false
set_option linter.unusedSimpArgs false
namespace Go.Proofs.Ytdpblimhfmfbnaa
open Go.RowKit
theorem kw_step {N : Nat} {W X Y : World} (h : Below N W X) (hN : N ≤ W.heap.size) (hb : Below X.heap.size X Y) : Below N W Y := h.trans (hb.mono (Nat.le_trans hN h.size))
theorem kw_drew {N : Nat} {W X : World} (h : Below N W X) : Below N W X.drew := h.drew
theorem kw_S {N : Nat} {W X : World} (h : Below N W X) : (∀ b o, b < N → X.cell? ⟨b, o, none⟩ = W.cell? ⟨b, o, none⟩) ∧ Below N W X := ⟨fun b o hb => h.cell (p := ⟨b, o, none⟩) hb, h⟩
theorem kw_size {N : Nat} {W X : World} (h : Below N W X) (hN : N ≤ W.heap.size) : N ≤ X.heap.size := Nat.le_trans hN h.size
end Go.Proofs.Ytdpblimhfmfbnaa
namespace Go.Proofs.Ytdpblimhfmfbnaa
open Go.ChangeShapes Go.WideShapes Go.ChangeAt Go.RowKit Go.Deep
theorem wr27 {x : Int} (h : -9223372036854775808 ≤ x) (h' : x ≤ 9223372036854775807) : IntKind.i64.wrap x = x := by rw [IntKind.wrap_i64]; omega
theorem nx_ms {i n : Nat} (h : i < n) : n - (intOf (.int .i64 ((i : Int) + 1))).toNat < n - (intOf (.int .i64 (i : Int))).toNat := by simp [intOf]; omega
theorem nx_ms' {i n : Nat} (h : i < n) : n - (intOf (.int .i64 ((i + 1 : Nat) : Int))).toNat < n - (intOf (.int .i64 (i : Int))).toNat := by simp [intOf]; omega
theorem all_getC {l : List Cv} {P : Cv → Prop} (h : ∀ j, j < l.length → P (l.getD j default)) : ∀ x, x ∈ l → P x := fun x hx => by
 obtain ⟨j, hj, rfl⟩ := List.mem_iff_getElem.1 hx
 have := h j hj
 simpa [List.getD, hj] using this
theorem all_getI {l : List Iv} {P : Iv → Prop} (h : ∀ j, j < l.length → P (l.getD j default)) : ∀ x, x ∈ l → P x := fun x hx => by
 obtain ⟨j, hj, rfl⟩ := List.mem_iff_getElem.1 hx
 have := h j hj
 simpa [List.getD, hj] using this
theorem getD_memC {l : List Cv} {k : Nat} (h : k < l.length) : l.getD k default ∈ l := by simp [List.getD, h]
theorem getD_memI {l : List Iv} {k : Nat} (h : k < l.length) : l.getD k default ∈ l := by simp [List.getD, h]
def WSe (a b : World) : Prop := a = b
def mxC (r : Nat) (l : List Cv) : Prop := l.length ≤ r ∧ ∀ x, x ∈ l → x.m ≤ r
structure CwR (r : Nat) (l : List Cv) : Prop where
 le : r ≤ 17592187092992
 mx : r < 1048576 → mxC r l
def mxI (r : Nat) (l : List Iv) : Prop := l.length ≤ r ∧ ∀ i, i ∈ l → mxC r i.l
theorem mxC.mono {r r' : Nat} {l : List Cv} (h : mxC r l) (hr : r ≤ r') : mxC r' l := ⟨Nat.le_trans h.1 hr, fun x hx => Nat.le_trans (h.2 x hx) hr⟩
structure BdI (l : List Iv) : Prop where
 n : ∀ i, i ∈ l → i.n ≤ 17592186044416
 m : ∀ i, i ∈ l → ∀ x, x ∈ i.l → x.m ≤ 17592186044416
structure IwR (r : Nat) (l : List Iv) : Prop where
 le : r ≤ 17592188141568
 mx : r < 1048576 → mxI r l
end Go.Proofs.Ytdpblimhfmfbnaa
namespace Go.Proofs.Ytdpblimhfmfbnaa
open Go.RowKit
structure Arr (w : World) (g n : Nat) (T : TypeId) (f : Nat → Value) : Prop where
 ex : ∃ cur : Array Value, w.heap[g]? = some (.cells cur T (0, 0)) ∧ cur.size = n ∧ ∀ k, k < n → cur[k]? = some (f k)
theorem Arr.lt {w : World} {g n : Nat} {T : TypeId} {f : Nat → Value} (h : Arr w g n T f) : g < w.heap.size := by
 obtain ⟨cur, e, _⟩ := h.ex
 exact (Array.getElem?_eq_some_iff.1 e).1
theorem Arr.cell {w : World} {g n : Nat} {T : TypeId} {f : Nat → Value} (h : Arr w g n T f) {k : Nat} (hk : k < n) : w.cell? ⟨g, k, none⟩ = some (f k) := by
 obtain ⟨cur, e, hs, hc⟩ := h.ex
 simp [World.cell?, e, hc k hk]
theorem Arr.frozen {w : World} {g n : Nat} {T : TypeId} {f : Nat → Value} (h : Arr w g n T f) (k : Nat) : w.frozen? ⟨g, k, none⟩ = false := by
 obtain ⟨cur, e, hs, hc⟩ := h.ex
 simp [World.frozen?, e]
theorem Arr.of_block {w w' : World} {g n : Nat} {T : TypeId} {f : Nat → Value} (h : Arr w g n T f) (e : w'.heap[g]? = w.heap[g]?) : Arr w' g n T f := by
 obtain ⟨cur, e', hs, hc⟩ := h.ex
 exact ⟨cur, by rw [e]; exact e', hs, hc⟩
theorem Arr.below {w w' : World} {B g n : Nat} {T : TypeId} {f : Nat → Value} (h : Arr w g n T f) (k : Below B w w') (hg : g < B) : Arr w' g n T f := h.of_block (k.block g hg)
theorem Arr.later {w w' : World} {g n : Nat} {T : TypeId} {f : Nat → Value} (h : Arr w g n T f) (k : Below w.heap.size w w') : Arr w' g n T f := h.below k h.lt
theorem Arr.fr {M : Nat → Prop} {w w' : World} {g n : Nat} {T : TypeId} {f : Nat → Value} (h : Arr w g n T f) (k : Fr M w w') (hm : ¬ M g) : Arr w' g n T f := h.of_block (k.block g h.lt hm)
theorem Arr.drewN {w : World} {g n : Nat} {T : TypeId} {f : Nat → Value} (h : Arr w g n T f) (m : Nat) : Arr (w.drewN m) g n T f := h.of_block rfl
theorem Arr.drew {w : World} {g n : Nat} {T : TypeId} {f : Nat → Value} (h : Arr w g n T f) : Arr w.drew g n T f := h.of_block rfl
theorem Arr.alloc {w : World} {g n : Nat} {T : TypeId} {f : Nat → Value} (h : Arr w g n T f) (o : Obj) : Arr (w.alloc o) g n T f := h.later ((Below.refl _ _).alloc (Nat.le_refl _) o)
theorem Arr.congr {w : World} {g n : Nat} {T : TypeId} {f f' : Nat → Value} (h : Arr w g n T f) (e : ∀ k, k < n → f' k = f k) : Arr w g n T f' := by
 obtain ⟨cur, e', hs, hc⟩ := h.ex
 exact ⟨cur, e', hs, fun k hk => by rw [e k hk]; exact hc k hk⟩
theorem Arr.far {w : World} {g n : Nat} {T : TypeId} {f : Nat → Value} (h : Arr w g n T f) (p : Addr) (v : Value) (hp : g ≠ p.block) : Arr (w.setCell p v) g n T f :=
 h.of_block (Go.heap_setCell_other _ _ _ _ hp)
theorem Arr.set {w : World} {g n : Nat} {T : TypeId} {f : Nat → Value} (h : Arr w g n T f) {k : Nat} (hk : k < n) (v : Value) : Arr (w.setCell ⟨g, k, none⟩ v) g n T (fun j => if j = k then v else f j) := by
 obtain ⟨cur, e, hs, hc⟩ := h.ex
 have hg := (Array.getElem?_eq_some_iff.1 e).1
 refine ⟨cur.setIfInBounds k v, ?_, by simp [hs], fun j hj => ?_⟩
 ·have hge : w.heap[g] = .cells cur T (0, 0) := by simpa [hg] using e
  simp [World.setCell, hg, Array.getElem_modify, hge]
 ·by_cases ej : j = k
  ·subst ej; simp [hs, hj]
  ·rw [Array.getElem?_setIfInBounds_ne (Ne.symm ej), if_neg ej]; exact hc j hj
theorem Arr.new (w : World) (cs : Array Value) (T : TypeId) (f : Nat → Value) (n : Nat) (hs : cs.size = n) (h : ∀ k, k < n → cs[k]? = some (f k)) : Arr (w.alloc (.cells cs T)) w.heap.size n T f :=
 ⟨cs, Go.heap_alloc_new _ _, hs, h⟩
theorem Arr.rd {w : World} {g n B : Nat} {T : TypeId} {f : Nat → Value} (h : Arr w g n T f) (hg : g < B) : Rd w B (some ⟨g, 0, none⟩) n f :=
 fun _ => ⟨g, 0, rfl, hg, fun k hk => by rw [Nat.zero_add]; exact h.cell hk⟩
theorem Arr.own {w : World} {base g n : Nat} {T : TypeId} {xs : List Value} (h : w.ownsRow base T 1 (.slice (some ⟨g, 0, none⟩) n n) n xs) (f : Nat → Value) (e : ∀ k, k < n → xs[k]? = some (f k)) : Arr w g n T f := by
 rcases h.2 with ⟨hv, _⟩ | ⟨g', cap, cur, hv, hb, hg, h1, h2, h3, h4⟩
 ·simp at hv
 ·simp at hv
  obtain ⟨rfl, rfl⟩ := hv
  refine ⟨cur, hg, by omega, fun k hk => ?_⟩
  have := e k hk
  rw [← h4, List.getElem?_take, if_pos (by omega)] at this
  simpa using this
theorem below_grown {w w' : World} (h : w.grownBy w' none) : Below w.heap.size w w' := (Below.refl _ _).grown h (Nat.le_refl _) (fun _ h => by cases h)
end Go.Proofs.Ytdpblimhfmfbnaa
namespace Go.Proofs.Ytdpblimhfmfbnaa
def gB (W H : Int) (n : Nat) (xs : List Int) : Bool := decide (1 ≤ W ∧ W ≤ 128 ∧ 1 ≤ H ∧ H ≤ 128 ∧ (n : Int) = W * H ∧ ∀ x ∈ xs, x ≤ 5)
def gE (W H : Int) (n : Nat) (xs : List Int) : Int := if gB W H n xs = true then 0 else 1
structure GOk (W H : Int) (n : Nat) (xs : List Int) : Prop where
 w1 : 1 ≤ W
 w2 : W ≤ 128
 h1 : 1 ≤ H
 h2 : H ≤ 128
 nn : (n : Int) = W * H
 ts : ∀ x ∈ xs, x ≤ 5
structure GHd (W H : Int) (n : Nat) : Prop where
 w1 : 1 ≤ W
 w2 : W ≤ 128
 h1 : 1 ≤ H
 h2 : H ≤ 128
 nn : (n : Int) = W * H
end Go.Proofs.Ytdpblimhfmfbnaa
namespace Go.Proofs.Ytdpblimhfmfbnaa
open Go.RowKit
structure Bd where
 i : Int
 o : Int
 x : Int
 y : Int
 w : Int
 h : Int
instance : Inhabited Bd := ⟨⟨0, 0, 0, 0, 0, 0⟩⟩
def Bd.v (b : Bd) : Value := .agg #[.int .i64 b.i, .int .i64 b.o, .int .i64 b.x, .int .i64 b.y, .int .i64 b.w, .int .i64 b.h]
def Bd.c (b : Bd) : Nat → Int
 | 0 => b.i
 | 1 => b.o
 | 2 => b.x
 | 3 => b.y
 | 4 => b.w
 | _ => b.h
def fmB (b : Bd) : Bool := decide (1 ≤ b.i ∧ b.i ≤ 1099511627776 ∧ 1 ≤ b.o ∧ b.o ≤ 8 ∧ 1 ≤ b.w ∧ b.w ≤ 4 ∧ 1 ≤ b.h ∧ b.h ≤ 4)
structure FmOk (b : Bd) : Prop where
 i1 : 1 ≤ b.i
 i2 : b.i ≤ 1099511627776
 o1 : 1 ≤ b.o
 o2 : b.o ≤ 8
 w1 : 1 ≤ b.w
 w2 : b.w ≤ 4
 h1 : 1 ≤ b.h
 h2 : b.h ≤ 4
def inB (W H : Int) (b : Bd) : Bool := decide (0 ≤ b.x ∧ b.x ≤ W - b.w ∧ 0 ≤ b.y ∧ b.y ≤ H - b.h)
structure InOk (W H : Int) (b : Bd) : Prop where
 x1 : 0 ≤ b.x
 x2 : b.x ≤ W - b.w
 y1 : 0 ≤ b.y
 y2 : b.y ≤ H - b.h
def hsB (W : Int) (b : Bd) (t : Int) : Bool := decide (b.x ≤ t % W ∧ t % W < b.x + b.w ∧ b.y ≤ t / W ∧ t / W < b.y + b.h)
def undAt (W : Int) (b : Bd) (k : Nat) : Int := b.x + ((k % b.w.toNat : Nat) : Int) + W * (b.y + ((k / b.w.toNat : Nat) : Int))
def undL (W : Int) (b : Bd) : List Int := (List.range (b.w.toNat * b.h.toNat)).map (undAt W b)
def frB (W : Int) (xs : List Int) (b : Bd) : Bool := (undL W b).all fun t => decide (xs.getD t.toNat 0 ≤ 1)
def mtB (a b : Bd) : Bool := decide (a.x < b.x + b.w ∧ b.x < a.x + a.w ∧ a.y < b.y + b.h ∧ b.y < a.y + a.h)
def ascB (bs : List Bd) : Prop := ∀ k, k + 1 < bs.length → (bs.getD k default).i < (bs.getD (k + 1) default).i
def cvB (W : Int) (bs : List Bd) (t : Int) : Bool := bs.any fun b => hsB W b t
structure MOk (W H : Int) (n : Nat) (xs : List Int) (bs : List Bd) : Prop where
 g : GOk W H n xs
 len : bs.length ≤ 256
 asc : ascB bs
 fm : ∀ b ∈ bs, FmOk b
 ins : ∀ b ∈ bs, InOk W H b
 fr : ∀ b ∈ bs, frB W xs b = true
 ap : ∀ i j, j < i → i < bs.length → mtB (bs.getD i default) (bs.getD j default) = false
end Go.Proofs.Ytdpblimhfmfbnaa
namespace Go.Proofs.Ytdpblimhfmfbnaa
open Go.RowKit
def I64' (x : Int) : Prop := -9223372036854775808 ≤ x ∧ x ≤ 9223372036854775807
end Go.Proofs.Ytdpblimhfmfbnaa
