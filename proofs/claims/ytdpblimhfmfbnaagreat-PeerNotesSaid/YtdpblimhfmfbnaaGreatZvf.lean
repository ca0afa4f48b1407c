import Derived.Test.YtdpblimhfmfbnaaGreatZva
import Derived.Test.YtdpblimhfmfbnaaGreatZve
import Derived.IntWalk
import Derived.Below
import Derived.BigGuardPart
import Derived.Deep.QuietTactic
import Derived.BigQuiet
import Derived.Deep.RegionWith
import Derived.Deep.RegionHeld3
import Derived.Deep.DeepCutAuto
import Derived.Deep.DeepFit
import Derived.Outline
import Derived.Test.YtdpblimhfmfbnaaGreatZvb
set_option linter.unusedVariables false
set_option linter.unusedSimpArgs false
namespace Go.Proofs.YtdpblimhfmfbnaaGreat
def gB (W H : Int) (n : Nat) (xs : List Int) : Bool := decide (1 ≤ W ∧ W ≤ 128 ∧ 1 ≤ H ∧ H ≤ 128 ∧ (n : Int) = W * H ∧ ∀ x ∈ xs, x ≤ 5)
def gE (W H : Int) (n : Nat) (xs : List Int) : Int := if gB W H n xs = true then 0 else 1
structure GOk (W H : Int) (n : Nat) (xs : List Int) : Prop where
 w1 : 1 ≤ W
 w2 : W ≤ 128
 h1 : 1 ≤ H
 h2 : H ≤ 128
 nn : (n : Int) = W * H
 ts : ∀ x ∈ xs, x ≤ 5
structure GHd (W H : Int) (n : Nat) : Prop where
 w1 : 1 ≤ W
 w2 : W ≤ 128
 h1 : 1 ≤ H
 h2 : H ≤ 128
 nn : (n : Int) = W * H
end Go.Proofs.YtdpblimhfmfbnaaGreat
namespace Go.Proofs.YtdpblimhfmfbnaaGreat
open Go.RowKit
structure Bd where
 i : Int
 o : Int
 x : Int
 y : Int
 w : Int
 h : Int
instance : Inhabited Bd := ⟨⟨0, 0, 0, 0, 0, 0⟩⟩
def Bd.v (b : Bd) : Value := .agg #[.int .i64 b.i, .int .i64 b.o, .int .i64 b.x, .int .i64 b.y, .int .i64 b.w, .int .i64 b.h]
def Bd.c (b : Bd) : Nat → Int
 | 0 => b.i
 | 1 => b.o
 | 2 => b.x
 | 3 => b.y
 | 4 => b.w
 | _ => b.h
def fmB (b : Bd) : Bool := decide (1 ≤ b.i ∧ b.i ≤ 1099511627776 ∧ 1 ≤ b.o ∧ b.o ≤ 8 ∧ 1 ≤ b.w ∧ b.w ≤ 4 ∧ 1 ≤ b.h ∧ b.h ≤ 4)
structure FmOk (b : Bd) : Prop where
 i1 : 1 ≤ b.i
 i2 : b.i ≤ 1099511627776
 o1 : 1 ≤ b.o
 o2 : b.o ≤ 8
 w1 : 1 ≤ b.w
 w2 : b.w ≤ 4
 h1 : 1 ≤ b.h
 h2 : b.h ≤ 4
def inB (W H : Int) (b : Bd) : Bool := decide (0 ≤ b.x ∧ b.x ≤ W - b.w ∧ 0 ≤ b.y ∧ b.y ≤ H - b.h)
structure InOk (W H : Int) (b : Bd) : Prop where
 x1 : 0 ≤ b.x
 x2 : b.x ≤ W - b.w
 y1 : 0 ≤ b.y
 y2 : b.y ≤ H - b.h
def hsB (W : Int) (b : Bd) (t : Int) : Bool := decide (b.x ≤ t % W ∧ t % W < b.x + b.w ∧ b.y ≤ t / W ∧ t / W < b.y + b.h)
def undAt (W : Int) (b : Bd) (k : Nat) : Int := b.x + ((k % b.w.toNat : Nat) : Int) + W * (b.y + ((k / b.w.toNat : Nat) : Int))
def undL (W : Int) (b : Bd) : List Int := (List.range (b.w.toNat * b.h.toNat)).map (undAt W b)
def frB (W : Int) (xs : List Int) (b : Bd) : Bool := (undL W b).all fun t => decide (xs.getD t.toNat 0 ≤ 1)
def mtB (a b : Bd) : Bool := decide (a.x < b.x + b.w ∧ b.x < a.x + a.w ∧ a.y < b.y + b.h ∧ b.y < a.y + a.h)
def ascB (bs : List Bd) : Prop := ∀ k, k + 1 < bs.length → (bs.getD k default).i < (bs.getD (k + 1) default).i
def cvB (W : Int) (bs : List Bd) (t : Int) : Bool := bs.any fun b => hsB W b t
structure MOk (W H : Int) (n : Nat) (xs : List Int) (bs : List Bd) : Prop where
 g : GOk W H n xs
 len : bs.length ≤ 256
 asc : ascB bs
 fm : ∀ b ∈ bs, FmOk b
 ins : ∀ b ∈ bs, InOk W H b
 fr : ∀ b ∈ bs, frB W xs b = true
 ap : ∀ i j, j < i → i < bs.length → mtB (bs.getD i default) (bs.getD j default) = false
end Go.Proofs.YtdpblimhfmfbnaaGreat
namespace Go.Proofs.YtdpblimhfmfbnaaGreat
open Go.RowKit
def I64' (x : Int) : Prop := -9223372036854775808 ≤ x ∧ x ≤ 9223372036854775807
end Go.Proofs.YtdpblimhfmfbnaaGreat
namespace Go.Proofs.YtdpblimhfmfbnaaGreat
open Go.RowKit
end Go.Proofs.YtdpblimhfmfbnaaGreat
namespace Go.Proofs.YtdpblimhfmfbnaaGreat
open Go.RowKit
structure Bq (w : World) (B : Nat) (a : Option Addr) (n : Nat) (bs : List Bd) : Prop where
 len : bs.length = n
 rd : 0 < n → ∃ b off, a = some ⟨b, off, none⟩ ∧ b < B ∧ ∀ k, k < n → ∀ i, i < 6 → w.cell? ⟨b, off + k * 6 + i, none⟩ = some (.int .i64 ((bs.getD k default).c i))
theorem Bq.below {w w' : World} {B B' n : Nat} {a : Option Addr} {bs : List Bd} (h : Bq w B a n bs) (hb : Below B' w w') (hB : B ≤ B') : Bq w' B a n bs := ⟨h.len, fun hn => by
 obtain ⟨b, off, e, hlt, hc⟩ := h.rd hn
 exact ⟨b, off, e, hlt, fun k hk i hi => (hb.cell (p := ⟨b, off + k * 6 + i, none⟩) (Nat.lt_of_lt_of_le hlt hB)).trans (hc k hk i hi)⟩⟩
theorem Bq.mono {w : World} {B B' n : Nat} {a : Option Addr} {bs : List Bd} (h : Bq w B a n bs) (hB : B ≤ B') : Bq w B' a n bs := ⟨h.len, fun hn => by
 obtain ⟨b, off, e, hlt, hc⟩ := h.rd hn
 exact ⟨b, off, e, by omega, hc⟩⟩
theorem Bq.drewN {w : World} {B n : Nat} {a : Option Addr} {bs : List Bd} (h : Bq w B a n bs) (m : Nat) : Bq (w.drewN m) B a n bs := ⟨h.len, h.rd⟩
theorem Bq.nil (w : World) (B : Nat) (a : Option Addr) : Bq w B a 0 [] := ⟨rfl, fun h => absurd h (by omega)⟩
end Go.Proofs.YtdpblimhfmfbnaaGreat
namespace Go.Proofs.YtdpblimhfmfbnaaGreat
open Go.RowKit
def UndR (w : World) (W : Int) (b : Bd) (e : Ending) (w' : World) : Prop := ∃ g, e = .returned (.slice (some ⟨g, 0, none⟩) (b.w.toNat * b.h.toNat) (b.w.toNat * b.h.toNat)) ∧ w.heap.size ≤ g ∧ Nq w' (g + 1) (some ⟨g, 0, none⟩) (b.w.toNat * b.h.toNat) (undL W b) ∧ g < w'.heap.size ∧ Below w.heap.size w w'
end Go.Proofs.YtdpblimhfmfbnaaGreat
