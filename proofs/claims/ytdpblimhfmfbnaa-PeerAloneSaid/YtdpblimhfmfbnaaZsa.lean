import Derived.OrdersHeld
import Derived.Deep.RegionHeld3
import Derived.KernelRfl
import Derived.Test.YtdpblimhfmfbnaaProg
import Derived.Laws.BitsAllLaws
import Derived.RowKit
import Derived.Laws.BitsLemmas
import Derived.WalkKit
import Derived.WalkLawsBesides
import Derived.WalkSpells
import Derived.Outline
import Derived.Deep.QuietTactic
import Derived.BigQuiet
import Derived.Deep.RegionWith
import Derived.Maps.AppendAt
import Derived.Lib.SlBytesConst
import Derived.ProofKit
import Derived.OpenShut
import Derived.ShutString
import Derived.ChangeOld
import Derived.Below
import Derived.Deep.Slices
import Derived.Deep.Fields
import Derived.ChangeSame
import Derived.Test.YtdpblimhfmfbnaaRows
import Derived.Test.YtdpblimhfmfbnaaChecked
set_option linter.unusedVariables false
set_option linter.unusedSimpArgs false
namespace Go.Proofs.Ytdpblimhfmfbnaa
def Ix (_ : List Nat) : Prop := True
section
variable {P : Program} {ops : Array Oper} {Q : Exit → Act → World → Prop} {md : Region.Mode} {S : World → Prop}
theorem tkA {i : Nat} {l : List Nat} (HI : Ix (i :: l)) {oi : Oper} {v : Value} {fuel : Nat} {listed : Array Bool} {a : Act} {w : World} (hi : ops[i]? = some oi)
  (hs : ((Region.noSelect ops && Region.free md ops listed i) && (Region.ready md ops listed).contains i) = true)
  (hQ : ∀ c a w, Q (.panic c) (a.put oi.dst v) w → Q (.panic c) a w) (hy : YieldsIf P ops S oi v a) (hS : S w)
  (h : Ix l → wpAnyH P md ops Q S fuel (listed.setIfInBounds i true) (a.put oi.dst v) w) : wpAnyH P md ops Q S (fuel + 1) listed a w := by
 rw [Bool.and_eq_true, Bool.and_eq_true] at hs
 exact wpAnyH_take hi hs.1.1 hs.1.2 hs.2 hQ hy hS (h trivial)
end
end Go.Proofs.Ytdpblimhfmfbnaa
namespace Go.Proofs.Ytdpblimhfmfbnaa.Fn
open Go
def stepS (s b : Int) : Int := IntKind.u64.wrap (bits BinOp.xor IntKind.u64 s b * 1099511628211)
def sumS (s : Int) (l : List Int) : Int := l.foldl stepS s
def U64 (s : Int) : Prop := 0 ≤ s ∧ s ≤ 18446744073709551615
def Byt (b : Int) : Prop := 0 ≤ b ∧ b ≤ 255
theorem wrapu (x : Int) : IntKind.u64.wrap x = x % 18446744073709551616 := by simp [IntKind.wrap, IntKind.bits, IntKind.signed]
def wiS (i n : Int) : Int := i % 18446744073709551616 % n
end Go.Proofs.Ytdpblimhfmfbnaa.Fn
namespace Go.Proofs.Ytdpblimhfmfbnaa.Wr
open Go
def numL (n : Nat) : List Int := if n < 128 then [(n : Int)] else ((n % 128 + 128 : Nat) : Int) :: numL (n / 128)
termination_by n
decreasing_by omega
def getG (xs : List Int) : Nat → Nat → Int → Int × Int × Int
 | 0, _, _ => (0, 0, if 9 ≤ xs.length then 1 else 11)
 | fuel + 1, i, acc =>
  if i < xs.length then
   if xs.getD i 0 < 128 then (if xs.getD i 0 = 0 ∧ 0 < i then (0, 0, 1) else (acc + xs.getD i 0 % 128 * 2 ^ (7 * i), i + 1, 0))
   else getG xs fuel (i + 1) (acc + xs.getD i 0 % 128 * 2 ^ (7 * i))
  else (0, 0, if 9 ≤ xs.length then 1 else 11)
def getS (xs : List Int) : Int × Int × Int := getG xs 9 0 0
def GetAt (xs : List Int) (i : Nat) (acc : Int) : Prop := i ≤ 9 ∧ i ≤ xs.length ∧ 0 ≤ acc ∧ acc < 2 ^ (7 * i) ∧ getG xs (9 - i) i acc = getS xs
def GetOk (xs : List Int) (n k e : Int) : Prop :=
 0 ≤ n ∧ n ≤ 9223372036854775807 ∧ 0 ≤ k ∧ k ≤ xs.length ∧ k ≤ 9 ∧ ((e = 0 ∧ 1 ≤ k) ∨ ((e = 1 ∨ e = 11) ∧ n = 0 ∧ k = 0))
def zig (n : Int) : Nat := if n < 0 then (-2 * n - 1).toNat else (2 * n).toNat
def unzig (n : Int) : Int := if n % 2 = 1 then -(n / 2) - 1 else n / 2
end Go.Proofs.Ytdpblimhfmfbnaa.Wr
namespace Go.Proofs.Ytdpblimhfmfbnaa
abbrev jkC (p s k n : Int) (a : Option Addr) (m c : Nat) (t w h x y : Int) : Array Value := #[.int .i64 p, .int .i64 s, .int .i64 k, .int .i64 n, .slice a m c, .int .i64 t, .int .i64 w, .int .i64 h, .int .i64 x, .int .i64 y]
structure CF where
 n : Int
 u : List Int
 t : Int
 w : Int
 h : Int
 x : Int
 y : Int
def ascL (last : Int) : List Int → Bool
 | [] => true
 | a :: l => decide (last < a ∧ a ≤ 1099511627776) && ascL a l
def risL : List Int → Bool
 | [] => true
 | [_] => true
 | a :: b :: l => decide (a < b) && risL (b :: l)
def btwL (lo hi : Int) (l : List Int) : Bool := decide (∀ a ∈ l, lo ≤ a ∧ a ≤ hi)
def idsB (l : List Int) : Bool := decide (1 ≤ l.length ∧ l.length ≤ 64) && ascL 0 l
def vB (q : Int) (f : CF) : Bool :=
 if q = 0 then decide (0 ≤ f.n ∧ f.n < 4) else if q = 1 then decide (1 ≤ f.n ∧ f.n ≤ 1099511627776) else if q = 2 then idsB f.u else
 if q = 3 then decide (0 ≤ f.t ∧ f.t ≤ 16383) else if q = 4 then decide (1 ≤ f.w ∧ f.w ≤ 4 ∧ 1 ≤ f.h ∧ f.h ≤ 4) else
 decide (-1099511627776 ≤ f.x ∧ f.x ≤ 1099511627776 ∧ -1099511627776 ≤ f.y ∧ f.y ≤ 1099511627776)
def eC (q : Int) (f : CF) : CF :=
 if q = 0 then { f with n := 0 } else if q = 1 then { f with n := 0 } else if q = 2 then { f with u := [] } else if q = 3 then { f with t := 0 } else if q = 4 then { f with w := 0, h := 0 } else { f with x := 0, y := 0 }
def remB (f : CF) : Bool := decide (f.n = 0 ∧ f.u = [] ∧ f.t = 0 ∧ f.w = 0 ∧ f.h = 0 ∧ f.x = 0 ∧ f.y = 0)
def chkL : List Int → CF → Bool
 | [], f => remB f
 | q :: l, f => vB q f && chkL l (eC q f)
def partsL (k : Int) : List Int :=
 if k = 1 then [0, 5] else if k = 2 then [2, 3] else if k = 3 then [2] else if k = 4 then [3, 4] else if k = 5 then [1] else if k = 6 then [2, 1] else if k = 7 then [1, 3] else []
def baseB (p s : Int) : Bool := decide (1 ≤ p ∧ p ≤ 8 ∧ 0 ≤ s ∧ s ≤ 1099511627776)
def okC (p s k : Int) (f : CF) : Bool := (!(partsL k).isEmpty && baseB p s) && chkL (partsL k) f
theorem partsL_bd (k : Int) : (partsL k).length ≤ 2 ∧ ∀ q ∈ partsL k, 0 ≤ q ∧ q ≤ 5 := by
 unfold partsL
 (repeat' split) <;> simp
theorem partsL_none {k : Int} (h : k < 1 ∨ 7 < k) : partsL k = [] := by
 unfold partsL
 (repeat' split) <;> first | omega | rfl
theorem partsL_some {k : Int} (h1 : 1 ≤ k) (h2 : k ≤ 7) : 1 ≤ (partsL k).length := by
 unfold partsL
 (repeat' split) <;> simp; omega
def refC (p s k : Int) (f : CF) : Bool :=
 baseB p s && (
 if k = 1 then vB 0 f && vB 5 f && decide (f.u = [] ∧ f.t = 0 ∧ f.w = 0 ∧ f.h = 0)
 else if k = 2 then vB 2 f && vB 3 f && decide (f.n = 0 ∧ f.w = 0 ∧ f.h = 0 ∧ f.x = 0 ∧ f.y = 0)
 else if k = 3 then vB 2 f && decide (f.n = 0 ∧ f.t = 0 ∧ f.w = 0 ∧ f.h = 0 ∧ f.x = 0 ∧ f.y = 0)
 else if k = 4 then vB 3 f && vB 4 f && decide (f.n = 0 ∧ f.u = [] ∧ f.x = 0 ∧ f.y = 0)
 else if k = 5 then vB 1 f && decide (f.u = [] ∧ f.t = 0 ∧ f.w = 0 ∧ f.h = 0 ∧ f.x = 0 ∧ f.y = 0)
 else if k = 6 then vB 2 f && vB 1 f && decide (f.t = 0 ∧ f.w = 0 ∧ f.h = 0 ∧ f.x = 0 ∧ f.y = 0)
 else if k = 7 then vB 1 f && vB 3 f && decide (f.u = [] ∧ f.w = 0 ∧ f.h = 0 ∧ f.x = 0 ∧ f.y = 0)
 else false)
end Go.Proofs.Ytdpblimhfmfbnaa
namespace Go.Proofs.Ytdpblimhfmfbnaa
open Go.RowKit
structure Hk (p : Prop) : Prop where
 out : p
def Rd (w : World) (B : Nat) (a : Option Addr) (n : Nat) (f : Nat → Value) : Prop :=
 0 < n → ∃ b off, a = some ⟨b, off, none⟩ ∧ b < B ∧ ∀ k, k < n → w.cell? ⟨b, off + k, none⟩ = some (f k)
theorem Rd.below {w w' : World} {B B' n : Nat} {a : Option Addr} {f : Nat → Value} (h : Rd w B a n f) (hb : Below B' w w') (hB : B ≤ B') : Rd w' B a n f := fun hn => by
 obtain ⟨b, off, e, hlt, hc⟩ := h hn
 exact ⟨b, off, e, hlt, fun k hk => (hb.cell (p := ⟨b, off + k, none⟩) (Nat.lt_of_lt_of_le hlt hB)).trans (hc k hk)⟩
theorem Rd.grown {w w' : World} {B n : Nat} {a : Option Addr} {f : Nat → Value} {row : Option Nat} (h : Rd w B a n f) (hg : w.grownBy w' row) (hB : B ≤ w.heap.size) (hr : ∀ g, row = some g → B ≤ g) : Rd w' B a n f := fun hn => by
 obtain ⟨b, off, e, hlt, hc⟩ := h hn
 exact ⟨b, off, e, hlt, fun k hk => (World.cell?_of_block (hg.block b (by omega) (fun e => by have := hr _ e.symm; omega))).trans (hc k hk)⟩
theorem Rd.mono {w : World} {B B' n : Nat} {a : Option Addr} {f : Nat → Value} (h : Rd w B a n f) (hB : B ≤ B') : Rd w B' a n f := fun hn => by
 obtain ⟨b, off, e, hlt, hc⟩ := h hn
 exact ⟨b, off, e, by omega, hc⟩
def u8 (x : Int) : Value := .int .u8 x
structure By (w : World) (B : Nat) (a : Option Addr) (n : Nat) (xs : List Int) : Prop where
 len : xs.length = n
 byt : ∀ b ∈ xs, Fn.Byt b
 rd : Rd w B a n (fun k => .int .u8 (xs.getD k 0))
theorem getD_mem {xs : List Int} {k : Nat} (h : k < xs.length) : xs.getD k 0 ∈ xs := by
 have : xs.getD k 0 = xs[k] := by simp [List.getD, List.getElem?_eq_getElem h]
 rw [this]; exact List.getElem_mem h
section
variable {w w' : World} {B B' n : Nat} {a : Option Addr} {xs : List Int}
theorem By.below (h : By w B a n xs) (hb : Below B' w w') (hB : B ≤ B') : By w' B a n xs := ⟨h.len, h.byt, h.rd.below hb hB⟩
theorem By.mono (h : By w B a n xs) (hB : B ≤ B') : By w B' a n xs := ⟨h.len, h.byt, h.rd.mono hB⟩
theorem By.grown {row : Option Nat} (h : By w B a n xs) (hg : w.grownBy w' row) (hB : B ≤ w.heap.size) (hr : ∀ g, row = some g → B ≤ g) : By w' B a n xs := ⟨h.len, h.byt, h.rd.grown hg hB hr⟩
theorem By.drew (h : By w B a n xs) : By w.drew B a n xs := ⟨h.len, h.byt, h.rd⟩
theorem By.drewN (h : By w B a n xs) (k : Nat) : By (w.drewN k) B a n xs := ⟨h.len, h.byt, h.rd⟩
theorem By.alloc (h : By w B a n xs) (hB : B ≤ w.heap.size) (o : Obj) : By (w.alloc o) B a n xs := h.below ((Below.refl _ _).alloc (Nat.le_refl _) o) hB
theorem By.nil (w : World) (B : Nat) (a : Option Addr) : By w B a 0 [] := ⟨rfl, by simp, fun h => absurd h (by omega)⟩
theorem By.at_ (h : By w B a n xs) (hn : 0 < n) : ∃ b off, a = some ⟨b, off, none⟩ ∧ b < B ∧ ∀ k, k < n → w.cell? ⟨b, off + k, none⟩ = some (.int .u8 (xs.getD k 0)) := h.rd hn
end
theorem below_drewN {B : Nat} {a w : World} (h : Below B a w) (n : Nat) : Below B a (w.drewN n) := ⟨h.os, h.tape, h.output, h.size, h.block⟩
def OwnB (w : World) (base : Nat) (v : Value) (n : Nat) (xs : List Int) : Prop := xs.length = n ∧ (∀ b ∈ xs, Fn.Byt b) ∧ w.ownsRow base 5 1 v n (xs.map (Value.int .u8))
theorem OwnB.lt {w : World} {base n : Nat} {v : Value} {xs : List Int} (h : OwnB w base v n xs) : ∀ k, v.ownBlock = some k → base ≤ k ∧ k < w.heap.size := h.2.2.lt
theorem OwnB.below {w w' : World} {base n : Nat} {v : Value} {xs : List Int} (h : OwnB w base v n xs) (hb : Below w.heap.size w w') : OwnB w' base v n xs := by
 refine ⟨h.1, h.2.1, h.2.2.kept (row := none) ⟨hb.os, hb.tape, hb.output, hb.size, fun i hi _ => hb.block i hi⟩ ?_⟩
 cases h' : v.ownBlock
 ·exact .inl rfl
 ·exact .inr (by simp)
theorem OwnB.weak {w : World} {base base' n : Nat} {v : Value} {xs : List Int} (h : OwnB w base v n xs) (hb : base' ≤ base) : OwnB w base' v n xs := by
 refine ⟨h.1, h.2.1, h.2.2.1, ?_⟩
 rcases h.2.2.2 with e | ⟨g, cap, cur, e1, hg, e2⟩
 ·exact .inl e
 ·exact .inr ⟨g, cap, cur, e1, by omega, e2⟩
theorem OwnB.drewN {w : World} {base n : Nat} {v : Value} {xs : List Int} (h : OwnB w base v n xs) (k : Nat) : OwnB (w.drewN k) base v n xs := h
theorem OwnB.drew {w : World} {base n : Nat} {v : Value} {xs : List Int} (h : OwnB w base v n xs) : OwnB w.drew base v n xs := h
theorem one_new (w : World) (v : Value) (t : TypeId) : ∀ (j : Nat) (u : Value), [v][j]? = some u → (w.alloc (.cells #[v] t)).cell? ((⟨w.heap.size, 0, none⟩ : Addr).add j) = some u := by
 intro j u hj
 match j, hj with
 | 0, hj => simp at hj; subst hj; simp [Addr.add]
end Go.Proofs.Ytdpblimhfmfbnaa
namespace Go.Proofs.Ytdpblimhfmfbnaa
open Go.ChangeShapes Go.WideShapes Go.ChangeAt Go.RowKit Go.Deep
end Go.Proofs.Ytdpblimhfmfbnaa
