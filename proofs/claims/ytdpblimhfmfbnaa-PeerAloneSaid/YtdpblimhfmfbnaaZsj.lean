import Derived.Test.YtdpblimhfmfbnaaZsd
import Derived.WalkLawsBesides
import Derived.BigGuardPart
import Derived.Deep.QuietTactic
import Derived.BigQuiet
import Derived.Deep.RegionWith
import Derived.Deep.RegionHeld3
import Derived.Deep.DeepCutAuto
import Derived.Deep.DeepFit
import Derived.Outline
import Derived.Test.YtdpblimhfmfbnaaZsi
import Derived.Test.YtdpblimhfmfbnaaZsh
import Derived.Test.YtdpblimhfmfbnaaZsa
set_option linter.unusedVariables false
set_option linter.unusedSimpArgs false
namespace Go.Proofs.Ytdpblimhfmfbnaa
def sqB (op : Int → Int → Bool) : Nat → Int → Int → Bool
 | 0, _, _ => true
 | r + 1, x, y => op x y && sqB op r (x - 1) (y - 1) && sqB op r x (y - 1) && sqB op r (x + 1) (y - 1) && sqB op r (x - 1) y && sqB op r x y && sqB op r (x + 1) y && sqB op r (x - 1) (y + 1) && sqB op r x (y + 1) && sqB op r (x + 1) (y + 1)
def fqB (op : Int → Int → Bool) : Nat → Int → Int → Bool
 | 0, _, _ => true
 | r + 1, x, y => op x y && fqB op r (x - 1) y && fqB op r (x - 1) (y - 1) && fqB op r x (y - 1) && fqB op r (x + 1) (y - 1)
def bqB (op : Int → Int → Bool) : Nat → Int → Int → Bool
 | 0, _, _ => true
 | r + 1, x, y => fqB op (r + 1) x y && bqB op r (x + 1) y && bqB op r (x + 1) (y + 1) && bqB op r x (y + 1) && bqB op r (x - 1) (y + 1)
end Go.Proofs.Ytdpblimhfmfbnaa
namespace Go.Proofs.Ytdpblimhfmfbnaa
def grt (q : Nat → Bool) : Nat → Nat
 | 0 => 0
 | k + 1 => if q (k + 1) then k + 1 else grt q k
def opXY (W H : Int) (f : Nat → Bool) (x y : Int) : Bool := decide (0 ≤ x ∧ x < W ∧ 0 ≤ y ∧ y < H) && f (x + W * y).toNat
def fV (W H : Int) (f : Nat → Bool) (x y : Int) : Nat := grt (fun r => fqB (opXY W H f) r x y) 128
def sV (W H : Int) (f : Nat → Bool) (x y : Int) : Nat := grt (fun r => sqB (opXY W H f) r x y) 128
end Go.Proofs.Ytdpblimhfmfbnaa
namespace Go.Proofs.Ytdpblimhfmfbnaa
open Go.RowKit
end Go.Proofs.Ytdpblimhfmfbnaa
namespace Go.Proofs.Ytdpblimhfmfbnaa
open Go.RowKit
def fC (W H : Int) (f : Nat → Bool) (k : Nat) : Nat := fV W H f ((k : Int) % W) ((k : Int) / W)
def sC (W H : Int) (f : Nat → Bool) (k : Nat) : Nat := sV W H f ((k : Int) % W) ((k : Int) / W)
structure At (W H : Int) (n k : Nat) (x y : Int) : Prop where
 e : (k : Int) = x + W * y
 x0 : 0 ≤ x
 x1 : x < W
 y0 : 0 ≤ y
 y1 : y < H
 m : (k : Int) % W = x
 d : (k : Int) / W = y
def uL (W H : Int) (f : Nat → Bool) (x y : Int) : Nat := min (min (min (fV W H f (x - 1) y) (fV W H f (x - 1) (y - 1))) (fV W H f x (y - 1))) (fV W H f (x + 1) (y - 1))
def dL (W H : Int) (f : Nat → Bool) (x y : Int) : Nat := min (min (min (sV W H f (x + 1) y) (sV W H f (x - 1) (y + 1))) (sV W H f x (y + 1))) (sV W H f (x + 1) (y + 1))
end Go.Proofs.Ytdpblimhfmfbnaa
namespace Go.Proofs.Ytdpblimhfmfbnaa
open Go.RowKit
end Go.Proofs.Ytdpblimhfmfbnaa
namespace Go.Proofs.Ytdpblimhfmfbnaa
open Go.ChangeShapes Go.WideShapes Go.ChangeAt Go.RowKit Go.Deep
structure Vq (w : World) (B : Nat) (a : Option Addr) (n : Nat) (f g : Nat → Int) : Prop where
 num : ∀ k, k < n → I64' (f k) ∧ I64' (g k)
 rd : 0 < n → ∃ b off, a = some ⟨b, off, none⟩ ∧ b < B ∧ ∀ k, k < n → w.cell? ⟨b, off + k * 2, none⟩ = some (.int .i64 (f k)) ∧ w.cell? ⟨b, off + k * 2 + 1, none⟩ = some (.int .i64 (g k))
theorem Vq.nil (w : World) (B : Nat) (a : Option Addr) (f g : Nat → Int) : Vq w B a 0 f g := ⟨fun k h => absurd h (by omega), fun h => absurd h (by omega)⟩
theorem Vq.below {w w' : World} {B B' n : Nat} {a : Option Addr} {f g : Nat → Int} (h : Vq w B a n f g) (hb : Below B' w w') (hB : B ≤ B') : Vq w' B a n f g := ⟨h.num, fun hn => by
 obtain ⟨b, off, e, hlt, hc⟩ := h.rd hn
 exact ⟨b, off, e, hlt, fun k hk => ⟨(hb.cell (p := ⟨b, off + k * 2, none⟩) (Nat.lt_of_lt_of_le hlt hB)).trans (hc k hk).1, (hb.cell (p := ⟨b, off + k * 2 + 1, none⟩) (Nat.lt_of_lt_of_le hlt hB)).trans (hc k hk).2⟩⟩⟩
theorem Vq.mono {w : World} {B B' n : Nat} {a : Option Addr} {f g : Nat → Int} (h : Vq w B a n f g) (hB : B ≤ B') : Vq w B' a n f g := ⟨h.num, fun hn => by
 obtain ⟨b, off, e, hlt, hc⟩ := h.rd hn
 exact ⟨b, off, e, by omega, hc⟩⟩
end Go.Proofs.Ytdpblimhfmfbnaa
