import Derived.Below
import Derived.BigGuardPart
import Derived.Deep.QuietTactic
import Derived.BigQuiet
import Derived.Deep.RegionWith
import Derived.Deep.RegionHeld3
import Derived.Deep.DeepCutAuto
import Derived.Deep.DeepFit
import Derived.Outline
import Derived.Test.YtdpblimhfmfbnaaZsd
import Derived.Test.YtdpblimhfmfbnaaZsb
import Derived.Shelf.Abstract
set_option linter.unusedVariables false
set_option linter.unusedSimpArgs false
namespace Go.Proofs.Ytdpblimhfmfbnaa
open Go.RowKit
end Go.Proofs.Ytdpblimhfmfbnaa
namespace Go.Proofs.Ytdpblimhfmfbnaa
open Go.RowKit
structure Bq (w : World) (B : Nat) (a : Option Addr) (n : Nat) (bs : List Bd) : Prop where
 len : bs.length = n
 rd : 0 < n → ∃ b off, a = some ⟨b, off, none⟩ ∧ b < B ∧ ∀ k, k < n → ∀ i, i < 6 → w.cell? ⟨b, off + k * 6 + i, none⟩ = some (.int .i64 ((bs.getD k default).c i))
theorem Bq.below {w w' : World} {B B' n : Nat} {a : Option Addr} {bs : List Bd} (h : Bq w B a n bs) (hb : Below B' w w') (hB : B ≤ B') : Bq w' B a n bs := ⟨h.len, fun hn => by
 obtain ⟨b, off, e, hlt, hc⟩ := h.rd hn
 exact ⟨b, off, e, hlt, fun k hk i hi => (hb.cell (p := ⟨b, off + k * 6 + i, none⟩) (Nat.lt_of_lt_of_le hlt hB)).trans (hc k hk i hi)⟩⟩
theorem Bq.mono {w : World} {B B' n : Nat} {a : Option Addr} {bs : List Bd} (h : Bq w B a n bs) (hB : B ≤ B') : Bq w B' a n bs := ⟨h.len, fun hn => by
 obtain ⟨b, off, e, hlt, hc⟩ := h.rd hn
 exact ⟨b, off, e, by omega, hc⟩⟩
theorem Bq.drewN {w : World} {B n : Nat} {a : Option Addr} {bs : List Bd} (h : Bq w B a n bs) (m : Nat) : Bq (w.drewN m) B a n bs := ⟨h.len, h.rd⟩
theorem Bq.nil (w : World) (B : Nat) (a : Option Addr) : Bq w B a 0 [] := ⟨rfl, fun h => absurd h (by omega)⟩
end Go.Proofs.Ytdpblimhfmfbnaa
namespace Go.Proofs.Ytdpblimhfmfbnaa
open Go.RowKit
def UndR (w : World) (W : Int) (b : Bd) (e : Ending) (w' : World) : Prop := ∃ g, e = .returned (.slice (some ⟨g, 0, none⟩) (b.w.toNat * b.h.toNat) (b.w.toNat * b.h.toNat)) ∧ w.heap.size ≤ g ∧ Nq w' (g + 1) (some ⟨g, 0, none⟩) (b.w.toNat * b.h.toNat) (undL W b) ∧ g < w'.heap.size ∧ Below w.heap.size w w'
end Go.Proofs.Ytdpblimhfmfbnaa
namespace Go.Proofs.Ytdpblimhfmfbnaa
open Go.RowKit
end Go.Proofs.Ytdpblimhfmfbnaa
namespace Go.Proofs.Ytdpblimhfmfbnaa
open Go.RowKit
end Go.Proofs.Ytdpblimhfmfbnaa
namespace Go.Proofs.Ytdpblimhfmfbnaa
open Go.RowKit
end Go.Proofs.Ytdpblimhfmfbnaa
