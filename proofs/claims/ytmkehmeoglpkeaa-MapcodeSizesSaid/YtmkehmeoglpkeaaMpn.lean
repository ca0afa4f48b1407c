/- Layer 7: a map's bytes by name. -/
import Derived.Test.YtmkehmeoglpkeaaMpm
namespace Go.Proofs.Ytmkehmeoglpkeaa
open Go.RowKit
set_option linter.unusedVariables false
theorem mbytes_as (W H : Int) (a : Option Addr) (n c : Nat) (xs zs : List Int) (L : Nat) (w : World) (h : By w w.heap.size a n xs) (han : a = none → c = 0) (G : Hk (GOk W H n xs)) (Z : Hk (Mp.mapL W H xs = zs)) (hL : Hk (zs.length = L)) :
    Calls Try.prog 9 #[.agg #[.int .i64 W, .int .i64 H, .slice a n c]] w fun e w' => ∃ a2 c2, e = .returned (.tuple #[.slice a2 L c2, .int .i64 0]) ∧ OwnB w' w.heap.size (.slice a2 L c2) L zs ∧ Below w.heap.size w w' :=
  (mbytes_yes W H a n c xs w h han G).mono fun e w' ⟨v, he, ho, hb⟩ => by
    rw [Z.out, hL.out] at ho
    obtain ⟨a2, c2, rfl, -, -, -⟩ := ho.by_
    exact ⟨a2, c2, he, ho, hb⟩
theorem ownB_some {w : World} {base n c : Nat} {a : Option Addr} {xs : List Int} (h : OwnB w base (.slice a n c) n xs) (hn : 0 < n) : ∃ g, a = some ⟨g, 0, none⟩ ∧ base ≤ g := by
  obtain ⟨b, off, e1, -, -⟩ := h.byS.rd hn
  obtain ⟨a2, c2, e2, -, -, h4⟩ := h.by_
  injection e2 with e3 e4 e5
  have h5 := h4 b off (by rw [← e3]; exact e1)
  exact ⟨b, by rw [e1, h5.2.1], h5.1⟩
theorem ownB_get {w : World} {base g n c k : Nat} {xs : List Int} (h : OwnB w base (.slice (some ⟨g, 0, none⟩) n c) n xs) (hk : k < n) : w.cell? ⟨g, k, none⟩ = some (.int .u8 (xs.getD k 0)) ∧ w.frozen? ⟨g, k, none⟩ = false ∧ g < w.heap.size := by
  obtain ⟨b, off, e1, h1, h2⟩ := h.byS.rd (by omega)
  injection e1 with e1
  injection e1 with e2 e3
  subst e2 e3
  have h3 := h2 k hk
  rw [Nat.zero_add] at h3
  exact ⟨h3, (ownB_at h hk).choose_spec.2.1, h1⟩
end Go.Proofs.Ytmkehmeoglpkeaa
