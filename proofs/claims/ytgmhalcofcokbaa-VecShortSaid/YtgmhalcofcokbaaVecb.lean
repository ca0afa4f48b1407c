/- The contracts of what is scaled, of package vec and of the reference. -/
import Derived.Test.YtgmhalcofcokbaaAsk
import Derived.Deep.RegionHeld3
import Derived.Deep.RegionWith
namespace Go.Proofs.Ytgmhalcofcokbaa
open Go.RowKit
set_option linter.unusedVariables false
/-- What a call that makes memory leaves as it was: two cells of a box and the two cells of the result behind it. -/
structure Kept (w0 w : World) (x y u v : Value) : Prop where
  c0 : w.cell? ⟨w0.heap.size, 0, none⟩ = some x
  c1 : w.cell? ⟨w0.heap.size, 1, none⟩ = some y
  d0 : w.cell? ⟨w0.heap.size + 1, 0, none⟩ = some u
  d1 : w.cell? ⟨w0.heap.size + 1, 1, none⟩ = some v
  f0 : w.frozen? ⟨w0.heap.size + 1, 0, none⟩ = false
  f1 : w.frozen? ⟨w0.heap.size + 1, 1, none⟩ = false
  hs : w0.heap.size + 1 < w.heap.size
  hB : Below w0.heap.size w0 w
theorem Kept.start (w : World) (x y u v : Value) (t t' : TypeId) : Kept w ((w.alloc (.cells #[x, y] t)).alloc (.cells #[u, v] t')) x y u v :=
  ⟨by go_simp, by go_simp, by go_simp, by go_simp, by go_simp, by go_simp, by simp, ((Below.refl _ _).alloc (Nat.le_refl _) _).alloc (by simp) _⟩
theorem Kept.next {w0 w w' : World} {x y u v : Value} (h : Kept w0 w x y u v) (hb : Below w.heap.size w w') : Kept w0 w' x y u v := by
  have hs := h.hs
  exact ⟨(hb.cell (p := ⟨w0.heap.size, 0, none⟩) (by simp; omega)).trans h.c0, (hb.cell (p := ⟨w0.heap.size, 1, none⟩) (by simp; omega)).trans h.c1,
   (hb.cell (p := ⟨w0.heap.size + 1, 0, none⟩) hs).trans h.d0, (hb.cell (p := ⟨w0.heap.size + 1, 1, none⟩) hs).trans h.d1,
   (hb.frozen (p := ⟨w0.heap.size + 1, 0, none⟩) hs).trans h.f0, (hb.frozen (p := ⟨w0.heap.size + 1, 1, none⟩) hs).trans h.f1, Nat.lt_of_lt_of_le hs hb.size, h.hB.trans (hb.mono h.hB.size)⟩
theorem Kept.drew {w0 w : World} {x y u v : Value} (h : Kept w0 w x y u v) : Kept w0 w.drew x y u v := ⟨h.c0, h.c1, h.d0, h.d1, h.f0, h.f1, h.hs, h.hB.drew⟩
theorem heldV {P : Program} {F : FuncId} {args : Array Value} {w w0 : World} {r : Ending} {x y u v : Value} (h : Calls P F args w fun e w' => e = r ∧ Below w.heap.size w w') (hk : Fx.Hd (Kept w0 w x y u v)) :
    Calls P F args w fun e w' => e = r ∧ Fx.Hd (Kept w0 w' x y u v) ∧ w'.cell? ⟨w0.heap.size, 0, none⟩ = some x ∧ w'.cell? ⟨w0.heap.size, 1, none⟩ = some y ∧ w'.cell? ⟨w0.heap.size + 1, 0, none⟩ = some u ∧ w'.cell? ⟨w0.heap.size + 1, 1, none⟩ = some v ∧
      w'.frozen? ⟨w0.heap.size + 1, 0, none⟩ = false ∧ w'.frozen? ⟨w0.heap.size + 1, 1, none⟩ = false :=
  h.mono fun e w' ⟨h1, h2⟩ => by
    have k := hk.out.next h2
    exact ⟨h1, ⟨k⟩, k.c0, k.c1, k.d0, k.d1, k.f0, k.f1⟩
end Go.Proofs.Ytgmhalcofcokbaa
