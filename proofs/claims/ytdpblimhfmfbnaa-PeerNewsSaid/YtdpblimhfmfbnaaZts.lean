import Derived.Deep.RegionHeld3
import Derived.Deep.RegionWith
import Derived.Test.YtdpblimhfmfbnaaZtr
import Derived.Test.YtdpblimhfmfbnaaZtp
/- The contracts of inner products, of sizes and of orders of package vec and of the reference. -/
namespace Go.Proofs.Ytdpblimhfmfbnaa
open Go.RowKit
set_option linter.unusedVariables false
/-- A call that makes memory leaves two boxes as they were. -/
theorem heldD {P : Program} {F : FuncId} {args : Array Value} {w w0 : World} {r : Ending} {x y u v : Value} (h : Calls P F args w fun e w' => e = r ∧ Below w.heap.size w w')
    (c0 : w.cell? ⟨w0.heap.size, 0, none⟩ = some x) (c1 : w.cell? ⟨w0.heap.size, 1, none⟩ = some y) (d0 : w.cell? ⟨w0.heap.size + 1, 0, none⟩ = some u) (d1 : w.cell? ⟨w0.heap.size + 1, 1, none⟩ = some v)
    (hB : Below w0.heap.size w0 w) :
    Calls P F args w fun e w' => e = r ∧ w'.cell? ⟨w0.heap.size, 0, none⟩ = some x ∧ w'.cell? ⟨w0.heap.size, 1, none⟩ = some y ∧ w'.cell? ⟨w0.heap.size + 1, 0, none⟩ = some u ∧ w'.cell? ⟨w0.heap.size + 1, 1, none⟩ = some v ∧ Below w0.heap.size w0 w' :=
  h.mono fun e w' ⟨h1, h2⟩ => by
    have l1 := World.block_lt_of_cell? _ _ c0
    have l2 := World.block_lt_of_cell? _ _ d0
    exact ⟨h1, (h2.cell (p := ⟨w0.heap.size, 0, none⟩) l1).trans c0, (h2.cell (p := ⟨w0.heap.size, 1, none⟩) l1).trans c1, (h2.cell (p := ⟨w0.heap.size + 1, 0, none⟩) l2).trans d0, (h2.cell (p := ⟨w0.heap.size + 1, 1, none⟩) l2).trans d1, hB.trans (h2.mono hB.size)⟩
end Go.Proofs.Ytdpblimhfmfbnaa
/- The contracts of sums, differences and what is turned round of package vec and of the reference: what each call answers, for all arguments. -/
namespace Go.Proofs.Ytdpblimhfmfbnaa
open Go.RowKit
set_option linter.unusedVariables false
end Go.Proofs.Ytdpblimhfmfbnaa
/- The contracts of what is scaled, of package vec and of the reference. -/
namespace Go.Proofs.Ytdpblimhfmfbnaa
open Go.RowKit
set_option linter.unusedVariables false
/-- What a call that makes memory leaves as it was: two cells of a box and the two cells of the result behind it. -/
structure Kept (w0 w : World) (x y u v : Value) : Prop where
  c0 : w.cell? ⟨w0.heap.size, 0, none⟩ = some x
  c1 : w.cell? ⟨w0.heap.size, 1, none⟩ = some y
  d0 : w.cell? ⟨w0.heap.size + 1, 0, none⟩ = some u
  d1 : w.cell? ⟨w0.heap.size + 1, 1, none⟩ = some v
  f0 : w.frozen? ⟨w0.heap.size + 1, 0, none⟩ = false
  f1 : w.frozen? ⟨w0.heap.size + 1, 1, none⟩ = false
  hs : w0.heap.size + 1 < w.heap.size
  hB : Below w0.heap.size w0 w
theorem Kept.start (w : World) (x y u v : Value) (t t' : TypeId) : Kept w ((w.alloc (.cells #[x, y] t)).alloc (.cells #[u, v] t')) x y u v :=
  ⟨by go_simp, by go_simp, by go_simp, by go_simp, by go_simp, by go_simp, by simp, ((Below.refl _ _).alloc (Nat.le_refl _) _).alloc (by simp) _⟩
theorem Kept.next {w0 w w' : World} {x y u v : Value} (h : Kept w0 w x y u v) (hb : Below w.heap.size w w') : Kept w0 w' x y u v := by
  have hs := h.hs
  exact ⟨(hb.cell (p := ⟨w0.heap.size, 0, none⟩) (by simp; omega)).trans h.c0, (hb.cell (p := ⟨w0.heap.size, 1, none⟩) (by simp; omega)).trans h.c1,
   (hb.cell (p := ⟨w0.heap.size + 1, 0, none⟩) hs).trans h.d0, (hb.cell (p := ⟨w0.heap.size + 1, 1, none⟩) hs).trans h.d1,
   (hb.frozen (p := ⟨w0.heap.size + 1, 0, none⟩) hs).trans h.f0, (hb.frozen (p := ⟨w0.heap.size + 1, 1, none⟩) hs).trans h.f1, Nat.lt_of_lt_of_le hs hb.size, h.hB.trans (hb.mono h.hB.size)⟩
theorem Kept.drew {w0 w : World} {x y u v : Value} (h : Kept w0 w x y u v) : Kept w0 w.drew x y u v := ⟨h.c0, h.c1, h.d0, h.d1, h.f0, h.f1, h.hs, h.hB.drew⟩
theorem heldV {P : Program} {F : FuncId} {args : Array Value} {w w0 : World} {r : Ending} {x y u v : Value} (h : Calls P F args w fun e w' => e = r ∧ Below w.heap.size w w') (hk : Fx.Hd (Kept w0 w x y u v)) :
    Calls P F args w fun e w' => e = r ∧ Fx.Hd (Kept w0 w' x y u v) ∧ w'.cell? ⟨w0.heap.size, 0, none⟩ = some x ∧ w'.cell? ⟨w0.heap.size, 1, none⟩ = some y ∧ w'.cell? ⟨w0.heap.size + 1, 0, none⟩ = some u ∧ w'.cell? ⟨w0.heap.size + 1, 1, none⟩ = some v ∧
      w'.frozen? ⟨w0.heap.size + 1, 0, none⟩ = false ∧ w'.frozen? ⟨w0.heap.size + 1, 1, none⟩ = false :=
  h.mono fun e w' ⟨h1, h2⟩ => by
    have k := hk.out.next h2
    exact ⟨h1, ⟨k⟩, k.c0, k.c1, k.d0, k.d1, k.f0, k.f1⟩
end Go.Proofs.Ytdpblimhfmfbnaa
/- The contracts of the reference's root up to a bound, and of the squares of a way. -/
namespace Go.Proofs.Ytdpblimhfmfbnaa
open Go.RowKit
set_option linter.unusedVariables false
end Go.Proofs.Ytdpblimhfmfbnaa
/- The contracts of lengths of package vec and of the reference. -/
namespace Go.Proofs.Ytdpblimhfmfbnaa
open Go.RowKit
set_option linter.unusedVariables false
end Go.Proofs.Ytdpblimhfmfbnaa
/- The argument of the statements of layer 2: what is known of a list of two ways and a number each. -/
namespace Go.Proofs.Ytdpblimhfmfbnaa
open Go.ChangeShapes Go.WideShapes Go.ChangeAt Go.RowKit Go.Deep
set_option linter.unusedVariables false

/-- A list of two ways and a number each: every element lies in memory, each number fits its kind. -/
def Asks2 (w : World) (a : Option Addr) (len cap : Nat) : Prop :=
  len ≤ cap ∧ cap ≤ 9223372036854775807 ∧ ∀ i, i < len → ∃ (b off : Nat) (x y u v k : Int), a = some ⟨b, off, none⟩ ∧ b < w.heap.size ∧ Fx.I64 x ∧ Fx.I64 y ∧ Fx.I64 u ∧ Fx.I64 v ∧ Fx.I64 k ∧
    w.cell? ⟨b, off + i * 5, none⟩ = some (.int .i64 x) ∧ w.cell? ⟨b, off + i * 5 + 1, none⟩ = some (.int .i64 y) ∧ w.cell? ⟨b, off + i * 5 + 2, none⟩ = some (.int .i64 u) ∧
    w.cell? ⟨b, off + i * 5 + 3, none⟩ = some (.int .i64 v) ∧ w.cell? ⟨b, off + i * 5 + 4, none⟩ = some (.int .i64 k)

theorem vec_of {H : Type} {enc : TypeId × Value → H} {w : World} {base : Nat} {spare : Nat → Bool} {held : Bool} {fuel : Nat} {x : DataW H × List MemPlace} {c0 c1 : Value}
    (hf : DataW.trod enc Try.prog w base spare held fuel 48 [c0, c1] = some x) : ∃ x y : Int, c0 = .int .i64 x ∧ c1 = .int .i64 y ∧ Fx.I64 x ∧ Fx.I64 y := by
  have h2 : Try.prog.cellsOf 2 = 1 := by kernel_rfl
  obtain ⟨ys, n', _, _, _, hyl, hg⟩ := DataW.trod_struct Try.underlying48 hf
  match ys, hyl with
  | [y0, y1], _ =>
    have g0 := hg 0 _ rfl
    have g1 := hg 1 _ rfl
    simp [h2] at g0 g1
    obtain ⟨x0, e0, _, w0⟩ := DataW.trod_int Try.underlying2 g0
    obtain ⟨x1, e1, _, w1⟩ := DataW.trod_int Try.underlying2 g1
    simp at e0 e1
    exact ⟨x0, x1, e0, e1, i64_of_wf w0, i64_of_wf w1⟩

end Go.Proofs.Ytdpblimhfmfbnaa
