import Derived.Test.YtcgilmjhbdehpaaZbg
import Derived.Test.YtcgilmjhbdehpaaZbe
import Derived.ProofKit
import Derived.OpenShut
import Derived.ShutString
import Derived.ChangeOld
import Derived.Below
import Derived.Deep.Slices
import Derived.Deep.Fields
import Derived.ChangeSame
import Derived.Deep.RegionHeld3
import Derived.Deep.RegionWith
import Derived.Test.YtcgilmjhbdehpaaZbf
/- The contracts of the roots of package fixed and of the reference of layer 1, and of the statements' own small call. -/
namespace Go.Proofs.Ytcgilmjhbdehpaa
open Go.RowKit
set_option linter.unusedVariables false
end Go.Proofs.Ytcgilmjhbdehpaa
/- The contracts of package fixed at the constants that the statements of layer 1 name. -/
namespace Go.Proofs.Ytcgilmjhbdehpaa
open Go.RowKit
set_option linter.unusedVariables false
end Go.Proofs.Ytcgilmjhbdehpaa
/- The argument of the statements of layer 1: what is known of a list of three numbers each, and how a row whose one argument is such a list is lifted from a walk. -/
namespace Go.Proofs.Ytcgilmjhbdehpaa
open Go.ChangeShapes Go.WideShapes Go.ChangeAt Go.RowKit Go.Deep
set_option linter.unusedVariables false

/-- A list of three numbers each: every element lies in memory, each number fits its kind. -/
def Asks (w : World) (a : Option Addr) (len cap : Nat) : Prop :=
  len ≤ cap ∧ cap ≤ 9223372036854775807 ∧ ∀ i, i < len → ∃ (b off : Nat) (x y z : Int), a = some ⟨b, off, none⟩ ∧ b < w.heap.size ∧ Fx.I64 x ∧ Fx.I64 y ∧ Fx.I64 z ∧
    w.cell? ⟨b, off + i * 3, none⟩ = some (.int .i64 x) ∧ w.cell? ⟨b, off + i * 3 + 1, none⟩ = some (.int .i64 y) ∧ w.cell? ⟨b, off + i * 3 + 2, none⟩ = some (.int .i64 z)

theorem i64_of_wf {n : Int} (h : (Lit.int .i64 n).wf = true) : Fx.I64 n := by
  have := bounds_i64 h
  unfold Fx.I64; omega
theorem addr_plus {b off : Nat} (j : Nat) : (⟨b, off, none⟩ : Addr).add j = ⟨b, off + j, none⟩ := by
  unfold Addr.add; split <;> simp_all

theorem up {P : Program} {F : FuncId} {args : Array Value} {w w0 : World} {r : Ending} (h : Calls P F args w fun e w' => e = r ∧ Below w.heap.size w w') (hB : Fx.Hd (Below w0.heap.size w0 w)) :
    Calls P F args w fun e w' => e = r ∧ Fx.Hd (Below w0.heap.size w0 w') :=
  h.mono fun e w' ⟨h1, h2⟩ => ⟨h1, ⟨hB.out.trans (h2.mono hB.out.size)⟩⟩
/-- A call that makes memory leaves two cells of the argument as they were. -/
theorem held2 {P : Program} {F : FuncId} {args : Array Value} {w w0 : World} {r : Ending} {b o1 o2 : Nat} {x y : Value} (h : Calls P F args w fun e w' => e = r ∧ Below w.heap.size w w')
    (hB : Below w0.heap.size w0 w) (hbl : b < w0.heap.size) (d0 : w.cell? ⟨b, o1, none⟩ = some x) (d1 : w.cell? ⟨b, o2, none⟩ = some y) :
    Calls P F args w fun e w' => e = r ∧ w'.cell? ⟨b, o1, none⟩ = some x ∧ w'.cell? ⟨b, o2, none⟩ = some y ∧ Below w0.heap.size w0 w' :=
  h.mono fun e w' ⟨h1, h2⟩ => ⟨h1, (h2.cell (p := ⟨b, o1, none⟩) (Nat.lt_of_lt_of_le hbl hB.size)).trans d0, (h2.cell (p := ⟨b, o2, none⟩) (Nat.lt_of_lt_of_le hbl hB.size)).trans d1, hB.trans (h2.mono hB.size)⟩
end Go.Proofs.Ytcgilmjhbdehpaa
/- The contracts of inner products, of sizes and of orders of package vec and of the reference. -/
namespace Go.Proofs.Ytcgilmjhbdehpaa
open Go.RowKit
set_option linter.unusedVariables false
/-- A call that makes memory leaves two boxes as they were. -/
theorem heldD {P : Program} {F : FuncId} {args : Array Value} {w w0 : World} {r : Ending} {x y u v : Value} (h : Calls P F args w fun e w' => e = r ∧ Below w.heap.size w w')
    (c0 : w.cell? ⟨w0.heap.size, 0, none⟩ = some x) (c1 : w.cell? ⟨w0.heap.size, 1, none⟩ = some y) (d0 : w.cell? ⟨w0.heap.size + 1, 0, none⟩ = some u) (d1 : w.cell? ⟨w0.heap.size + 1, 1, none⟩ = some v)
    (hB : Below w0.heap.size w0 w) :
    Calls P F args w fun e w' => e = r ∧ w'.cell? ⟨w0.heap.size, 0, none⟩ = some x ∧ w'.cell? ⟨w0.heap.size, 1, none⟩ = some y ∧ w'.cell? ⟨w0.heap.size + 1, 0, none⟩ = some u ∧ w'.cell? ⟨w0.heap.size + 1, 1, none⟩ = some v ∧ Below w0.heap.size w0 w' :=
  h.mono fun e w' ⟨h1, h2⟩ => by
    have l1 := World.block_lt_of_cell? _ _ c0
    have l2 := World.block_lt_of_cell? _ _ d0
    exact ⟨h1, (h2.cell (p := ⟨w0.heap.size, 0, none⟩) l1).trans c0, (h2.cell (p := ⟨w0.heap.size, 1, none⟩) l1).trans c1, (h2.cell (p := ⟨w0.heap.size + 1, 0, none⟩) l2).trans d0, (h2.cell (p := ⟨w0.heap.size + 1, 1, none⟩) l2).trans d1, hB.trans (h2.mono hB.size)⟩
end Go.Proofs.Ytcgilmjhbdehpaa
/- The contracts of sums, differences and what is turned round of package vec and of the reference: what each call answers, for all arguments. -/
namespace Go.Proofs.Ytcgilmjhbdehpaa
open Go.RowKit
set_option linter.unusedVariables false
end Go.Proofs.Ytcgilmjhbdehpaa
/- The contracts of what is scaled, of package vec and of the reference. -/
namespace Go.Proofs.Ytcgilmjhbdehpaa
open Go.RowKit
set_option linter.unusedVariables false
/-- What a call that makes memory leaves as it was: two cells of a box and the two cells of the result behind it. -/
structure Kept (w0 w : World) (x y u v : Value) : Prop where
  c0 : w.cell? ⟨w0.heap.size, 0, none⟩ = some x
  c1 : w.cell? ⟨w0.heap.size, 1, none⟩ = some y
  d0 : w.cell? ⟨w0.heap.size + 1, 0, none⟩ = some u
  d1 : w.cell? ⟨w0.heap.size + 1, 1, none⟩ = some v
  f0 : w.frozen? ⟨w0.heap.size + 1, 0, none⟩ = false
  f1 : w.frozen? ⟨w0.heap.size + 1, 1, none⟩ = false
  hs : w0.heap.size + 1 < w.heap.size
  hB : Below w0.heap.size w0 w
theorem Kept.start (w : World) (x y u v : Value) (t t' : TypeId) : Kept w ((w.alloc (.cells #[x, y] t)).alloc (.cells #[u, v] t')) x y u v :=
  ⟨by go_simp, by go_simp, by go_simp, by go_simp, by go_simp, by go_simp, by simp, ((Below.refl _ _).alloc (Nat.le_refl _) _).alloc (by simp) _⟩
theorem Kept.next {w0 w w' : World} {x y u v : Value} (h : Kept w0 w x y u v) (hb : Below w.heap.size w w') : Kept w0 w' x y u v := by
  have hs := h.hs
  exact ⟨(hb.cell (p := ⟨w0.heap.size, 0, none⟩) (by simp; omega)).trans h.c0, (hb.cell (p := ⟨w0.heap.size, 1, none⟩) (by simp; omega)).trans h.c1,
   (hb.cell (p := ⟨w0.heap.size + 1, 0, none⟩) hs).trans h.d0, (hb.cell (p := ⟨w0.heap.size + 1, 1, none⟩) hs).trans h.d1,
   (hb.frozen (p := ⟨w0.heap.size + 1, 0, none⟩) hs).trans h.f0, (hb.frozen (p := ⟨w0.heap.size + 1, 1, none⟩) hs).trans h.f1, Nat.lt_of_lt_of_le hs hb.size, h.hB.trans (hb.mono h.hB.size)⟩
theorem Kept.drew {w0 w : World} {x y u v : Value} (h : Kept w0 w x y u v) : Kept w0 w.drew x y u v := ⟨h.c0, h.c1, h.d0, h.d1, h.f0, h.f1, h.hs, h.hB.drew⟩
theorem heldV {P : Program} {F : FuncId} {args : Array Value} {w w0 : World} {r : Ending} {x y u v : Value} (h : Calls P F args w fun e w' => e = r ∧ Below w.heap.size w w') (hk : Fx.Hd (Kept w0 w x y u v)) :
    Calls P F args w fun e w' => e = r ∧ Fx.Hd (Kept w0 w' x y u v) ∧ w'.cell? ⟨w0.heap.size, 0, none⟩ = some x ∧ w'.cell? ⟨w0.heap.size, 1, none⟩ = some y ∧ w'.cell? ⟨w0.heap.size + 1, 0, none⟩ = some u ∧ w'.cell? ⟨w0.heap.size + 1, 1, none⟩ = some v ∧
      w'.frozen? ⟨w0.heap.size + 1, 0, none⟩ = false ∧ w'.frozen? ⟨w0.heap.size + 1, 1, none⟩ = false :=
  h.mono fun e w' ⟨h1, h2⟩ => by
    have k := hk.out.next h2
    exact ⟨h1, ⟨k⟩, k.c0, k.c1, k.d0, k.d1, k.f0, k.f1⟩
end Go.Proofs.Ytcgilmjhbdehpaa
