/- The argument of the statements of layer 1: what is known of a list of three numbers each, and how a row whose one argument is such a list is lifted from a walk. -/
import Derived.Test.YtdammgpflfoppaaFixi
import Derived.Test.YtdammgpflfoppaaFv
import Derived.Test.YtdammgpflfoppaaFixk
import Derived.ProofKit
import Derived.OpenShut
import Derived.ShutString
import Derived.ChangeOld
import Derived.Below
import Derived.Deep.Slices
import Derived.Deep.Fields
import Derived.ChangeSame
namespace Go.Proofs.Ytdammgpflfoppaa
open Go.ChangeShapes Go.WideShapes Go.ChangeAt Go.RowKit Go.Deep
set_option linter.unusedVariables false

/-- A list of three numbers each: every element lies in memory, each number fits its kind. -/
def Asks (w : World) (a : Option Addr) (len cap : Nat) : Prop :=
  len ≤ cap ∧ cap ≤ 9223372036854775807 ∧ ∀ i, i < len → ∃ (b off : Nat) (x y z : Int), a = some ⟨b, off, none⟩ ∧ b < w.heap.size ∧ Fx.I64 x ∧ Fx.I64 y ∧ Fx.I64 z ∧
    w.cell? ⟨b, off + i * 3, none⟩ = some (.int .i64 x) ∧ w.cell? ⟨b, off + i * 3 + 1, none⟩ = some (.int .i64 y) ∧ w.cell? ⟨b, off + i * 3 + 2, none⟩ = some (.int .i64 z)

theorem i64_of_wf {n : Int} (h : (Lit.int .i64 n).wf = true) : Fx.I64 n := by
  have := bounds_i64 h
  unfold Fx.I64; omega
theorem addr_plus {b off : Nat} (j : Nat) : (⟨b, off, none⟩ : Addr).add j = ⟨b, off + j, none⟩ := by
  unfold Addr.add; split <;> simp_all

theorem up {P : Program} {F : FuncId} {args : Array Value} {w w0 : World} {r : Ending} (h : Calls P F args w fun e w' => e = r ∧ Below w.heap.size w w') (hB : Fx.Hd (Below w0.heap.size w0 w)) :
    Calls P F args w fun e w' => e = r ∧ Fx.Hd (Below w0.heap.size w0 w') :=
  h.mono fun e w' ⟨h1, h2⟩ => ⟨h1, ⟨hB.out.trans (h2.mono hB.out.size)⟩⟩
/-- A call that makes memory leaves two cells of the argument as they were. -/
theorem held2 {P : Program} {F : FuncId} {args : Array Value} {w w0 : World} {r : Ending} {b o1 o2 : Nat} {x y : Value} (h : Calls P F args w fun e w' => e = r ∧ Below w.heap.size w w')
    (hB : Below w0.heap.size w0 w) (hbl : b < w0.heap.size) (d0 : w.cell? ⟨b, o1, none⟩ = some x) (d1 : w.cell? ⟨b, o2, none⟩ = some y) :
    Calls P F args w fun e w' => e = r ∧ w'.cell? ⟨b, o1, none⟩ = some x ∧ w'.cell? ⟨b, o2, none⟩ = some y ∧ Below w0.heap.size w0 w' :=
  h.mono fun e w' ⟨h1, h2⟩ => ⟨h1, (h2.cell (p := ⟨b, o1, none⟩) (Nat.lt_of_lt_of_le hbl hB.size)).trans d0, (h2.cell (p := ⟨b, o2, none⟩) (Nat.lt_of_lt_of_le hbl hB.size)).trans d1, hB.trans (h2.mono hB.size)⟩
theorem asks_of {H : Type} {enc : TypeId × Value → H} {w : World} {base : Nat} {held : Bool} {fuel : Nat} {x : DataW H × List MemPlace} {a : Option Addr} {len cap : Nat}
    (hf : DataW.trod enc Try.prog w base (fun _ => true) held fuel 22 [.slice a len cap] = some x) : Asks w a len cap := by
  rcases open_slice Try.underlying22 hf with ⟨hcs, _⟩ | ⟨a', l, c, m, n, D, Pl, hcs, _, hl, hm, hmm, _, hi⟩
  · simp at hcs
    obtain ⟨rfl, rfl, rfl⟩ := hcs
    exact ⟨Nat.le_refl _, by omega, fun i h => absurd h (by omega)⟩
  · simp at hcs
    obtain ⟨rfl, rfl, rfl⟩ := hcs
    refine ⟨hl, by unfold maxLen at hm; omega, fun i hlt => ?_⟩
    have hC : Try.prog.cellsOf 24 = 3 := by kernel_rfl
    have h2 : Try.prog.cellsOf 2 = 1 := by kernel_rfl
    obtain ⟨cs', hc, ht⟩ := hi i (by rw [hmm]; simp; omega)
    rw [hC] at hc
    obtain ⟨ys, n', _, _, _, hyl, hg⟩ := DataW.trod_struct Try.underlying24 ht
    obtain ⟨_, hcl, hat⟩ := World.cells?_some hc
    match cs', hcl with
    | [c0, c1, c2], _ =>
      match ys, hyl with
      | [y0, y1, y2], _ =>
        have g0 := hg 0 _ rfl
        have g1 := hg 1 _ rfl
        have g2 := hg 2 _ rfl
        simp [h2] at g0 g1 g2
        obtain ⟨x0, e0, _, w0⟩ := DataW.trod_int Try.underlying2 g0
        obtain ⟨x1, e1, _, w1⟩ := DataW.trod_int Try.underlying2 g1
        obtain ⟨x2, e2, _, w2⟩ := DataW.trod_int Try.underlying2 g2
        simp at e0 e1 e2
        subst e0 e1 e2
        have k0 := hat 0 (by omega)
        have k1 := hat 1 (by omega)
        have k2 := hat 2 (by omega)
        obtain ⟨b, off, spot⟩ := a'
        have hs : spot = none := by
          obtain ⟨cs2, hc2, _⟩ := hi 0 (by rw [hmm]; simp; omega)
          rw [hC] at hc2
          obtain ⟨_, hcl2, hat2⟩ := World.cells?_some hc2
          have h0 := hat2 0 (by omega)
          rw [List.getElem?_eq_getElem (by omega)] at h0
          simpa [Addr.add] using World.cell?_spot h0
        subst hs
        simp only [addr_plus, Nat.add_zero] at k0 k1 k2
        exact ⟨b, off, x0, x1, x2, rfl, World.block_lt_of_cell? _ _ k0, i64_of_wf w0, i64_of_wf w1, i64_of_wf w2, k0, k1, k2⟩
end Go.Proofs.Ytdammgpflfoppaa
