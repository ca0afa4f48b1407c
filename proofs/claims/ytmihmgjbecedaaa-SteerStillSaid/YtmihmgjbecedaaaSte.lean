/- Layer 19: what calls leave: a box, the result, a variable, and one pair more. -/
import Derived.Test.YtmihmgjbecedaaaStb
import Derived.Test.YtmihmgjbecedaaaVecp
import Derived.Test.YtmihmgjbecedaaaVecn
import Derived.Test.YtmihmgjbecedaaaFn19c
namespace Go.Proofs.Ytmihmgjbecedaaa
open Go.RowKit
set_option linter.unusedVariables false
theorem vsub_as (a b c d X Y : Int) (w : World) (ha : Fx.I64 a) (hb : Fx.I64 b) (hc : Fx.I64 c) (hd : Fx.I64 d) (EX : Fx.Hd (Fx.subS a c = X)) (EY : Fx.Hd (Fx.subS b d = Y)) :
    Calls Try.prog 23 #[.agg #[.int .i64 a, .int .i64 b], .agg #[.int .i64 c, .int .i64 d]] w fun e w' => e = .returned (.agg #[.int .i64 X, .int .i64 Y]) ∧ Below w.heap.size w w' := by
  obtain ⟨rfl⟩ := EX; obtain ⟨rfl⟩ := EY; exact vsub_any a b c d w ha hb hc hd
theorem rvsub_as (a b c d X Y : Int) (w : World) (ha : Fx.I64 a) (hb : Fx.I64 b) (hc : Fx.I64 c) (hd : Fx.I64 d) (EX : Fx.Hd (Fx.subS a c = X)) (EY : Fx.Hd (Fx.subS b d = Y)) :
    Calls Try.prog 20 #[.agg #[.int .i64 a, .int .i64 b], .agg #[.int .i64 c, .int .i64 d]] w fun e w' => e = .returned (.agg #[.int .i64 X, .int .i64 Y]) ∧ Below w.heap.size w w' := by
  obtain ⟨rfl⟩ := EX; obtain ⟨rfl⟩ := EY; exact rvsub_any a b c d w ha hb hc hd
theorem rlen_as (a b l : Int) (w : World) (ha : Fx.I64 a) (hb : Fx.I64 b) (E : Fx.Hd (Fx.lenS a b = l)) :
    Calls Try.prog 19 #[.agg #[.int .i64 a, .int .i64 b]] w fun e w' => e = .returned (.int .i64 l) ∧ Below w.heap.size w w' := by
  obtain ⟨rfl⟩ := E; exact rlen_any a b w ha hb
theorem rwithin_as (a b c d r : Int) (g : Bool) (w : World) (ha : Fx.I64 a) (hb : Fx.I64 b) (hc : Fx.I64 c) (hd : Fx.I64 d) (hr : Fx.I64 r) (G : Fx.Hd (Fx.withinS a b c d r = g)) :
    Calls Try.prog 21 #[.agg #[.int .i64 a, .int .i64 b], .agg #[.int .i64 c, .int .i64 d], .int .i64 r] w fun e w' => e = .returned (.bool g) ∧ Below w.heap.size w w' := by
  obtain ⟨rfl⟩ := G; exact rwithin_any a b c d r w ha hb hc hd hr
theorem rclamp_as (a b k cx cy : Int) (w : World) (ha : Fx.I64 a) (hb : Fx.I64 b) (hk : Fx.I64 k) (EX : Fx.Hd (Fx.clampX a b k = cx)) (EY : Fx.Hd (Fx.clampY a b k = cy)) :
    Calls Try.prog 24 #[.agg #[.int .i64 a, .int .i64 b], .int .i64 k] w fun e w' => e = .returned (.agg #[.int .i64 cx, .int .i64 cy]) ∧ Below w.heap.size w w' := by
  obtain ⟨rfl⟩ := EX; obtain ⟨rfl⟩ := EY; exact rclamp_any a b k w ha hb hk
section
variable {w0 w w' : World} {p0 p1 r0 r1 s0 s1 : Value}
theorem C3.other (h : C3 w0 w p0 p1 r0 r1 s0 s1) (b o : Nat) (X : Value) (hb : w0.heap.size + 1 + 1 < b) : C3 w0 (w.setCell ⟨b, o, none⟩ X) p0 p1 r0 r1 s0 s1 := by
  have ot : ∀ (b' o' : Nat), b' ≤ w0.heap.size + 1 + 1 → (w.setCell ⟨b, o, none⟩ X).cell? ⟨b', o', none⟩ = w.cell? ⟨b', o', none⟩ := fun b' o' hb' => World.cell?_setCell_other _ _ _ _ (by simp <;> omega)
  refine ⟨(ot _ _ (by omega)).trans h.c0, (ot _ _ (by omega)).trans h.c1, (ot _ _ (by omega)).trans h.d0, (ot _ _ (by omega)).trans h.d1, (ot _ _ (by omega)).trans h.e0, (ot _ _ (by omega)).trans h.e1, by simpa using h.f0, by simpa using h.f1, by simpa using h.g0, by simpa using h.g1, by simpa using h.hs, h.hB.setCell (by simp; omega) _⟩
end
theorem heldC3P {P : Program} {F : FuncId} {args : Array Value} {w w0 : World} {r : Ending} {p0 p1 r0 r1 s0 s1 u v : Value} {Q : Nat} (h : Calls P F args w fun e w' => e = r ∧ Below w.heap.size w w') (hk : Fx.Hd (C3 w0 w p0 p1 r0 r1 s0 s1))
    (q0 : w.cell? ⟨Q, 0, none⟩ = some u) (q1 : w.cell? ⟨Q, 1, none⟩ = some v) (z0 : w.frozen? ⟨Q, 0, none⟩ = false) (z1 : w.frozen? ⟨Q, 1, none⟩ = false) :
    Calls P F args w fun e w' => e = r ∧ Fx.Hd (C3 w0 w' p0 p1 r0 r1 s0 s1) ∧ w'.cell? ⟨w0.heap.size, 0, none⟩ = some p0 ∧ w'.cell? ⟨w0.heap.size, 1, none⟩ = some p1 ∧ w'.cell? ⟨w0.heap.size + 1, 0, none⟩ = some r0 ∧ w'.cell? ⟨w0.heap.size + 1, 1, none⟩ = some r1 ∧
      w'.cell? ⟨w0.heap.size + 1 + 1, 0, none⟩ = some s0 ∧ w'.cell? ⟨w0.heap.size + 1 + 1, 1, none⟩ = some s1 ∧ w'.frozen? ⟨w0.heap.size + 1, 0, none⟩ = false ∧ w'.frozen? ⟨w0.heap.size + 1, 1, none⟩ = false ∧ w'.frozen? ⟨w0.heap.size + 1 + 1, 0, none⟩ = false ∧ w'.frozen? ⟨w0.heap.size + 1 + 1, 1, none⟩ = false ∧
      w'.cell? ⟨Q, 0, none⟩ = some u ∧ w'.cell? ⟨Q, 1, none⟩ = some v ∧ w'.frozen? ⟨Q, 0, none⟩ = false ∧ w'.frozen? ⟨Q, 1, none⟩ = false :=
  h.mono fun e w' ⟨h1, h2⟩ => by
    have k := hk.out.next h2
    have l := World.block_lt_of_cell? _ _ q0
    exact ⟨h1, ⟨k⟩, k.c0, k.c1, k.d0, k.d1, k.e0, k.e1, k.f0, k.f1, k.g0, k.g1, (h2.cell (p := ⟨Q, 0, none⟩) l).trans q0, (h2.cell (p := ⟨Q, 1, none⟩) l).trans q1, (h2.frozen (p := ⟨Q, 0, none⟩) l).trans z0, (h2.frozen (p := ⟨Q, 1, none⟩) l).trans z1⟩
end Go.Proofs.Ytmihmgjbecedaaa
