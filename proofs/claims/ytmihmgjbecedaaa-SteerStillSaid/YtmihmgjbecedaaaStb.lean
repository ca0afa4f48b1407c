/- What a call that makes memory leaves as it was: a box, the result behind it, a variable behind that. -/
import Derived.Test.YtmihmgjbecedaaaSta
import Derived.Test.YtmihmgjbecedaaaFn19b
namespace Go.Proofs.Ytmihmgjbecedaaa
open Go.RowKit
set_option linter.unusedVariables false
structure C3 (w0 w : World) (p0 p1 r0 r1 s0 s1 : Value) : Prop where
  c0 : w.cell? ⟨w0.heap.size, 0, none⟩ = some p0
  c1 : w.cell? ⟨w0.heap.size, 1, none⟩ = some p1
  d0 : w.cell? ⟨w0.heap.size + 1, 0, none⟩ = some r0
  d1 : w.cell? ⟨w0.heap.size + 1, 1, none⟩ = some r1
  e0 : w.cell? ⟨w0.heap.size + 1 + 1, 0, none⟩ = some s0
  e1 : w.cell? ⟨w0.heap.size + 1 + 1, 1, none⟩ = some s1
  f0 : w.frozen? ⟨w0.heap.size + 1, 0, none⟩ = false
  f1 : w.frozen? ⟨w0.heap.size + 1, 1, none⟩ = false
  g0 : w.frozen? ⟨w0.heap.size + 1 + 1, 0, none⟩ = false
  g1 : w.frozen? ⟨w0.heap.size + 1 + 1, 1, none⟩ = false
  hs : w0.heap.size + 1 + 1 < w.heap.size
  hB : Below w0.heap.size w0 w
theorem C3.start (w : World) (p0 p1 r0 r1 s0 s1 : Value) (t t' t'' : TypeId) : C3 w (((w.alloc (.cells #[p0, p1] t)).alloc (.cells #[r0, r1] t')).alloc (.cells #[s0, s1] t'')) p0 p1 r0 r1 s0 s1 :=
  ⟨by go_simp, by go_simp, by go_simp, by go_simp, by go_simp, by go_simp, by go_simp, by go_simp, by go_simp, by go_simp, by simp, (((Below.refl _ _).alloc (Nat.le_refl _) _).alloc (by simp) _).alloc (by simp <;> omega) _⟩
section
variable {w0 w w' : World} {p0 p1 r0 r1 s0 s1 : Value}
theorem C3.next (h : C3 w0 w p0 p1 r0 r1 s0 s1) (hb : Below w.heap.size w w') : C3 w0 w' p0 p1 r0 r1 s0 s1 := by
  have hs := h.hs
  have a0 : w0.heap.size < w.heap.size := by omega
  have a1 : w0.heap.size + 1 < w.heap.size := by omega
  exact ⟨(hb.cell (p := ⟨w0.heap.size, 0, none⟩) a0).trans h.c0, (hb.cell (p := ⟨w0.heap.size, 1, none⟩) a0).trans h.c1,
   (hb.cell (p := ⟨w0.heap.size + 1, 0, none⟩) a1).trans h.d0, (hb.cell (p := ⟨w0.heap.size + 1, 1, none⟩) a1).trans h.d1,
   (hb.cell (p := ⟨w0.heap.size + 1 + 1, 0, none⟩) hs).trans h.e0, (hb.cell (p := ⟨w0.heap.size + 1 + 1, 1, none⟩) hs).trans h.e1,
   (hb.frozen (p := ⟨w0.heap.size + 1, 0, none⟩) a1).trans h.f0, (hb.frozen (p := ⟨w0.heap.size + 1, 1, none⟩) a1).trans h.f1,
   (hb.frozen (p := ⟨w0.heap.size + 1 + 1, 0, none⟩) hs).trans h.g0, (hb.frozen (p := ⟨w0.heap.size + 1 + 1, 1, none⟩) hs).trans h.g1, Nat.lt_of_lt_of_le hs hb.size, h.hB.trans (hb.mono h.hB.size)⟩
theorem C3.alloc (h : C3 w0 w p0 p1 r0 r1 s0 s1) (o : Obj) : C3 w0 (w.alloc o) p0 p1 r0 r1 s0 s1 := h.next ((Below.refl _ _).alloc (Nat.le_refl _) _)
theorem C3.drew (h : C3 w0 w p0 p1 r0 r1 s0 s1) : C3 w0 w.drew p0 p1 r0 r1 s0 s1 := ⟨h.c0, h.c1, h.d0, h.d1, h.e0, h.e1, h.f0, h.f1, h.g0, h.g1, h.hs, h.hB.drew⟩
theorem C3.set (h : C3 w0 w p0 p1 r0 r1 s0 s1) (X Y : Value) : C3 w0 ((w.setCell ⟨w0.heap.size + 1 + 1, 0, none⟩ X).setCell ⟨w0.heap.size + 1 + 1, 1, none⟩ Y) p0 p1 r0 r1 X Y := by
  have ot : ∀ (b o o' : Nat) (v : Value) (u : World), b ≠ w0.heap.size + 1 + 1 → (u.setCell ⟨w0.heap.size + 1 + 1, o, none⟩ v).cell? ⟨b, o', none⟩ = u.cell? ⟨b, o', none⟩ := fun b o o' v u hb => World.cell?_setCell_other _ _ _ _ (by simp <;> omega)
  refine ⟨?_, ?_, ?_, ?_, ?_, ?_, ?_, ?_, ?_, ?_, ?_, ?_⟩
  · rw [ot _ _ _ _ _ (by omega), ot _ _ _ _ _ (by omega)]; exact h.c0
  · rw [ot _ _ _ _ _ (by omega), ot _ _ _ _ _ (by omega)]; exact h.c1
  · rw [ot _ _ _ _ _ (by omega), ot _ _ _ _ _ (by omega)]; exact h.d0
  · rw [ot _ _ _ _ _ (by omega), ot _ _ _ _ _ (by omega)]; exact h.d1
  · rw [World.cell?_setCell_other _ _ _ _ (by simp)]; exact World.cell?_setCell_same _ _ _ (u := s0) h.e0
  · refine World.cell?_setCell_same _ _ _ (u := s1) ?_
    rw [World.cell?_setCell_other _ _ _ _ (by simp)]; exact h.e1
  · simpa using h.f0
  · simpa using h.f1
  · simpa using h.g0
  · simpa using h.g1
  · simpa using h.hs
  · exact (h.hB.setCell (by simp; omega) _).setCell (by simp; omega) _
end
theorem heldC3 {P : Program} {F : FuncId} {args : Array Value} {w w0 : World} {r : Ending} {p0 p1 r0 r1 s0 s1 : Value} (h : Calls P F args w fun e w' => e = r ∧ Below w.heap.size w w') (hk : Fx.Hd (C3 w0 w p0 p1 r0 r1 s0 s1)) :
    Calls P F args w fun e w' => e = r ∧ Fx.Hd (C3 w0 w' p0 p1 r0 r1 s0 s1) ∧ w'.cell? ⟨w0.heap.size, 0, none⟩ = some p0 ∧ w'.cell? ⟨w0.heap.size, 1, none⟩ = some p1 ∧ w'.cell? ⟨w0.heap.size + 1, 0, none⟩ = some r0 ∧ w'.cell? ⟨w0.heap.size + 1, 1, none⟩ = some r1 ∧
      w'.cell? ⟨w0.heap.size + 1 + 1, 0, none⟩ = some s0 ∧ w'.cell? ⟨w0.heap.size + 1 + 1, 1, none⟩ = some s1 ∧ w'.frozen? ⟨w0.heap.size + 1, 0, none⟩ = false ∧ w'.frozen? ⟨w0.heap.size + 1, 1, none⟩ = false ∧ w'.frozen? ⟨w0.heap.size + 1 + 1, 0, none⟩ = false ∧ w'.frozen? ⟨w0.heap.size + 1 + 1, 1, none⟩ = false :=
  h.mono fun e w' ⟨h1, h2⟩ => by
    have k := hk.out.next h2
    exact ⟨h1, ⟨k⟩, k.c0, k.c1, k.d0, k.d1, k.e0, k.e1, k.f0, k.f1, k.g0, k.g1⟩
theorem heavy19_any (x y u v z : Int) (a : Option Addr) (n c : Nat) (w : World) : Calls Try.prog 11 #[.agg #[.int .i64 x, .int .i64 y, .int .i64 u, .int .i64 v, .int .i64 z, .slice a n c]] w fun e w' => e = .returned (.bool (decide (100 < n))) ∧ Below w.heap.size w w' := by
  by_cases hn : 100 < n
  · have b1 : decide ((100 : Int) < n) = true := by simp; omega
    go_enter Try.func11, Try.ntmps11
    go_wp2
    go_ret
    exact ⟨Fx.rb (by simp; omega), (Below.refl _ _).alloc (Nat.le_refl _) _⟩
  · have b1 : decide ((100 : Int) < n) = false := by simp; omega
    go_enter Try.func11, Try.ntmps11
    go_wp2
    go_ret
    exact ⟨Fx.rb (by simp; omega), (Below.refl _ _).alloc (Nat.le_refl _) _⟩
end Go.Proofs.Ytmihmgjbecedaaa
