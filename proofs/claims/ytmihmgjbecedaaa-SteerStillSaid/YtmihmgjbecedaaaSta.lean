/- The contracts of package steer and of the reference: the step to a place. -/
import Derived.Test.YtmihmgjbecedaaaVs
import Derived.Test.YtmihmgjbecedaaaVecm
import Derived.Test.YtmihmgjbecedaaaFn19
namespace Go.Proofs.Ytmihmgjbecedaaa
open Go.RowKit
set_option linter.unusedVariables false
set_option maxHeartbeats 1600000 in
theorem toward_any (x y u v k : Int) (w : World) (hx : Fx.I64 x) (hy : Fx.I64 y) (hu : Fx.I64 u) (hv : Fx.I64 v) (hk : Fx.I64 k) :
    Calls Try.prog 8 #[.agg #[.int .i64 x, .int .i64 y], .agg #[.int .i64 u, .int .i64 v], .int .i64 k] w fun e w' => e = .returned (.agg #[.int .i64 (Fx.towX x y u v k), .int .i64 (Fx.towY x y u v k)]) ∧ Below w.heap.size w w' := by
  have i1 := Fx.sub_i64 u x
  have i2 := Fx.sub_i64 v y
  go_enter Try.func8, Try.ntmps8
  go_wp2_with (first
    | (go_at_call 23; (with_reducible refine (vsub_any u v x y _ hu hv hx hy).mono ?_); rintro e w1 ⟨rfl, hb1⟩; obtain ⟨hc1, hf1⟩ := bcell hb1; have hz1 := hb1.size; simp at hz1; have q0 : w.heap.size < w1.heap.size := (by omega); have q1 : w.heap.size + 1 < w1.heap.size := (by omega); have q2 : w.heap.size + 1 + 1 < w1.heap.size := (by omega); clear hz1; have HB1 := Fx.Hd.mk hb1; clear hb1)
    | (go_at_call 22; (with_reducible refine (clamp_any _ _ k _ i1 i2 hk).mono ?_); rintro e w2 ⟨rfl, hb2⟩; obtain ⟨hc2, hf2⟩ := bcell hb2; have hz2 := hb2.size; have q3 : w.heap.size + 1 + 1 < w2.heap.size := (by omega); clear hz2; have HB2 := Fx.Hd.mk hb2; clear hb2))
  refine bodyPost_ret (v := .agg #[.int .i64 (Fx.towX x y u v k), .int .i64 (Fx.towY x y u v k)]) (by simp [results, Try.results8, go_sem, hc2, q2, hc1]; exact ⟨rfl, rfl⟩) rfl ⟨rfl, ?_⟩
  exact (((((((Below.refl _ _).alloc (Nat.le_refl _) _).alloc (by simp) _).alloc (by simp; omega) _).trans (HB1.out.mono (by simp; omega))).trans (HB2.out.mono (by omega))).setCell (by simp; omega) _).setCell (by simp; omega) _
set_option maxHeartbeats 1600000 in
theorem rtoward_any (x y u v k : Int) (w : World) (hx : Fx.I64 x) (hy : Fx.I64 y) (hu : Fx.I64 u) (hv : Fx.I64 v) (hk : Fx.I64 k) :
    Calls Try.prog 9 #[.agg #[.int .i64 x, .int .i64 y], .agg #[.int .i64 u, .int .i64 v], .int .i64 k] w fun e w' => e = .returned (.agg #[.int .i64 (Fx.towX x y u v k), .int .i64 (Fx.towY x y u v k)]) ∧ Below w.heap.size w w' := by
  have i1 := Fx.sub_i64 u x
  have i2 := Fx.sub_i64 v y
  go_enter Try.func9, Try.ntmps9
  go_wp2_with (first
    | (go_at_call 20; (with_reducible refine (rvsub_any u v x y _ hu hv hx hy).mono ?_); rintro e w1 ⟨rfl, hb1⟩; obtain ⟨hc1, hf1⟩ := bcell hb1; have hz1 := hb1.size; simp at hz1; have q0 : w.heap.size < w1.heap.size := (by omega); have q1 : w.heap.size + 1 < w1.heap.size := (by omega); have q2 : w.heap.size + 1 + 1 < w1.heap.size := (by omega); clear hz1; have HB1 := Fx.Hd.mk hb1; clear hb1)
    | (go_at_call 24; (with_reducible refine (rclamp_any _ _ k _ i1 i2 hk).mono ?_); rintro e w2 ⟨rfl, hb2⟩; obtain ⟨hc2, hf2⟩ := bcell hb2; have hz2 := hb2.size; have q3 : w.heap.size + 1 + 1 < w2.heap.size := (by omega); clear hz2; have HB2 := Fx.Hd.mk hb2; clear hb2))
  refine bodyPost_ret (v := .agg #[.int .i64 (Fx.towX x y u v k), .int .i64 (Fx.towY x y u v k)]) (by simp [results, Try.results9, go_sem, hc2, q2, hc1]; exact ⟨rfl, rfl⟩) rfl ⟨rfl, ?_⟩
  exact (((((((Below.refl _ _).alloc (Nat.le_refl _) _).alloc (by simp) _).alloc (by simp; omega) _).trans (HB1.out.mono (by simp; omega))).trans (HB2.out.mono (by omega))).setCell (by simp; omega) _).setCell (by simp; omega) _

/-- A call that makes memory leaves five cells of the argument as they were. -/
theorem held5c {P : Program} {F : FuncId} {args : Array Value} {w w0 : World} {r : Ending} {b o1 o2 o3 o4 o5 : Nat} {x1 x2 x3 x4 x5 : Value} (h : Calls P F args w fun e w' => e = r ∧ Below w.heap.size w w')
    (hB : Below w0.heap.size w0 w) (hbl : b < w0.heap.size) (d1 : w.cell? ⟨b, o1, none⟩ = some x1) (d2 : w.cell? ⟨b, o2, none⟩ = some x2) (d3 : w.cell? ⟨b, o3, none⟩ = some x3) (d4 : w.cell? ⟨b, o4, none⟩ = some x4) (d5 : w.cell? ⟨b, o5, none⟩ = some x5) :
    Calls P F args w fun e w' => e = r ∧ w'.cell? ⟨b, o1, none⟩ = some x1 ∧ w'.cell? ⟨b, o2, none⟩ = some x2 ∧ w'.cell? ⟨b, o3, none⟩ = some x3 ∧ w'.cell? ⟨b, o4, none⟩ = some x4 ∧ w'.cell? ⟨b, o5, none⟩ = some x5 ∧ Below w0.heap.size w0 w' := by
  have hl := Nat.lt_of_lt_of_le hbl hB.size
  exact h.mono fun e w' ⟨h1, h2⟩ => ⟨h1, (h2.cell (p := ⟨b, o1, none⟩) hl).trans d1, (h2.cell (p := ⟨b, o2, none⟩) hl).trans d2, (h2.cell (p := ⟨b, o3, none⟩) hl).trans d3, (h2.cell (p := ⟨b, o4, none⟩) hl).trans d4, (h2.cell (p := ⟨b, o5, none⟩) hl).trans d5, hB.trans (h2.mono hB.size)⟩

theorem k_tow (w : World) : Calls Try.prog 8 #[.agg #[.int .i64 0, .int .i64 0], .agg #[.int .i64 327680, .int .i64 0], .int .i64 65536] w fun e w' => e = .returned (.agg #[.int .i64 65536, .int .i64 0]) ∧ Below w.heap.size w w' := by
  have h := toward_any 0 0 327680 0 65536 w (by unfold Fx.I64; omega) (by unfold Fx.I64; omega) (by unfold Fx.I64; omega) (by unfold Fx.I64; omega) (by unfold Fx.I64; omega)
  rw [Fx.tow_wakes.1, Fx.tow_wakes.2] at h
  exact h
theorem wakes19_any (w : World) : Calls Try.prog 10 #[] w fun e w' => e = .returned (.bool true) ∧ Below w.heap.size w w' := by
  have H1 := Fx.Hd.mk (k_tow w)
  go_enter Try.func10, Try.ntmps10
  go_wp2_with (go_at_call 8; (with_reducible refine H1.out.mono ?_); rintro e w1 ⟨rfl, hb1⟩; have B1 := Fx.Hd.mk hb1; clear hb1)
  go_ret
  exact ⟨rfl, B1.out⟩
end Go.Proofs.Ytmihmgjbecedaaa
