/- Contracts of layer 17: discs. -/
import Derived.Test.YtkggejdbkllaaaaDsp
import Derived.Test.YtkggejdbkllaaaaVecf
import Derived.Test.YtkggejdbkllaaaaGra
import Derived.Test.YtkggejdbkllaaaaHold
namespace Go.Proofs.Ytkggejdbkllaaaa
open Go.RowKit
set_option linter.unusedVariables false
theorem radius_any (x : Int) (w : World) (hx : Fx.I64 x) : Calls Try.prog 52 #[.int .i64 x] w fun e w' => e = .returned (.int .i64 (Fx.radS x)) ∧ w = w' := by
  by_cases q0 : x < 0
  · have R : Hk (Fx.radS x = 0) := ⟨by unfold Fx.radS; rw [if_pos q0]⟩
    go_enter Try.func52, Try.ntmps52
    go_wp2
    go_ret
    exact ⟨ri R.out.symm, rfl⟩
  by_cases q1 : 262144 < x
  · have R : Hk (Fx.radS x = 262144) := ⟨by unfold Fx.radS; rw [if_neg q0, if_pos q1]⟩
    go_enter Try.func52, Try.ntmps52
    go_wp2
    go_ret
    exact ⟨ri R.out.symm, rfl⟩
  · have R : Hk (Fx.radS x = x) := ⟨by unfold Fx.radS; rw [if_neg q0, if_neg q1]⟩
    go_enter Try.func52, Try.ntmps52
    go_wp2
    go_ret
    exact ⟨ri R.out.symm, rfl⟩
set_option maxHeartbeats 800000 in
theorem dapart_any (a b r c d s : Int) (w : World) (ha : Fx.I64 a) (hb : Fx.I64 b) (hc : Fx.I64 c) (hd : Fx.I64 d) (hr : Fx.I64 r) (hs : Fx.I64 s) :
    Calls Try.prog 37 #[.agg #[.int .i64 a, .int .i64 b], .int .i64 r, .agg #[.int .i64 c, .int .i64 d], .int .i64 s] w fun e w' => e = .returned (.bool (Fx.apS a b r c d s)) ∧ Below w.heap.size w w' := by
  obtain ⟨r0, r1⟩ := Fx.radS_bd r
  obtain ⟨s0, s1⟩ := Fx.radS_bd s
  have R : Hk (Fx.apS a b r c d s = !Fx.withinS a b c d (Fx.radS r + Fx.radS s)) := ⟨rfl⟩
  have hm : Fx.I64 (Fx.radS r + Fx.radS s) := by unfold Fx.I64; omega
  have em : IntKind.i64.wrap (Fx.radS r + Fx.radS s) = Fx.radS r + Fx.radS s := IntWalk.i64_in _ (by omega)
  have eb : Below w.heap.size w ((w.alloc (.cells #[.int .i64 a, .int .i64 b] 59)).alloc (.cells #[.int .i64 c, .int .i64 d] 59)) := ((Below.refl _ _).alloc (Nat.le_refl _) _).alloc (by simp) _
  go_enter Try.func37, Try.ntmps37
  go_wp2
  go_region_held3 (fun w' => w'.cell? ⟨w.heap.size, 0, none⟩ = some (.int .i64 a) ∧ w'.cell? ⟨w.heap.size, 1, none⟩ = some (.int .i64 b) ∧ w'.cell? ⟨w.heap.size + 1, 0, none⟩ = some (.int .i64 c) ∧ w'.cell? ⟨w.heap.size + 1, 1, none⟩ = some (.int .i64 d) ∧ Below w.heap.size w w') (first | exact ⟨e1, e2, e3, e4, eb⟩ | (refine ⟨by go_simp, by go_simp, by go_simp, by go_simp, Below.drew eb⟩) | go_keep)
    (first | (go_at_call 52; (first | (with_reducible refine (radius_any r _ hr).mono ?_) | (with_reducible refine (radius_any s _ hs).mono ?_)); rintro e w' ⟨rfl, rfl⟩) | (go_at_call 51; go_must (refine (hold4 (B := w.heap.size) (w0 := w) (b1 := w.heap.size) (o1 := 0) (x1 := .int .i64 a) (b2 := w.heap.size) (o2 := 1) (x2 := .int .i64 b) (b3 := w.heap.size + 1) (o3 := 0) (x3 := .int .i64 c) (b4 := w.heap.size + 1) (o4 := 1) (x4 := .int .i64 d) (within_any a b c d (Fx.radS r + Fx.radS s) _ ha hb hc hd hm) ?_ ?_ ?_ ?_ ?_ ?_).mono ?_); (first | assumption | exact Below.drew eb); (first | exact Below.size eb | exact Below.size (Below.drew eb)); (first | assumption | go_simp); (first | assumption | go_simp); (first | assumption | go_simp); (first | assumption | go_simp); rintro e w' ⟨rfl, e1, e2, e3, e4, eb⟩))
  go_wp2
  go_ret
  exact ⟨rbo (by rw [R.out]), eb⟩
theorem rad_cases (r : Int) : (¬ 0 < r ∧ r < 262144 ∧ Fx.radS r = 0) ∨ (0 < r ∧ 262144 < r ∧ Fx.radS r = 262144) ∨ (0 < r ∧ r < 262144 ∧ Fx.radS r = r) ∨ (r = 262144 ∧ Fx.radS r = 262144) := by
  unfold Fx.radS; (repeat' split) <;> omega
set_option maxHeartbeats 1600000 in
theorem rapart_core (a b r c d s R S : Int) (g : Bool) (w : World) (ha : Fx.I64 a) (hb : Fx.I64 b) (hc : Fx.I64 c) (hd : Fx.I64 d) (cr : (¬ 0 < r ∧ r < 262144 ∧ R = 0) ∨ (0 < r ∧ 262144 < r ∧ R = 262144) ∨ (0 < r ∧ r < 262144 ∧ R = r) ∨ (r = 262144 ∧ R = 262144)) (cs : (¬ 0 < s ∧ s < 262144 ∧ S = 0) ∨ (0 < s ∧ 262144 < s ∧ S = 262144) ∨ (0 < s ∧ s < 262144 ∧ S = s) ∨ (s = 262144 ∧ S = 262144)) (HG : Hk (Fx.withinS a b c d (R + S) = g)) :
    Calls Try.prog 38 #[.agg #[.int .i64 a, .int .i64 b], .int .i64 r, .agg #[.int .i64 c, .int .i64 d], .int .i64 s] w fun e w' => e = .returned (.bool (!g)) ∧ Below w.heap.size w w' := by
  have hm : Fx.I64 (R + S) := by unfold Fx.I64; omega
  rcases cr with ⟨r0, r1, rfl⟩ | ⟨r0, r1, rfl⟩ | ⟨r0, r1, rfl⟩ | ⟨rfl, rfl⟩ <;> rcases cs with ⟨s0, s1, rfl⟩ | ⟨s0, s1, rfl⟩ | ⟨s0, s1, rfl⟩ | ⟨rfl, rfl⟩ <;>
  · have hm2 := hm
    (try simp at hm2)
    have hg2 := HG.out
    (try simp at hg2)
    have HG2 := Hk.mk hg2
    clear hg2
    go_enter Try.func38, Try.ntmps38
    go_wp2_with (go_at_call 53; (with_reducible refine (rwithin_any a b c d _ _ ha hb hc hd hm2).mono ?_); rintro e w1 ⟨rfl, hb1⟩; have HB1 := Hk.mk hb1; clear hb1)
    go_ret
    exact ⟨rbo (by rw [HG2.out]), (((Below.refl _ _).alloc (Nat.le_refl _) _).alloc (by simp) _).trans (HB1.out.mono (by simp <;> omega))⟩
theorem rapart_any (a b r c d s : Int) (w : World) (ha : Fx.I64 a) (hb : Fx.I64 b) (hc : Fx.I64 c) (hd : Fx.I64 d) :
    Calls Try.prog 38 #[.agg #[.int .i64 a, .int .i64 b], .int .i64 r, .agg #[.int .i64 c, .int .i64 d], .int .i64 s] w fun e w' => e = .returned (.bool (Fx.apS a b r c d s)) ∧ Below w.heap.size w w' :=
  rapart_core a b r c d s (Fx.radS r) (Fx.radS s) _ w ha hb hc hd (rad_cases r) (rad_cases s) ⟨rfl⟩
end Go.Proofs.Ytkggejdbkllaaaa
