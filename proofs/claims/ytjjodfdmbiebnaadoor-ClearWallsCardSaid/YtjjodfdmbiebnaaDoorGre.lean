/- Layer 6: centres of tiles. -/
import Derived.Test.YtjjodfdmbiebnaaDoorGrd
namespace Go.Proofs.YtjjodfdmbiebnaaDoor
open Go.RowKit
set_option linter.unusedVariables false
theorem wr_in {x : Int} (h : -9223372036854775808 ≤ x ∧ x ≤ 9223372036854775807) : IntKind.i64.wrap x = x := IntWalk.i64_in _ ⟨h.1, h.2⟩
set_option maxHeartbeats 800000 in
theorem tcenter_any (W t : Int) (w : World) (w1 : 1 ≤ W) (w2 : W ≤ 128) (t0 : 0 ≤ t) (t1 : t ≤ 16384) :
    Calls Tryd.prog 52 #[.int .i64 W, .int .i64 t] w fun e' w' => e' = .returned (.agg #[.int .i64 (t % W * 65536 + 32768), .int .i64 (t / W * 65536 + 32768)]) ∧ Below w.heap.size w w' := by
  have q1 : 0 ≤ t % W := Int.emod_nonneg _ (by omega)
  have q2 : t % W < W := Int.emod_lt_of_pos _ (by omega)
  have q3 : 0 ≤ t / W := Int.ediv_nonneg t0 (by omega)
  have q4 : t / W ≤ t := Int.ediv_le_self _ t0
  have r1 : t.tmod W = t % W := Int.tmod_eq_emod_of_nonneg t0
  have r2 : t.tdiv W = t / W := Int.tdiv_eq_ediv_of_nonneg t0
  have w0 : ¬ W = 0 := by omega
  have e1 : IntKind.i64.wrap (t % W * 65536) = t % W * 65536 := wr_in (by omega)
  have e2 : IntKind.i64.wrap (t % W * 65536 + 32768) = t % W * 65536 + 32768 := wr_in (by omega)
  have e3 : IntKind.i64.wrap (t / W) = t / W := wr_in (by omega)
  have e4 : IntKind.i64.wrap (t / W * 65536) = t / W * 65536 := wr_in (by omega)
  have e5 : IntKind.i64.wrap (t / W * 65536 + 32768) = t / W * 65536 + 32768 := wr_in (by omega)
  go_enter Tryd.func52, Tryd.ntmps52
  go_wp2
  go_region_held3 (fun w' => True) (trivial) (fail)
  go_wp2
  refine bodyPost_ret (v := .agg #[.int .i64 (t % W * 65536 + 32768), .int .i64 (t / W * 65536 + 32768)]) (by simp [results, Tryd.results52, go_sem]) rfl ⟨rfl, ?_⟩
  exact ((Below.refl _ _).alloc (Nat.le_refl _) _).drew
set_option maxHeartbeats 800000 in
theorem rcenter_any (W H t : Int) (s : Value) (w : World) (w1 : 1 ≤ W) (w2 : W ≤ 128) (t0 : 0 ≤ t) (t1 : t ≤ 16384) :
    Calls Tryd.prog 48 #[.agg #[.int .i64 W, .int .i64 H, s], .int .i64 t] w fun e' w' => e' = .returned (.agg #[.int .i64 (t % W * 65536 + 32768), .int .i64 (t / W * 65536 + 32768)]) ∧ Below w.heap.size w w' := by
  have q1 : 0 ≤ t % W := Int.emod_nonneg _ (by omega)
  have q2 : t % W < W := Int.emod_lt_of_pos _ (by omega)
  have q3 : 0 ≤ t / W := Int.ediv_nonneg t0 (by omega)
  have q4 : t / W ≤ t := Int.ediv_le_self _ t0
  have r1 : t.tmod W = t % W := Int.tmod_eq_emod_of_nonneg t0
  have r2 : t.tdiv W = t / W := Int.tdiv_eq_ediv_of_nonneg t0
  have w0 : ¬ W = 0 := by omega
  have e1 : IntKind.i64.wrap (t % W * 65536) = t % W * 65536 := wr_in (by omega)
  have e2 : IntKind.i64.wrap (t % W * 65536 + 32768) = t % W * 65536 + 32768 := wr_in (by omega)
  have e3 : IntKind.i64.wrap (t / W) = t / W := wr_in (by omega)
  have e4 : IntKind.i64.wrap (t / W * 65536) = t / W * 65536 := wr_in (by omega)
  have e5 : IntKind.i64.wrap (t / W * 65536 + 32768) = t / W * 65536 + 32768 := wr_in (by omega)
  go_enter Tryd.func48, Tryd.ntmps48
  go_wp2
  go_region_held3 (fun w' => w'.cell? ⟨w.heap.size, 0, none⟩ = some (.int .i64 W)) (go_keep) (fail)
  all_goals
    go_wp2
    refine bodyPost_ret (v := .agg #[.int .i64 (t % W * 65536 + 32768), .int .i64 (t / W * 65536 + 32768)]) (by simp [results, Tryd.results48, go_sem]) rfl ⟨rfl, ?_⟩
    exact (((Below.refl _ _).alloc (Nat.le_refl _) _).alloc (by simp <;> omega) _).drew
end Go.Proofs.YtjjodfdmbiebnaaDoor
