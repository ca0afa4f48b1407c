/- Layer 19: what SteerStill calls. -/
import Derived.Test.YtmihmgjbecedaaaStf
import Derived.Test.YtmihmgjbecedaaaStb
import Derived.Test.YtmihmgjbecedaaaFn19d
import Derived.Test.YtmihmgjbecedaaaHold
namespace Go.Proofs.Ytmihmgjbecedaaa
open Go.RowKit
set_option linter.unusedVariables false
theorem small_as (x y X Y : Int) (w : World) (hx : Fx.I64 x) (hy : Fx.I64 y) (EX : Fx.Hd (x / 32 = X)) (EY : Fx.Hd (y / 32 = Y)) :
    Calls Try.prog 18 #[.agg #[.int .i64 x, .int .i64 y]] w fun e w' => e = .returned (.agg #[.int .i64 X, .int .i64 Y]) ∧ Below w.heap.size w w' := by
  obtain ⟨rfl⟩ := EX
  obtain ⟨rfl⟩ := EY
  obtain ⟨x0, x1⟩ := hx
  obtain ⟨y0, y1⟩ := hy
  go_enter Try.func18, Try.ntmps18
  go_wp2
  refine bodyPost_ret (v := .agg #[.int .i64 (x / 32), .int .i64 (y / 32)]) (by simp [results, Try.results18, go_sem]) rfl ⟨rfl, ?_⟩
  exact ((Below.refl _ _).alloc (Nat.le_refl _) _).alloc (by simp) _
theorem toward_as (x y u v k cx cy : Int) (w : World) (hx : Fx.I64 x) (hy : Fx.I64 y) (hu : Fx.I64 u) (hv : Fx.I64 v) (hk : Fx.I64 k) (EX : Fx.Hd (Fx.towX x y u v k = cx)) (EY : Fx.Hd (Fx.towY x y u v k = cy)) :
    Calls Try.prog 8 #[.agg #[.int .i64 x, .int .i64 y], .agg #[.int .i64 u, .int .i64 v], .int .i64 k] w fun e w' => e = .returned (.agg #[.int .i64 cx, .int .i64 cy]) ∧ Below w.heap.size w w' := by
  obtain ⟨rfl⟩ := EX; obtain ⟨rfl⟩ := EY; exact toward_any x y u v k w hx hy hu hv hk
theorem apart_as (x y r cx cy : Int) (a : Option Addr) (n c B : Nat) (f g : Nat → Int) (w : World) (hx : Fx.I64 x) (hy : Fx.I64 y) (hr : Fx.I64 r) (hv : Vs w B a n f g) (hB : B ≤ w.heap.size) (hn : n ≤ 140737488355328) (EX : Fx.Hd (Fx.pushX x y r f g n = cx)) (EY : Fx.Hd (Fx.pushY x y r f g n = cy)) :
    Calls Try.prog 13 #[.agg #[.int .i64 x, .int .i64 y], .int .i64 r, .slice a n c] w fun e w' => e = .returned (.agg #[.int .i64 cx, .int .i64 cy]) ∧ Below w.heap.size w w' := by
  obtain ⟨rfl⟩ := EX; obtain ⟨rfl⟩ := EY; exact apart_any x y r a n c B f g w hx hy hr hv hB hn
theorem vs_lit2 (w : World) (a b c d : Int) (t : TypeId) (ha : Fx.I64 a) (hb : Fx.I64 b) (hc : Fx.I64 c) (hd : Fx.I64 d) : Vs (w.alloc (.cells #[.int .i64 a, .int .i64 b, .int .i64 c, .int .i64 d] t)) (w.heap.size + 1) (some ⟨w.heap.size, 0, none⟩) 2 (fun k => if k = 0 then a else c) (fun k => if k = 0 then b else d) := by
  refine ⟨fun k hk => ?_, fun _ => ⟨_, _, rfl, by omega, fun k hk => ?_⟩⟩
  · match k, hk with
    | 0, _ => exact ⟨ha, hb⟩
    | 1, _ => exact ⟨hc, hd⟩
  · match k, hk with
    | 0, _ => exact ⟨by go_simp, by go_simp⟩
    | 1, _ => exact ⟨by go_simp, by go_simp⟩
theorem vs_lit1 (w : World) (a b : Int) (t : TypeId) (ha : Fx.I64 a) (hb : Fx.I64 b) : Vs (w.alloc (.cells #[.int .i64 a, .int .i64 b] t)) (w.heap.size + 1) (some ⟨w.heap.size, 0, none⟩) 1 (fun _ => a) (fun _ => b) := by
  refine ⟨fun k hk => ⟨ha, hb⟩, fun _ => ⟨_, _, rfl, by omega, fun k hk => ?_⟩⟩
  match k, hk with
  | 0, _ => exact ⟨by go_simp, by go_simp⟩
end Go.Proofs.Ytmihmgjbecedaaa
