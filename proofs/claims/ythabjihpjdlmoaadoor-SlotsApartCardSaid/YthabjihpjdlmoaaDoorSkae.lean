import Derived.Deep.QuietTactic
import Derived.BigQuiet
import Derived.Deep.RegionWith
import Derived.Deep.RegionHeld3
import Derived.Deep.DeepCutAuto
import Derived.Deep.DeepFit
import Derived.Outline
import Derived.Test.YthabjihpjdlmoaaDoorSkac
import Derived.Test.YthabjihpjdlmoaaDoorSkr
import Derived.Test.YthabjihpjdlmoaaDoorSkad
/- Layer 20: discs at the places' centres; steps from tile to tile. -/
namespace Go.Proofs.YthabjihpjdlmoaaDoor
open Go.ChangeShapes Go.WideShapes Go.ChangeAt Go.RowKit Go.Deep
set_option linter.unusedVariables false
set_option linter.unusedSimpArgs false
theorem sub_sm {a c : Int} (h1 : -100000000 ≤ a) (h2 : a ≤ 100000000) (h3 : -100000000 ≤ c) (h4 : c ≤ 100000000) : Fx.subS a c = a - c := by
  unfold Fx.subS Fx.addS Fx.negS Fx.clampM Fx.cnt Fx.Most
  (repeat' split) <;> omega
theorem sz_sm {a : Int} (h1 : -1000000000 ≤ a) (h2 : a ≤ 1000000000) : Fx.sz a = max a (-a) := by
  unfold Fx.sz Fx.cnt Fx.Most
  (repeat' split) <;> omega
theorem ap_far {ax ay bx y2 s : Int} (a0 : 0 ≤ ax) (a1 : ax < 128) (b0 : 0 ≤ ay) (b1 : ay < 128) (c0 : 0 ≤ bx) (c1 : bx < 128) (d0 : 0 ≤ y2) (d1 : y2 < 128) (s0 : 0 ≤ s) (s3 : s ≤ 3)
    (h : 2 * s + 1 ≤ ax - bx ∨ 2 * s + 1 ≤ bx - ax ∨ 2 * s + 1 ≤ ay - y2 ∨ 2 * s + 1 ≤ y2 - ay) :
    Fx.apS (ax * 65536 + 32768) (ay * 65536 + 32768) (s * 65536 + 32768) (bx * 65536 + 32768) (y2 * 65536 + 32768) (s * 65536 + 32768) = true := by
  have hr : Fx.radS (s * 65536 + 32768) = s * 65536 + 32768 := by unfold Fx.radS; rw [if_neg (by omega), if_neg (by omega)]
  unfold Fx.apS Fx.withinS Fx.SQ
  rw [hr, sub_sm (by omega) (by omega) (by omega) (by omega), sub_sm (by omega) (by omega) (by omega) (by omega), sz_sm (by omega) (by omega), sz_sm (by omega) (by omega)]
  obtain ⟨X, hX⟩ : ∃ q, max (ax * 65536 + 32768 - (bx * 65536 + 32768)) (-(ax * 65536 + 32768 - (bx * 65536 + 32768))) = q := ⟨_, rfl⟩
  obtain ⟨Y, hY⟩ : ∃ q, max (ay * 65536 + 32768 - (y2 * 65536 + 32768)) (-(ay * 65536 + 32768 - (y2 * 65536 + 32768))) = q := ⟨_, rfl⟩
  obtain ⟨G, hG⟩ : ∃ q, s * 65536 + 32768 + (s * 65536 + 32768) = q := ⟨_, rfl⟩
  rw [hX, hY, hG]
  have x0 : 0 ≤ X := by omega
  have y0 : 0 ≤ Y := by omega
  have g0 : 0 ≤ G := by omega
  have hxy : G ≤ X ∨ G ≤ Y := by omega
  have xx := Int.mul_nonneg x0 x0
  have yy := Int.mul_nonneg y0 y0
  have : ¬ (X * X + Y * Y < G * G) := by
    rcases hxy with q | q
    · have := Int.mul_le_mul q q g0 x0
      omega
    · have := Int.mul_le_mul q q g0 y0
      omega
  rw [decide_eq_false this]
  simp
theorem rapart_yes (a b r c d s : Int) (w : World) (ha : Fx.I64 a) (hb : Fx.I64 b) (hc : Fx.I64 c) (hd : Fx.I64 d) (E : Hk (Fx.apS a b r c d s = true)) :
    Calls Tryd.prog 50 #[.agg #[.int .i64 a, .int .i64 b], .int .i64 r, .agg #[.int .i64 c, .int .i64 d], .int .i64 s] w fun e w' => e = .returned (.bool true) ∧ Below w.heap.size w w' := by
  have := rapart_any a b r c d s w ha hb hc hd
  rw [E.out] at this
  exact this
set_option maxRecDepth 100000 in
set_option maxHeartbeats 1600000 in
theorem steps20_as (W H : Int) (a : Option Addr) (n c : Nat) (t u : Nat) (v : Int) (w : World) (hW : 1 ≤ W) (hW2 : W ≤ 128) (hH : H ≤ 128) (hn : (n : Int) = W * H) (ht : t < n) (hu : u < n) (E : Hk (dst W t u = v)) :
    Calls Tryd.prog 49 #[.agg #[.int .i64 W, .int .i64 H, .slice a n c], .int .i64 t, .int .i64 u] w fun e w' => e = .returned (.int .i64 v) ∧ Below w.heap.size w w' := by
  have HWB : Hk (Below w.heap.size w (w.alloc (.cells #[.int .i64 W, .int .i64 H, .slice a n c] 24))) := ⟨(Below.refl _ _).alloc (Nat.le_refl _) _⟩
  have hNW : w.heap.size + 1 ≤ ((w.alloc (.cells #[.int .i64 W, .int .i64 H, .slice a n c] 24))).heap.size := by simp
  have HB : Hk (Below (w.heap.size + 1) (w.alloc (.cells #[.int .i64 W, .int .i64 H, .slice a n c] 24)) (w.alloc (.cells #[.int .i64 W, .int .i64 H, .slice a n c] 24))) := ⟨Below.refl _ _⟩
  have HTR : Hk (∀ X, Below (w.heap.size + 1) (w.alloc (.cells #[.int .i64 W, .int .i64 H, .slice a n c] 24)) X → Below w.heap.size w X) := ⟨fun X hX => HWB.out.trans (hX.mono (by omega))⟩
  obtain ⟨tx0, tx1, ty0, ty1⟩ := xy_bd20 hW hn ht
  obtain ⟨ux0, ux1, uy0, uy1⟩ := xy_bd20 hW hn hu
  have hW0 : ¬ W = 0 := by omega
  have tm : (t : Int).tmod W = (t : Int) % W := Int.tmod_eq_emod_of_nonneg (by omega)
  have td : (t : Int).tdiv W = (t : Int) / W := Int.tdiv_eq_ediv_of_nonneg (by omega)
  have um : (u : Int).tmod W = (u : Int) % W := Int.tmod_eq_emod_of_nonneg (by omega)
  have ud : (u : Int).tdiv W = (u : Int) / W := Int.tdiv_eq_ediv_of_nonneg (by omega)
  have he := E.out
  unfold dst at he
  generalize (t : Int) % W = tx at *
  generalize (t : Int) / W = ty at *
  generalize (u : Int) % W = ux at *
  generalize (u : Int) / W = uy at *
  obtain ⟨X, hX⟩ : ∃ q, tx - ux = q := ⟨_, rfl⟩
  obtain ⟨Y, hY⟩ : ∃ q, ty - uy = q := ⟨_, rfl⟩
  have wX : IntKind.i64.wrap X = X := by rw [IntKind.wrap_i64]; omega
  have wY : IntKind.i64.wrap Y = Y := by rw [IntKind.wrap_i64]; omega
  have bX : -128 ≤ X ∧ X ≤ 128 := by omega
  have bY : -128 ≤ Y ∧ Y ≤ 128 := by omega
  obtain ⟨M1, mA⟩ : ∃ A', (if X < -X then -X else X) = A' := ⟨_, rfl⟩
  obtain ⟨M2, mB⟩ : ∃ A', (if Y < -Y then -Y else Y) = A' := ⟨_, rfl⟩
  have mC : (if M1 < M2 then M2 else M1) = v := by
    have r1 := mx20 mA
    have r2 := mx20 mB
    clear mA mB
    split <;> omega
  clear he E
  obtain ⟨hc, hf, hl, hn', hm⟩ := kw_rules HB.out hNW
  go_enter Tryd.func49, Tryd.ntmps49
  go_upto_region 1 with fail
  go_quiet (fail)
  go_wp2_with fail
  go_ret
  exact ⟨rfl, HTR.out _ (below_drewN HB.out _)⟩
end Go.Proofs.YthabjihpjdlmoaaDoor
