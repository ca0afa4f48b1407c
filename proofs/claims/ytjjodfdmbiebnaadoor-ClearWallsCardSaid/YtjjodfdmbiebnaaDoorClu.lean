/- Layer 9: is the whole square open? -/
import Derived.Test.YtjjodfdmbiebnaaDoorClw
import Derived.Deep.QuietTactic
import Derived.BigQuiet
import Derived.Deep.RegionWith
import Derived.Deep.RegionHeld3
import Derived.Deep.DeepCutAuto
import Derived.Deep.DeepFit
import Derived.Outline
namespace Go.Proofs.YtjjodfdmbiebnaaDoor
open Go.RowKit
set_option linter.unusedVariables false
set_option linter.unusedSimpArgs false
theorem op_in {W H : Int} {f : Nat → Bool} {x y : Int} {k : Nat} (a : 0 ≤ x) (b : x < W) (c : 0 ≤ y) (d : y < H) (e : x + W * y = k) : opXY W H f x y = f k := by
  unfold opXY; rw [decide_eq_true ⟨a, b, c, d⟩, Bool.true_and, e]; simp
theorem at_lt {W H x y : Int} {n : Nat} (w1 : 1 ≤ W) (hn : (n : Int) = W * H) (a : 0 ≤ x) (b : x < W) (c : 0 ≤ y) (d : y < H) : 0 ≤ x + W * y ∧ x + W * y < n := by
  have h0 := Int.mul_nonneg (show 0 ≤ W by omega) c
  have h1 := Int.mul_le_mul_of_nonneg_left (show y + 1 ≤ H by omega) (show 0 ≤ W by omega)
  rw [Int.mul_add, Int.mul_one] at h1
  omega
set_option maxRecDepth 100000 in
set_option maxHeartbeats 1600000 in
theorem full_as (v : Bool) (m : Nat) (W H : Int) (a : Option Addr) (n c : Nat) (J : Nat) (F : Nat → Bool) (x y r : Int) (w : World) (w1 : 1 ≤ W) (w2 : W ≤ 128) (h1 : 1 ≤ H) (h2 : H ≤ 128) (HN : Hk ((n : Int) = W * H)) (HA : Hk (Arr w J n 4 (fun k => .bool (F k)))) (x0 : 0 ≤ x) (x1 : x < W) (y0 : 0 ≤ y) (y1 : y < H) (hm : m ≤ 129) (HR : Hk (r = (m : Int) - 1)) (E : Hk (sqB (opXY W H F) m x y = v)) :
    Calls Tryd.prog 35 #[.agg #[.int .i64 W, .int .i64 H, .slice a n c], .slice (some ⟨J, 0, none⟩) n n, .int .i64 x, .int .i64 y, .int .i64 r] w fun e w' => e = .returned (.bool v) ∧ Below w.heap.size w w' := by
  have hNW : w.heap.size + 1 ≤ (w.alloc (.cells #[.int .i64 W, .int .i64 H, .slice a n c] 24)).heap.size := by simp
  have HWB : Hk (Below w.heap.size w (w.alloc (.cells #[.int .i64 W, .int .i64 H, .slice a n c] 24))) := ⟨(Below.refl _ _).alloc (Nat.le_refl _) _⟩
  have HTR : Hk (∀ X, Below (w.heap.size + 1) (w.alloc (.cells #[.int .i64 W, .int .i64 H, .slice a n c] 24)) X → Below w.heap.size w X) := ⟨fun X hX => HWB.out.trans (hX.mono (by omega))⟩
  have HB : Hk (Below (w.heap.size + 1) (w.alloc (.cells #[.int .i64 W, .int .i64 H, .slice a n c] 24)) (w.alloc (.cells #[.int .i64 W, .int .i64 H, .slice a n c] 24))) := ⟨Below.refl _ _⟩
  have r0 : -1 ≤ r := by have := HR.out; omega
  have r1 : r ≤ 128 := by have := HR.out; omega
  have hn16 : (n : Int) ≤ 16384 := by have := HN.out; have := mul_bd w1 w2 h1 h2; omega
  have hJw : J < w.heap.size := HA.out.lt
  by_cases hr : r < 0
  · have hv : true = v := by
      have : m = 0 := by have := HR.out; omega
      have e := E.out
      rw [this] at e; exact e
    subst hv
    clear E HR
    have d0 : decide (0 ≤ r) = false := by simpa using hr
    obtain rfl : r = -1 := by omega
    obtain ⟨hc, hf, hl, hn', hm⟩ := kw_rules HB.out hNW
    go_enter Tryd.func35, Tryd.ntmps35
    go_wp2
    go_loopw [11] (fun s wr => s = .int .i64 (y + 1) ∧ wr = (w.alloc (.cells #[.int .i64 W, .int .i64 H, .slice a n c] 24))) (fun _ _ => 0)
    case atStart => exact ⟨by simp, rfl⟩
    case round =>
      obtain ⟨rfl, rfl⟩ := hrel
      have dd : decide (y + 1 ≤ y + -1) = false := by simp
      go_wp2
      go_ret
      exact ⟨rfl, HTR.out _ HB.out⟩
  · obtain ⟨q, rfl⟩ : ∃ q : Nat, r = q := ⟨r.toNat, by omega⟩
    have hmq : m = q + 1 := by have := HR.out; omega
    have E' := E.out
    rw [hmq] at E'
    have d0 : decide ((0 : Int) ≤ (q : Int)) = true := by simp
    by_cases hin : 0 ≤ x - q ∧ 0 ≤ y - q ∧ x + q < W ∧ y + q < H
    · obtain ⟨i1, i2, i3, i4⟩ := hin
      have HT : Hk (v = true → ∀ p s : Int, x - q ≤ p → p ≤ x + q → y - q ≤ s → s ≤ y + q → opXY W H F p s = true) := ⟨fun hv p s p0 p1 s0 s1 => by
        have := (sq_iff (opXY W H F) q x y).1 (E'.trans hv) (p - x) (s - y) (by omega) (by omega) (by omega) (by omega)
        rw [show x + (p - x) = p by omega, show y + (s - y) = s by omega] at this
        exact this⟩
      have hF : v = false → ∃ p s : Int, x - q ≤ p ∧ p ≤ x + q ∧ y - q ≤ s ∧ s ≤ y + q ∧ opXY W H F p s = false := fun hv => by
        apply Classical.byContradiction
        intro hno
        have : sqB (opXY W H F) (q + 1) x y = true := (sq_iff (opXY W H F) q x y).2 fun i j i1 i2 j1 j2 => by
          cases c : opXY W H F (x + i) (y + j)
          · exact absurd ⟨x + i, y + j, by omega, by omega, by omega, by omega, c⟩ hno
          · rfl
        rw [E', hv] at this; cases this
      have hF2 : ∃ p s : Int, Hk (v = false → x - q ≤ p ∧ p ≤ x + q ∧ y - q ≤ s ∧ s ≤ y + q ∧ opXY W H F p s = false) := by
        cases v
        · obtain ⟨p, s, h⟩ := hF rfl
          exact ⟨p, s, ⟨fun _ => h⟩⟩
        · exact ⟨0, 0, ⟨fun h => by cases h⟩⟩
      obtain ⟨p, s, HF⟩ := hF2
      clear hF E E' HR hmq hm
      have d1 : decide (x - (q : Int) < 0) = false := by simp; omega
      have d2 : decide (y - (q : Int) < 0) = false := by simp; omega
      have d3 : decide (W ≤ x + (q : Int)) = false := by simp; omega
      have d4 : decide (H ≤ y + (q : Int)) = false := by simp; omega
      obtain ⟨hc, hf, hl, hn', hm⟩ := kw_rules HB.out hNW
      go_enter Tryd.func35, Tryd.ntmps35
      go_wp2
      clear hc hf hl hn' hm
      go_loopw [11] (fun t wr => ∃ b : Int, t = .int .i64 b ∧ y - q ≤ b ∧ b ≤ y + q + 1 ∧ Hk (v = false → b ≤ s) ∧ Hk (Below (w.heap.size + 1) (w.alloc (.cells #[.int .i64 W, .int .i64 H, .slice a n c] 24)) wr)) (fun t _ => (y + q + 1 - intOf t).toNat)
      case atStart => exact ⟨_, rfl, by omega, by omega, ⟨fun hv => by have := (HF.out hv).2.2.1; omega⟩, HB⟩
      case round =>
        clear HB
        obtain ⟨b, rfl, b0, b1, HS, HB⟩ := hrel
        obtain ⟨hc, hf, hl, hn', hm⟩ := kw_rules HB.out hNW
        by_cases hb : b ≤ y + q
        · have db : decide (b ≤ y + (q : Int)) = true := by simp; omega
          go_wp2
          clear hc hf hl hn' hm
          obtain ⟨P, hP⟩ : ∃ P, W * b = P := ⟨_, rfl⟩
          have P0 : 0 ≤ P := by rw [← hP]; exact Int.mul_nonneg (by omega) (by omega)
          have P1 : P ≤ 16384 := by
            have := Int.mul_le_mul w2 (show b ≤ 128 by omega) (by omega) (by omega)
            omega
          have wP : IntKind.i64.wrap (W * b) = P := by rw [hP, IntKind.wrap_i64]; omega
          obtain ⟨wo, rfl⟩ : ∃ wo : World, wo = wr := ⟨wr, rfl⟩
          go_loopw [12] (fun t wr => ∃ g : Int, t = .int .i64 g ∧ x - q ≤ g ∧ g ≤ x + q + 1 ∧ Hk (v = false → b = s → g ≤ p) ∧ Hk (Below (w.heap.size + 1) (w.alloc (.cells #[.int .i64 W, .int .i64 H, .slice a n c] 24)) wr)) (fun t _ => (x + q + 1 - intOf t).toNat)
          case atStart => exact ⟨_, rfl, by omega, by omega, ⟨fun hv _ => by have := (HF.out hv).1; omega⟩, HB⟩
          case round =>
            clear HB
            obtain ⟨g, rfl, g0, g1, HG, HB⟩ := hrel
            obtain ⟨hc, hf, hl, hn', hm⟩ := kw_rules HB.out hNW
            by_cases hg : g ≤ x + q
            · have dg : decide (g ≤ x + (q : Int)) = true := by simp; omega
              have hl := at_lt (H := H) (y := b) w1 HN.out (show 0 ≤ g by omega) (show g < W by omega) (by omega) (by omega)
              rw [hP] at hl
              obtain ⟨T, hT⟩ : ∃ T : Nat, g + P = T := ⟨(g + P).toNat, by omega⟩
              have hTn : T < n := by omega
              have c0 := HA.out.cell hTn
              have T0 : (0 : Int) ≤ (T : Int) := by omega
              have T1 : (T : Int) < (n : Int) := by omega
              have wT : IntKind.i64.wrap (g + P) = T := by rw [hT, IntKind.wrap_i64]; omega
              have HO : Hk (opXY W H F g b = F T) := ⟨op_in (by omega) (by omega) (by omega) (by omega) (by rw [hP]; exact hT)⟩
              clear hl
              cases cF : F T
              case true =>
                rw [cF] at c0
                rw [cF] at HO
                clear cF
                go_wp2
                exact ⟨⟨g + 1, by go_num, by omega, by omega, ⟨fun hv hb => by
                  have h1 := HG.out hv hb
                  by_cases e : g = p
                  · exfalso
                    have h2 := (HF.out hv).2.2.2.2
                    rw [← e, ← hb, HO.out] at h2; cases h2
                  · omega⟩, HB⟩, by simp [intOf]; omega⟩
              case false =>
                rw [cF] at c0
                rw [cF] at HO
                clear cF
                have hv : false = v := by
                  cases v
                  · rfl
                  · have := HT.out rfl g b (by omega) (by omega) (by omega) (by omega)
                    rw [HO.out] at this; cases this
                subst hv
                go_wp2
                go_ret
                exact ⟨rfl, HTR.out _ HB.out⟩
            · have dg : decide (g ≤ x + (q : Int)) = false := by simp; omega
              go_wp2
              exact ⟨⟨b + 1, by go_num, by omega, by omega, ⟨fun hv => by
                have h1 := HS.out hv
                by_cases e : b = s
                · have := HG.out hv e; have := (HF.out hv).2.1; omega
                · omega⟩, HB⟩, by simp [intOf]; omega⟩
        · have db : decide (b ≤ y + (q : Int)) = false := by simp; omega
          have hv : true = v := by
            cases v
            · have := HS.out rfl; have := (HF.out rfl).2.2.2.1; omega
            · rfl
          subst hv
          go_wp2
          go_ret
          exact ⟨rfl, HTR.out _ HB.out⟩
    · have hv : false = v := by
        cases v
        · rfl
        · exfalso
          have hs := (sq_iff (opXY W H F) q x y).1 E'
          have a1 := opXY_in (hs (-(q : Int)) (-(q : Int)) (by omega) (by omega) (by omega) (by omega))
          have a2 := opXY_in (hs (q : Int) (q : Int) (by omega) (by omega) (by omega) (by omega))
          omega
      subst hv
      clear E E' HR hmq hm
      obtain ⟨hc, hf, hl, hn', hm⟩ := kw_rules HB.out hNW
      by_cases c1 : x - (q : Int) < 0
      · have d1 : decide (x - (q : Int) < 0) = true := by simp; omega
        clear hin
        go_enter Tryd.func35, Tryd.ntmps35
        go_wp2
        go_ret
        exact ⟨rfl, HTR.out _ (by first | exact HB.out | exact below_drewN HB.out _)⟩
      have d1 : decide (x - (q : Int) < 0) = false := by simp; omega
      by_cases c2 : y - (q : Int) < 0
      · have d2 : decide (y - (q : Int) < 0) = true := by simp; omega
        clear hin
        go_enter Tryd.func35, Tryd.ntmps35
        go_wp2
        go_ret
        exact ⟨rfl, HTR.out _ (by first | exact HB.out | exact below_drewN HB.out _)⟩
      have d2 : decide (y - (q : Int) < 0) = false := by simp; omega
      by_cases c3 : W ≤ x + (q : Int)
      · have d3 : decide (W ≤ x + (q : Int)) = true := by simp; omega
        clear hin
        go_enter Tryd.func35, Tryd.ntmps35
        go_wp2
        go_ret
        exact ⟨rfl, HTR.out _ (by first | exact HB.out | exact below_drewN HB.out _)⟩
      have d3 : decide (W ≤ x + (q : Int)) = false := by simp; omega
      by_cases c4 : H ≤ y + (q : Int)
      · have d4 : decide (H ≤ y + (q : Int)) = true := by simp; omega
        clear hin
        go_enter Tryd.func35, Tryd.ntmps35
        go_wp2
        go_ret
        exact ⟨rfl, HTR.out _ (by first | exact HB.out | exact below_drewN HB.out _)⟩
      · omega
end Go.Proofs.YtjjodfdmbiebnaaDoor
