/- For every argument, DiscTouches answers true and leaves its argument as it was: a disc that just touches a tile does not meet it, one unit nearer it does. No condition. -/
import Derived.Test.YtkggejdbkllaaaaAsk17
import Derived.Deep.QuietTactic
import Derived.BigQuiet
import Derived.Deep.RegionWith
import Derived.Deep.RegionHeld3
import Derived.ProofKit
import Derived.OpenShut
import Derived.ChangeSame
namespace Go.Proofs.Ytkggejdbkllaaaa
open Go.ChangeShapes Go.WideShapes Go.ChangeAt Go.RowKit Go.Deep
set_option linter.unusedVariables false
theorem dapart_as (z : Bool) (a b r c d s : Int) (w : World) (ha : Fx.I64 a) (hb : Fx.I64 b) (hc : Fx.I64 c) (hd : Fx.I64 d) (hr : Fx.I64 r) (hs : Fx.I64 s) (E : Hk (Fx.apS a b r c d s = z)) :
    Calls Try.prog 37 #[.agg #[.int .i64 a, .int .i64 b], .int .i64 r, .agg #[.int .i64 c, .int .i64 d], .int .i64 s] w fun e w' => e = .returned (.bool z) ∧ Below w.heap.size w w' := by
  obtain ⟨rfl⟩ := E; exact dapart_any a b r c d s w ha hb hc hd hr hs
theorem dmeets_as (z : Bool) (t px py r : Int) (W H : Int) (a : Option Addr) (n c B : Nat) (xs : List Int) (w : World) (h : By w B a n xs) (hB : B ≤ w.heap.size) (hn : n ≤ 140737488355328) (g : GOk W H n xs) (EF : Hk (fmB px py r = true)) (t0 : 0 ≤ t) (t1 : t < W * H) (E : Hk (meetsS W t px py r = z)) :
    Calls Try.prog 34 #[.agg #[.int .i64 W, .int .i64 H, .slice a n c], .int .i64 t, .agg #[.int .i64 px, .int .i64 py], .int .i64 r] w fun e' w' => e' = .returned (.tuple #[.bool z, .int .i64 0]) ∧ Below w.heap.size w w' := by
  obtain ⟨rfl⟩ := E; exact dmeets_yes t px py r W H a n c B xs w h hB hn g EF t0 t1
/-- What stands behind the beginning, and is not shorter. -/
structure BL (B : Nat) (w0 w : World) : Prop where
  b : Below B w0 w
  s : B ≤ w.heap.size
theorem BL.alloc {B : Nat} {w0 w : World} (h : BL B w0 w) (o : Obj) : BL B w0 (w.alloc o) := ⟨h.b.alloc h.s _, by have := h.s; simp; omega⟩
theorem BL.next {B : Nat} {w0 w w' : World} (h : BL B w0 w) (hb : Below w.heap.size w w') : BL B w0 w' := ⟨h.b.trans (hb.mono h.s), Nat.le_trans h.s hb.size⟩
theorem byt9 : ∀ b ∈ ([0, 0, 0, 0, 0, 0, 0, 0, 0] : List Int), Fn.Byt b := by
  intro b hb
  simp at hb
  subst hb
  unfold Fn.Byt; omega
theorem tch0 {t X Y : Int} (h0 : 0 ≤ t) (h9 : t < 9) (hX : X = t % 3 * 65536) (hY : Y = t / 3 * 65536) : (∀ px py, px = X - 32768 → py = Y + 9 → meetsS 3 t px py 32768 = false ∧ fmB px py 32768 = true) ∧ (∀ px py, px = X - 32768 + 1 → py = Y + 9 → meetsS 3 t px py 32768 = true ∧ fmB px py 32768 = true) := by
  have htc : t = 0 ∨ t = 1 ∨ t = 2 ∨ t = 3 ∨ t = 4 ∨ t = 5 ∨ t = 6 ∨ t = 7 ∨ t = 8 := by omega
  subst hX hY
  rcases htc with rfl | rfl | rfl | rfl | rfl | rfl | rfl | rfl | rfl <;> refine ⟨?_, ?_⟩ <;> (intro px py h1 h2; subst h1 h2; exact ⟨by decide, by decide⟩)
theorem tch1 {t X Y : Int} (h0 : 0 ≤ t) (h9 : t < 9) (hX : X = t % 3 * 65536) (hY : Y = t / 3 * 65536) : (∀ px py, px = X + 65536 + 32768 → py = Y + 9 → meetsS 3 t px py 32768 = false ∧ fmB px py 32768 = true) ∧ (∀ px py, px = X + 65536 + 32768 - 1 → py = Y + 9 → meetsS 3 t px py 32768 = true ∧ fmB px py 32768 = true) := by
  have htc : t = 0 ∨ t = 1 ∨ t = 2 ∨ t = 3 ∨ t = 4 ∨ t = 5 ∨ t = 6 ∨ t = 7 ∨ t = 8 := by omega
  subst hX hY
  rcases htc with rfl | rfl | rfl | rfl | rfl | rfl | rfl | rfl | rfl <;> refine ⟨?_, ?_⟩ <;> (intro px py h1 h2; subst h1 h2; exact ⟨by decide, by decide⟩)
theorem tch2 {t X Y : Int} (h0 : 0 ≤ t) (h9 : t < 9) (hX : X = t % 3 * 65536) (hY : Y = t / 3 * 65536) : (∀ px py, px = X + 9 → py = Y - 32768 → meetsS 3 t px py 32768 = false ∧ fmB px py 32768 = true) ∧ (∀ px py, px = X + 9 → py = Y - 32768 + 1 → meetsS 3 t px py 32768 = true ∧ fmB px py 32768 = true) := by
  have htc : t = 0 ∨ t = 1 ∨ t = 2 ∨ t = 3 ∨ t = 4 ∨ t = 5 ∨ t = 6 ∨ t = 7 ∨ t = 8 := by omega
  subst hX hY
  rcases htc with rfl | rfl | rfl | rfl | rfl | rfl | rfl | rfl | rfl <;> refine ⟨?_, ?_⟩ <;> (intro px py h1 h2; subst h1 h2; exact ⟨by decide, by decide⟩)
theorem tch3 {t X Y : Int} (h0 : 0 ≤ t) (h9 : t < 9) (hX : X = t % 3 * 65536) (hY : Y = t / 3 * 65536) : (∀ px py, px = X + 9 → py = Y + 65536 + 32768 → meetsS 3 t px py 32768 = false ∧ fmB px py 32768 = true) ∧ (∀ px py, px = X + 9 → py = Y + 65536 + 32768 - 1 → meetsS 3 t px py 32768 = true ∧ fmB px py 32768 = true) := by
  have htc : t = 0 ∨ t = 1 ∨ t = 2 ∨ t = 3 ∨ t = 4 ∨ t = 5 ∨ t = 6 ∨ t = 7 ∨ t = 8 := by omega
  subst hX hY
  rcases htc with rfl | rfl | rfl | rfl | rfl | rfl | rfl | rfl | rfl <;> refine ⟨?_, ?_⟩ <;> (intro px py h1 h2; subst h1 h2; exact ⟨by decide, by decide⟩)
theorem tch4 {t X Y : Int} (h0 : 0 ≤ t) (h9 : t < 9) (hX : X = t % 3 * 65536) (hY : Y = t / 3 * 65536) : (∀ px py, px = X - 3 → py = Y - 4 → meetsS 3 t px py 5 = false ∧ fmB px py 5 = true) ∧ (∀ px py, px = X - 3 → py = Y - 4 → meetsS 3 t px py 6 = true ∧ fmB px py 6 = true) := by
  have htc : t = 0 ∨ t = 1 ∨ t = 2 ∨ t = 3 ∨ t = 4 ∨ t = 5 ∨ t = 6 ∨ t = 7 ∨ t = 8 := by omega
  subst hX hY
  rcases htc with rfl | rfl | rfl | rfl | rfl | rfl | rfl | rfl | rfl <;> refine ⟨?_, ?_⟩ <;> (intro px py h1 h2; subst h1 h2; exact ⟨by decide, by decide⟩)
set_option maxRecDepth 100000 in
set_option maxHeartbeats 60000000 in
theorem discTouches_walk (v : Value) (w : World) (rows : Asks17 w v) :
    Calls Try.prog 10 #[v] w fun e w' => e = .returned (.bool true) ∧ Below w.heap.size w w' := by
  obtain ⟨W, H, a, n, c, xs, la, ln, lc, cl, ta, tn, tc, ts, pa, pn, pc, f, g, ra, rn, rc, q, rfl, hn, hln, htn, hpn, hrn, hby, hnq, hvs, hrq⟩ := rows
  clear hby hnq hvs hrq hn hln hpn hrn
  have HG : Hk (GOk 3 3 9 [0, 0, 0, 0, 0, 0, 0, 0, 0]) := ⟨⟨by omega, by omega, by omega, by omega, by decide, by decide⟩⟩
  have HBY : Hk (∀ X, Below (w.heap.size + 3) (((w.alloc (.cells #[.int .i64 W, .int .i64 H, .slice a n c, .slice la ln lc, .int .i64 cl, .slice ta tn tc, .slice pa pn pc, .slice ra rn rc] 54)).alloc (.cells #[.int .u8 0, .int .u8 0, .int .u8 0, .int .u8 0, .int .u8 0, .int .u8 0, .int .u8 0, .int .u8 0, .int .u8 0] 5)).alloc (.cells #[.int .i64 3, .int .i64 3, .slice (some ⟨w.heap.size + 1, 0, none⟩) 9 9] 49)) X → By X (w.heap.size + 3) (some ⟨w.heap.size + 1, 0, none⟩) 9 [0, 0, 0, 0, 0, 0, 0, 0, 0]) := ⟨fun X hX => by
    have h1 := By.lit (w.alloc (.cells #[.int .i64 W, .int .i64 H, .slice a n c, .slice la ln lc, .int .i64 cl, .slice ta tn tc, .slice pa pn pc, .slice ra rn rc] 54)) [0, 0, 0, 0, 0, 0, 0, 0, 0] 5 (0, 0) (w.heap.size + 2) 9 rfl byt9 (by simp)
    have h2 := (h1.alloc (by simp) (.cells #[.int .i64 3, .int .i64 3, .slice (some ⟨w.heap.size + 1, 0, none⟩) 9 9] 49)).below hX (by omega)
    simpa using h2.mono (show w.heap.size + 2 ≤ w.heap.size + 3 by omega)⟩
  have HGC : Hk (∀ X, Below (w.heap.size + 3) (((w.alloc (.cells #[.int .i64 W, .int .i64 H, .slice a n c, .slice la ln lc, .int .i64 cl, .slice ta tn tc, .slice pa pn pc, .slice ra rn rc] 54)).alloc (.cells #[.int .u8 0, .int .u8 0, .int .u8 0, .int .u8 0, .int .u8 0, .int .u8 0, .int .u8 0, .int .u8 0, .int .u8 0] 5)).alloc (.cells #[.int .i64 3, .int .i64 3, .slice (some ⟨w.heap.size + 1, 0, none⟩) 9 9] 49)) X → X.cell? ⟨w.heap.size + 1 + 1, 0, none⟩ = some (.int .i64 3) ∧ X.cell? ⟨w.heap.size + 1 + 1, 1, none⟩ = some (.int .i64 3) ∧ X.cell? ⟨w.heap.size + 1 + 1, 2, none⟩ = some (.slice (some ⟨w.heap.size + 1, 0, none⟩) 9 9)) :=
    ⟨fun X hX => ⟨(hX.cell (p := ⟨w.heap.size + 1 + 1, 0, none⟩) (by simp)).trans (by go_simp), (hX.cell (p := ⟨w.heap.size + 1 + 1, 1, none⟩) (by simp)).trans (by go_simp), (hX.cell (p := ⟨w.heap.size + 1 + 1, 2, none⟩) (by simp)).trans (by go_simp)⟩⟩
  have HTS : Hk (∀ X, Below (w.heap.size + 3) (((w.alloc (.cells #[.int .i64 W, .int .i64 H, .slice a n c, .slice la ln lc, .int .i64 cl, .slice ta tn tc, .slice pa pn pc, .slice ra rn rc] 54)).alloc (.cells #[.int .u8 0, .int .u8 0, .int .u8 0, .int .u8 0, .int .u8 0, .int .u8 0, .int .u8 0, .int .u8 0, .int .u8 0] 5)).alloc (.cells #[.int .i64 3, .int .i64 3, .slice (some ⟨w.heap.size + 1, 0, none⟩) 9 9] 49)) X → X.cell? ⟨w.heap.size, 5, none⟩ = some (.slice ta tn tc)) := ⟨fun X hX => (hX.cell (p := ⟨w.heap.size, 5, none⟩) (by show w.heap.size < w.heap.size + 3; omega)).trans (by go_simp)⟩
  have HW3 : Hk (Below w.heap.size w (((w.alloc (.cells #[.int .i64 W, .int .i64 H, .slice a n c, .slice la ln lc, .int .i64 cl, .slice ta tn tc, .slice pa pn pc, .slice ra rn rc] 54)).alloc (.cells #[.int .u8 0, .int .u8 0, .int .u8 0, .int .u8 0, .int .u8 0, .int .u8 0, .int .u8 0, .int .u8 0, .int .u8 0] 5)).alloc (.cells #[.int .i64 3, .int .i64 3, .slice (some ⟨w.heap.size + 1, 0, none⟩) 9 9] 49))) := ⟨(((Below.refl _ _).alloc (Nat.le_refl _) _).alloc (by simp) _).alloc (by simp <;> omega) _⟩
  have HB0 : Hk (BL (w.heap.size + 3) (((w.alloc (.cells #[.int .i64 W, .int .i64 H, .slice a n c, .slice la ln lc, .int .i64 cl, .slice ta tn tc, .slice pa pn pc, .slice ra rn rc] 54)).alloc (.cells #[.int .u8 0, .int .u8 0, .int .u8 0, .int .u8 0, .int .u8 0, .int .u8 0, .int .u8 0, .int .u8 0, .int .u8 0] 5)).alloc (.cells #[.int .i64 3, .int .i64 3, .slice (some ⟨w.heap.size + 1, 0, none⟩) 9 9] 49)) (((w.alloc (.cells #[.int .i64 W, .int .i64 H, .slice a n c, .slice la ln lc, .int .i64 cl, .slice ta tn tc, .slice pa pn pc, .slice ra rn rc] 54)).alloc (.cells #[.int .u8 0, .int .u8 0, .int .u8 0, .int .u8 0, .int .u8 0, .int .u8 0, .int .u8 0, .int .u8 0, .int .u8 0] 5)).alloc (.cells #[.int .i64 3, .int .i64 3, .slice (some ⟨w.heap.size + 1, 0, none⟩) 9 9] 49))) := ⟨⟨Below.refl _ _, by simp⟩⟩
  have hmk : ∀ w, (Instr.makeSlice 47 (.int .i64 9) (.int .i64 9)).run Try.prog w = .ok (.slice (some ⟨w.heap.size, 0, none⟩) 9 9) (w.alloc (.cells #[.int .u8 0, .int .u8 0, .int .u8 0, .int .u8 0, .int .u8 0, .int .u8 0, .int .u8 0, .int .u8 0, .int .u8 0] 5)) := fun _ => by kernel_rfl
  go_enter Try.func10, Try.ntmps10
  go_wp2
  go_loopw [5] (fun i wr => ∃ (t : Int), i = .int .i64 t ∧ 0 ≤ t ∧ t ≤ 9 ∧ Hk (BL (w.heap.size + 3) (((w.alloc (.cells #[.int .i64 W, .int .i64 H, .slice a n c, .slice la ln lc, .int .i64 cl, .slice ta tn tc, .slice pa pn pc, .slice ra rn rc] 54)).alloc (.cells #[.int .u8 0, .int .u8 0, .int .u8 0, .int .u8 0, .int .u8 0, .int .u8 0, .int .u8 0, .int .u8 0, .int .u8 0] 5)).alloc (.cells #[.int .i64 3, .int .i64 3, .slice (some ⟨w.heap.size + 1, 0, none⟩) 9 9] 49)) wr)) (fun i _ => 9 - (intOf i).toNat)
  case atStart => exact ⟨0, rfl, by omega, by omega, HB0⟩
  case round =>
    clear HB0 hmk
    obtain ⟨t, rfl, ht0, ht, HB⟩ := hrel
    obtain ⟨g0, g1, g2⟩ := HGC.out _ HB.out.b
    by_cases hlt : t < 9
    · obtain ⟨wo, hwo⟩ : ∃ wo : World, wo = wr := ⟨_, rfl⟩
      subst hwo
      have T0 := Hk.mk (tch0 ht0 hlt rfl rfl)
      have T1 := Hk.mk (tch1 ht0 hlt rfl rfl)
      have T2 := Hk.mk (tch2 ht0 hlt rfl rfl)
      have T3 := Hk.mk (tch3 ht0 hlt rfl rfl)
      have T4 := Hk.mk (tch4 ht0 hlt rfl rfl)
      have x0 : 0 ≤ t % 3 * 65536 := by omega
      have x1 : t % 3 * 65536 ≤ 131072 := by omega
      have y0 : 0 ≤ t / 3 * 65536 := by omega
      have y1 : t / 3 * 65536 ≤ 131072 := by omega
      · go_wp2
        generalize t % 3 * 65536 = X at *
        generalize t / 3 * 65536 = Y at *
        clear g0 g1 g2
        go_loopw [8] (fun i wr => ∃ (k : Int), i = .int .i64 k ∧ 0 ≤ k ∧ k ≤ 4 ∧ Hk (BL (w.heap.size + 3) (((w.alloc (.cells #[.int .i64 W, .int .i64 H, .slice a n c, .slice la ln lc, .int .i64 cl, .slice ta tn tc, .slice pa pn pc, .slice ra rn rc] 54)).alloc (.cells #[.int .u8 0, .int .u8 0, .int .u8 0, .int .u8 0, .int .u8 0, .int .u8 0, .int .u8 0, .int .u8 0, .int .u8 0] 5)).alloc (.cells #[.int .i64 3, .int .i64 3, .slice (some ⟨w.heap.size + 1, 0, none⟩) 9 9] 49)) wr)) (fun i _ => 4 - (intOf i).toNat)
        case atStart => exact ⟨0, rfl, by omega, by omega, HB⟩
        case round =>
          clear HB
          obtain ⟨k, rfl, hk0, hk, HB⟩ := hrel
          obtain ⟨g0, g1, g2⟩ := HGC.out _ HB.out.b
          by_cases hkt : k < 4
          · have hkc : k = 0 ∨ k = 1 ∨ k = 2 ∨ k = 3 := by omega
            clear hk hk0 hkt
            have h0 : ∀ o1 o2 o3 o4 : Obj, ((((wr.alloc o1).alloc o2).alloc o3).alloc o4).cell? ⟨w.heap.size + 1 + 1, 0, none⟩ = some (.int .i64 3) := fun o1 o2 o3 o4 => (HGC.out _ ((((HB.out.alloc o1).alloc o2).alloc o3).alloc o4).b).1
            have h1 : ∀ o1 o2 o3 o4 : Obj, ((((wr.alloc o1).alloc o2).alloc o3).alloc o4).cell? ⟨w.heap.size + 1 + 1, 1, none⟩ = some (.int .i64 3) := fun o1 o2 o3 o4 => (HGC.out _ ((((HB.out.alloc o1).alloc o2).alloc o3).alloc o4).b).2.1
            have h2 : ∀ o1 o2 o3 o4 : Obj, ((((wr.alloc o1).alloc o2).alloc o3).alloc o4).cell? ⟨w.heap.size + 1 + 1, 2, none⟩ = some (.slice (some ⟨w.heap.size + 1, 0, none⟩) 9 9) := fun o1 o2 o3 o4 => (HGC.out _ ((((HB.out.alloc o1).alloc o2).alloc o3).alloc o4).b).2.2
            rcases hkc with rfl | rfl | rfl | rfl
            · go_wp2_with (first | (go_at_call 34; (refine (dmeets_as false t _ _ _ 3 3 (some ⟨w.heap.size + 1, 0, none⟩) 9 9 (w.heap.size + 3) [0, 0, 0, 0, 0, 0, 0, 0, 0] _ ?_ ?_ ?_ HG.out ?_ ?_ ?_ ?_).mono ?_); (exact HBY.out _ ((((HB.out.alloc _).alloc _).alloc _).alloc _).b); (exact ((((HB.out.alloc _).alloc _).alloc _).alloc _).s); (omega); (exact ⟨(T0.out.1 _ _ (by omega) (by omega)).2⟩); (omega); (omega); (exact ⟨(T0.out.1 _ _ (by omega) (by omega)).1⟩); rintro e w' ⟨rfl, hb'⟩; have EBn := Hk.mk (((((HB.out.alloc _).alloc _).alloc _).alloc _).next hb'); obtain ⟨hcn, hfn⟩ := bcellg' hb'; clear hb'; obtain ⟨g0, g1, g2⟩ := HGC.out _ EBn.out.b) | (go_at_call 34; (refine (dmeets_as true t _ _ _ 3 3 (some ⟨w.heap.size + 1, 0, none⟩) 9 9 (w.heap.size + 3) [0, 0, 0, 0, 0, 0, 0, 0, 0] _ ?_ ?_ ?_ HG.out ?_ ?_ ?_ ?_).mono ?_); (exact HBY.out _ (EBn.out).b); (exact (EBn.out).s); (omega); (exact ⟨(T0.out.2 _ _ (by omega) (by omega)).2⟩); (omega); (omega); (exact ⟨(T0.out.2 _ _ (by omega) (by omega)).1⟩); rintro e w' ⟨rfl, hb'⟩; have EBn := Hk.mk ((EBn.out).next hb'); obtain ⟨hcn, hfn⟩ := bcellg' hb'; clear hb'; obtain ⟨g0, g1, g2⟩ := HGC.out _ EBn.out.b) | (go_at_call 35; (with_reducible refine (num17_any _ _).mono ?_); rintro e w9 ⟨rfl, rfl⟩))
              go_roundw
              case rel => exact ⟨1, rfl, by omega, by omega, EBn⟩
              case measure => simp [intOf]
            · go_wp2_with (first | (go_at_call 34; (refine (dmeets_as false t _ _ _ 3 3 (some ⟨w.heap.size + 1, 0, none⟩) 9 9 (w.heap.size + 3) [0, 0, 0, 0, 0, 0, 0, 0, 0] _ ?_ ?_ ?_ HG.out ?_ ?_ ?_ ?_).mono ?_); (exact HBY.out _ ((((HB.out.alloc _).alloc _).alloc _).alloc _).b); (exact ((((HB.out.alloc _).alloc _).alloc _).alloc _).s); (omega); (exact ⟨(T1.out.1 _ _ (by omega) (by omega)).2⟩); (omega); (omega); (exact ⟨(T1.out.1 _ _ (by omega) (by omega)).1⟩); rintro e w' ⟨rfl, hb'⟩; have EBn := Hk.mk (((((HB.out.alloc _).alloc _).alloc _).alloc _).next hb'); obtain ⟨hcn, hfn⟩ := bcellg' hb'; clear hb'; obtain ⟨g0, g1, g2⟩ := HGC.out _ EBn.out.b) | (go_at_call 34; (refine (dmeets_as true t _ _ _ 3 3 (some ⟨w.heap.size + 1, 0, none⟩) 9 9 (w.heap.size + 3) [0, 0, 0, 0, 0, 0, 0, 0, 0] _ ?_ ?_ ?_ HG.out ?_ ?_ ?_ ?_).mono ?_); (exact HBY.out _ (EBn.out).b); (exact (EBn.out).s); (omega); (exact ⟨(T1.out.2 _ _ (by omega) (by omega)).2⟩); (omega); (omega); (exact ⟨(T1.out.2 _ _ (by omega) (by omega)).1⟩); rintro e w' ⟨rfl, hb'⟩; have EBn := Hk.mk ((EBn.out).next hb'); obtain ⟨hcn, hfn⟩ := bcellg' hb'; clear hb'; obtain ⟨g0, g1, g2⟩ := HGC.out _ EBn.out.b) | (go_at_call 35; (with_reducible refine (num17_any _ _).mono ?_); rintro e w9 ⟨rfl, rfl⟩))
              go_roundw
              case rel => exact ⟨2, rfl, by omega, by omega, EBn⟩
              case measure => simp [intOf]
            · go_wp2_with (first | (go_at_call 34; (refine (dmeets_as false t _ _ _ 3 3 (some ⟨w.heap.size + 1, 0, none⟩) 9 9 (w.heap.size + 3) [0, 0, 0, 0, 0, 0, 0, 0, 0] _ ?_ ?_ ?_ HG.out ?_ ?_ ?_ ?_).mono ?_); (exact HBY.out _ ((((HB.out.alloc _).alloc _).alloc _).alloc _).b); (exact ((((HB.out.alloc _).alloc _).alloc _).alloc _).s); (omega); (exact ⟨(T2.out.1 _ _ (by omega) (by omega)).2⟩); (omega); (omega); (exact ⟨(T2.out.1 _ _ (by omega) (by omega)).1⟩); rintro e w' ⟨rfl, hb'⟩; have EBn := Hk.mk (((((HB.out.alloc _).alloc _).alloc _).alloc _).next hb'); obtain ⟨hcn, hfn⟩ := bcellg' hb'; clear hb'; obtain ⟨g0, g1, g2⟩ := HGC.out _ EBn.out.b) | (go_at_call 34; (refine (dmeets_as true t _ _ _ 3 3 (some ⟨w.heap.size + 1, 0, none⟩) 9 9 (w.heap.size + 3) [0, 0, 0, 0, 0, 0, 0, 0, 0] _ ?_ ?_ ?_ HG.out ?_ ?_ ?_ ?_).mono ?_); (exact HBY.out _ (EBn.out).b); (exact (EBn.out).s); (omega); (exact ⟨(T2.out.2 _ _ (by omega) (by omega)).2⟩); (omega); (omega); (exact ⟨(T2.out.2 _ _ (by omega) (by omega)).1⟩); rintro e w' ⟨rfl, hb'⟩; have EBn := Hk.mk ((EBn.out).next hb'); obtain ⟨hcn, hfn⟩ := bcellg' hb'; clear hb'; obtain ⟨g0, g1, g2⟩ := HGC.out _ EBn.out.b) | (go_at_call 35; (with_reducible refine (num17_any _ _).mono ?_); rintro e w9 ⟨rfl, rfl⟩))
              go_roundw
              case rel => exact ⟨3, rfl, by omega, by omega, EBn⟩
              case measure => simp [intOf]
            · go_wp2_with (first | (go_at_call 34; (refine (dmeets_as false t _ _ _ 3 3 (some ⟨w.heap.size + 1, 0, none⟩) 9 9 (w.heap.size + 3) [0, 0, 0, 0, 0, 0, 0, 0, 0] _ ?_ ?_ ?_ HG.out ?_ ?_ ?_ ?_).mono ?_); (exact HBY.out _ ((((HB.out.alloc _).alloc _).alloc _).alloc _).b); (exact ((((HB.out.alloc _).alloc _).alloc _).alloc _).s); (omega); (exact ⟨(T3.out.1 _ _ (by omega) (by omega)).2⟩); (omega); (omega); (exact ⟨(T3.out.1 _ _ (by omega) (by omega)).1⟩); rintro e w' ⟨rfl, hb'⟩; have EBn := Hk.mk (((((HB.out.alloc _).alloc _).alloc _).alloc _).next hb'); obtain ⟨hcn, hfn⟩ := bcellg' hb'; clear hb'; obtain ⟨g0, g1, g2⟩ := HGC.out _ EBn.out.b) | (go_at_call 34; (refine (dmeets_as true t _ _ _ 3 3 (some ⟨w.heap.size + 1, 0, none⟩) 9 9 (w.heap.size + 3) [0, 0, 0, 0, 0, 0, 0, 0, 0] _ ?_ ?_ ?_ HG.out ?_ ?_ ?_ ?_).mono ?_); (exact HBY.out _ (EBn.out).b); (exact (EBn.out).s); (omega); (exact ⟨(T3.out.2 _ _ (by omega) (by omega)).2⟩); (omega); (omega); (exact ⟨(T3.out.2 _ _ (by omega) (by omega)).1⟩); rintro e w' ⟨rfl, hb'⟩; have EBn := Hk.mk ((EBn.out).next hb'); obtain ⟨hcn, hfn⟩ := bcellg' hb'; clear hb'; obtain ⟨g0, g1, g2⟩ := HGC.out _ EBn.out.b) | (go_at_call 35; (with_reducible refine (num17_any _ _).mono ?_); rintro e w9 ⟨rfl, rfl⟩))
              go_roundw
              case rel => exact ⟨4, rfl, by omega, by omega, EBn⟩
              case measure => simp [intOf]
          · have hk4 : k = 4 := by omega
            subst hk4
            clear hk hk0 hkt
            go_wp2_with (first | (go_at_call 34; (refine (dmeets_as false t _ _ _ 3 3 (some ⟨w.heap.size + 1, 0, none⟩) 9 9 (w.heap.size + 3) [0, 0, 0, 0, 0, 0, 0, 0, 0] _ ?_ ?_ ?_ HG.out ?_ ?_ ?_ ?_).mono ?_); (exact HBY.out _ (HB.out).b); (exact (HB.out).s); (omega); (exact ⟨(T4.out.1 _ _ (by omega) (by omega)).2⟩); (omega); (omega); (exact ⟨(T4.out.1 _ _ (by omega) (by omega)).1⟩); rintro e w' ⟨rfl, hb'⟩; have EBn := Hk.mk ((HB.out).next hb'); obtain ⟨hcn, hfn⟩ := bcellg' hb'; clear hb'; obtain ⟨g0, g1, g2⟩ := HGC.out _ EBn.out.b) | (go_at_call 34; (refine (dmeets_as true t _ _ _ 3 3 (some ⟨w.heap.size + 1, 0, none⟩) 9 9 (w.heap.size + 3) [0, 0, 0, 0, 0, 0, 0, 0, 0] _ ?_ ?_ ?_ HG.out ?_ ?_ ?_ ?_).mono ?_); (exact HBY.out _ (EBn.out).b); (exact (EBn.out).s); (omega); (exact ⟨(T4.out.2 _ _ (by omega) (by omega)).2⟩); (omega); (omega); (exact ⟨(T4.out.2 _ _ (by omega) (by omega)).1⟩); rintro e w' ⟨rfl, hb'⟩; have EBn := Hk.mk ((EBn.out).next hb'); obtain ⟨hcn, hfn⟩ := bcellg' hb'; clear hb'; obtain ⟨g0, g1, g2⟩ := HGC.out _ EBn.out.b) | (go_at_call 35; (with_reducible refine (num17_any _ _).mono ?_); rintro e w9 ⟨rfl, rfl⟩))
            go_roundw
            case rel => exact ⟨t + 1, by go_num, by omega, by omega, EBn⟩
            case measure => simp [intOf]; omega
    · have ht9 : t = 9 := by omega
      subst ht9
      have d5 := HTS.out _ HB.out.b
      have htn0 : decide ((0 : Int) ≤ (tn : Int)) = true := by simp
      go_wp2_with (first | (go_at_call 37; (refine (dapart_as true _ _ _ _ _ _ _ ?_ ?_ ?_ ?_ ?_ ?_ ?_).mono ?_); (unfold Fx.I64; omega); (unfold Fx.I64; omega); (unfold Fx.I64; omega); (unfold Fx.I64; omega); (unfold Fx.I64; omega); (unfold Fx.I64; omega); (exact ⟨by decide⟩); rintro e w' ⟨rfl, hb'⟩; (first | replace EBn := Hk.mk (EBn.out.next hb') | have EBn := Hk.mk (HB.out.next hb')); clear hb' d5; have d5 := HTS.out _ EBn.out.b) | (go_at_call 37; (refine (dapart_as false _ _ _ _ _ _ _ ?_ ?_ ?_ ?_ ?_ ?_ ?_).mono ?_); (unfold Fx.I64; omega); (unfold Fx.I64; omega); (unfold Fx.I64; omega); (unfold Fx.I64; omega); (unfold Fx.I64; omega); (unfold Fx.I64; omega); (exact ⟨by decide⟩); rintro e w' ⟨rfl, hb'⟩; (first | replace EBn := Hk.mk (EBn.out.next hb') | have EBn := Hk.mk (HB.out.next hb')); clear hb' d5; have d5 := HTS.out _ EBn.out.b) | (go_at_call 36; (with_reducible refine (wakes17_any _).mono ?_); rintro e w3 ⟨rfl, hb3⟩; have HB3 := Hk.mk hb3; clear hb3))
      go_ret
      exact ⟨rfl, (HW3.out.trans (EBn.out.b.mono (by omega))).trans (HB3.out.mono (by have := EBn.out.s; omega))⟩

theorem discTouches_own : ownKnob Try.prog.godebug = none := by kernel_rfl
theorem discTouches_laidOut : laidOutB Try.prog = true := by kernel_rfl
set_option maxRecDepth 100000 in
theorem discTouches_lifted (os : Os) (started : os.Started) (H : Type) (enc : TypeId × Value → H) :
    ReturnsInHanded {} Try.checked os 10 .any (Rows.discTouchesSpec.pre6 enc Try.prog Try.f10 Rows.discTouchesRow.domain false) (Rows.discTouchesSpec.post enc Try.prog Try.f10 false true false false) := by
  refine returnsInHanded_of_change (C := Try.checked) discTouches_own started (by kernel_rfl) Try.func10
    (ChangeSpec.witness6 (enc := enc) (C := Try.checked) false ⟨#[], #[.agg #[.int .i64 0, .int .i64 0, .slice none 0 0, .slice none 0 0, .int .i64 0, .slice none 0 0, .slice none 0 0, .slice none 0 0]], []⟩ 8 (by kernel_rfl) (by kernel_rfl) (by kernel_rfl) (by kernel_rfl)) ?_
  intro W base args ds gs before hval0 hW hcnd _
  have hval : ∀ (j : Nat) t v, Try.f10.params[j]? = some t → args[j]? = some v → Value.okWide Try.prog W .any base t v := hval0
  have hW' := hW
  obtain ⟨p, q, hA0, hV, rfl, hfz, hnd⟩ := hW
  have hA : DataW.TrodAll enc Try.prog W 0 (fun _ => true) true Try.f10.params.toList args.toList ds p := hA0
  rw [Try.params10] at hA hval
  obtain ⟨v0, vs0, d0, ds0, p0, q0, hargs, rfl, rfl, h0, r0⟩ := trodAll_cons hA
  obtain ⟨rfl, rfl, rfl⟩ := trodAll_nil r0
  obtain rfl : args = #[v0] := by cases args; simp_all
  obtain ⟨rfl, rfl⟩ := trodVars_none hV
  obtain ⟨cs0, rfl, hcs0⟩ := okWide_struct Try.underlying54 (hval 0 54 v0 rfl rfl)
  have k0 := h0
  have lt0 : ∀ x ∈ p0, x.block < W.heap.size := by obtain ⟨m, hm⟩ := k0; exact DataW.trod_lt m _ _ _ hm
  have rows : Asks17 W (.agg cs0) := by obtain ⟨fuel, hf⟩ := h0; exact asks17_of hcs0 hf
  clear hA0 hval0
  refine (discTouches_walk (.agg cs0) W rows).mono fun e W' ⟨he, bel⟩ => ?_
  subst he
  exact ⟨_, rfl, _, _, _, [], _, [], hW', trodAll_mk1 (shut_bool Try.underlying4 _), (trodAll_cons_mk (Below.trod discTouches_laidOut (by kernel_rfl) (of_decide_eq_true (by kernel_rfl)) k0 bel lt0) trodAll_mk0), rfl, bel.frame _, fun h => by cases h⟩
theorem discTouches_over : Rows.discTouchesRow.holds Try.pinned (OpenSpec.ofChange Rows.discTouchesSpec) :=
  OpenClaim.holds_of_wide 10 Try.f10 rfl rfl rfl rfl rfl rfl rfl ⟨rfl, rfl, rfl, rfl, rfl⟩ rfl rfl rfl rfl rfl (by kernel_rfl) Try.func10 (by kernel_rfl)
    (of_decide_eq_true (by kernel_rfl)) (by unfold Func.isWrapper; first | (rw [if_pos (by decide +kernel)]; kernel_rfl) | (rw [if_neg (by decide +kernel)]; exact ⟨rfl, rfl⟩))
    (fun os started H enc _ => discTouches_lifted os started H enc)
/-- The given statement of DiscTouches. -/
theorem discTouches_holds : Rows.DiscTouchesSaid := discTouches_over
end Go.Proofs.Ytkggejdbkllaaaa
