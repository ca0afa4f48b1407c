import Derived.Test.YtgmhalcofcokbaaQh
import Derived.Test.YtgmhalcofcokbaaQg
import Derived.WalkKit
import Derived.Below
import Derived.Test.YtgmhalcofcokbaaProg
/- Layer 19: what pushes away. -/
namespace Go.Proofs.Ytgmhalcofcokbaa
open Go.RowKit
set_option linter.unusedVariables false
set_option maxRecDepth 100000 in
set_option maxHeartbeats 3200000 in
theorem apart_any (x y r : Int) (a : Option Addr) (n c B : Nat) (f g : Nat → Int) (w : World) (hx : Fx.I64 x) (hy : Fx.I64 y) (hr : Fx.I64 r) (hv : Vs w B a n f g) (hB : B ≤ w.heap.size) (hn : n ≤ 140737488355328) :
    Calls Try.prog 28 #[.agg #[.int .i64 x, .int .i64 y], .int .i64 r, .slice a n c] w fun e w' => e = .returned (.agg #[.int .i64 (Fx.pushX x y r f g n), .int .i64 (Fx.pushY x y r f g n)]) ∧ Below w.heap.size w w' := by
  have HV := Fx.Hd.mk hv
  clear hv
  go_enter Try.func28, Try.ntmps28
  have K0 := Fx.Hd.mk (C3.start w (.int .i64 x) (.int .i64 y) (.int .i64 0) (.int .i64 0) (.int .i64 0) (.int .i64 0) 24 24 24)
  go_wp2
  go_loopw [14] (fun i wr => ∃ k : Nat, k ≤ n ∧ i = .int .i64 k ∧ Fx.Hd (C3 w wr (.int .i64 x) (.int .i64 y) (.int .i64 0) (.int .i64 0) (.int .i64 (Fx.pushX x y r f g k)) (.int .i64 (Fx.pushY x y r f g k)))) (fun i _ => n - (intOf i).toNat)
  case atStart => exact ⟨0, by omega, rfl, K0⟩
  case round =>
    clear K0
    obtain ⟨k, hk, rfl, HK⟩ := hrel
    by_cases hlt : k < n
    · obtain ⟨b, off, rfl, hbl, hc⟩ := HV.out.rd (by omega)
      obtain ⟨i1, i2⟩ := HV.out.num k hlt
      have hc0 := (HK.out.hB.cell (p := ⟨b, off + k * 2, none⟩) (by simp; omega)).trans (hc k hlt).1
      have hc1 := (HK.out.hB.cell (p := ⟨b, off + k * 2 + 1, none⟩) (by simp; omega)).trans (hc k hlt).2
      clear hc
      have s1 := Fx.pushX_i64 x y r f g k
      have s2 := Fx.pushY_i64 x y r f g k
      obtain ⟨u, hu⟩ : ∃ u, f k = u := ⟨_, rfl⟩
      obtain ⟨v, hv⟩ : ∃ v, g k = v := ⟨_, rfl⟩
      obtain ⟨s, hs⟩ : ∃ s, Fx.pushX x y r f g k = s := ⟨_, rfl⟩
      obtain ⟨t, ht⟩ : ∃ t, Fx.pushY x y r f g k = t := ⟨_, rfl⟩
      rw [hu] at hc0 i1
      rw [hv] at hc1 i2
      rw [hs, ht] at HK
      rw [hs] at s1
      rw [ht] at s2
      have FK := Fx.Hd.mk hu
      have GK := Fx.Hd.mk hv
      have SX := Fx.Hd.mk hs
      have SY := Fx.Hd.mk ht
      clear hu hv hs ht
      have HK2 := Fx.Hd.mk (HK.out.alloc (.cells #[.int .i64 u, .int .i64 v] 24))
      have e0 := (HK2.out).c0; have e1 := (HK2.out).c1; have e2 := (HK2.out).d0; have e3 := (HK2.out).d1; have e4 := (HK2.out).e0; have e5 := (HK2.out).e1; have e6 := (HK2.out).f0; have e7 := (HK2.out).f1; have e8 := (HK2.out).g0; have e9 := (HK2.out).g1; 
      have q0 : (wr.alloc (.cells #[.int .i64 u, .int .i64 v] 24)).cell? ⟨wr.heap.size, 0, none⟩ = some (.int .i64 u) := by go_simp
      have q1 : (wr.alloc (.cells #[.int .i64 u, .int .i64 v] 24)).cell? ⟨wr.heap.size, 1, none⟩ = some (.int .i64 v) := by go_simp
      have z0 : (wr.alloc (.cells #[.int .i64 u, .int .i64 v] 24)).frozen? ⟨wr.heap.size, 0, none⟩ = false := by go_simp
      have z1 : (wr.alloc (.cells #[.int .i64 u, .int .i64 v] 24)).frozen? ⟨wr.heap.size, 1, none⟩ = false := by go_simp
      cases hw : Fx.withinS x y u v r
      case false =>
        have HW := Fx.Hd.mk hw
        have HR := Fx.Hd.mk (Fx.pst_no hw s t)
        clear hw HK
        go_wp2_with (first | (go_at_call 12; go_must (refine (heldC3P (within_as x y u v r false _ hx hy i1 i2 hr HW) HK2 q0 q1 z0 z1).mono ?_); clear HK2 e0 e1 e2 e3 e4 e5 e6 e7 e8 e9 q0 q1 z0 z1; rintro e w2 ⟨rfl, HK2, e0, e1, e2, e3, e4, e5, e6, e7, e8, e9, q0, q1, z0, z1⟩))
        go_roundw
        case rel => exact ⟨k + 1, by omega, by go_num, ⟨by
          rw [show Fx.pushX x y r f g (k + 1) = s from by show Fx.pstX x y r (Fx.pushX x y r f g k) (f k) (g k) = s; rw [FK.out, GK.out, SX.out]; exact HR.out.1, show Fx.pushY x y r f g (k + 1) = t from by show Fx.pstY x y r (Fx.pushY x y r f g k) (f k) (g k) = t; rw [FK.out, GK.out, SY.out]; exact HR.out.2]
          exact HK2.out⟩⟩
        case measure => simp [intOf]; omega
      case true =>
        have HW := Fx.Hd.mk hw
        have r0 := Fx.within_pos hw
        clear hw HK
        have j1' := Fx.sub_i64 x u
        have j2' := Fx.sub_i64 y v
        obtain ⟨dx, hdx⟩ : ∃ dx, Fx.subS x u = dx := ⟨_, rfl⟩
        obtain ⟨dy, hdy⟩ : ∃ dy, Fx.subS y v = dy := ⟨_, rfl⟩
        have j1 : Fx.I64 dx := by rw [← hdx]; exact j1'
        have j2 : Fx.I64 dy := by rw [← hdy]; exact j2'
        have EX := Fx.Hd.mk hdx
        have EY := Fx.Hd.mk hdy
        obtain ⟨l0, l1⟩ := Fx.lenS_bd j1 j2
        obtain ⟨L, hL⟩ : ∃ L, Fx.lenS dx dy = L := ⟨_, rfl⟩
        rw [hL] at l0 l1
        have EL := Fx.Hd.mk hL
        have r1 : r ≤ 9223372036854775807 := hr.2
        have jm : Fx.I64 (r - L) := by unfold Fx.I64; omega
        have em : IntKind.i64.wrap (r - L) = r - L := IntWalk.i64_in _ (by omega)
        clear hdx hdy hL j1' j2'
        go_wp2_with (first | (go_at_call 12; go_must (refine (heldC3P (within_as x y u v r true _ hx hy i1 i2 hr HW) HK2 q0 q1 z0 z1).mono ?_); clear HK2 e0 e1 e2 e3 e4 e5 e6 e7 e8 e9 q0 q1 z0 z1; rintro e w2 ⟨rfl, HK2, e0, e1, e2, e3, e4, e5, e6, e7, e8, e9, q0, q1, z0, z1⟩) | (go_at_call 11; go_must (refine (heldC3 (vsub_as x y u v dx dy _ hx hy i1 i2 EX EY) HK2).mono ?_); clear HK2 e0 e1 e2 e3 e4 e5 e6 e7 e8 e9 q0 q1 z0 z1; rintro e w3 ⟨rfl, HK3, e0, e1, e2, e3, e4, e5, e6, e7, e8, e9⟩; have HK4 := Fx.Hd.mk (HK3.out.alloc (.cells #[.int .i64 dx, .int .i64 dy] 24)); have hsz3 := HK3.out.hs; clear HK3 e0 e1 e2 e3 e4 e5 e6 e7 e8 e9; have e0 := (HK4.out).c0; have e1 := (HK4.out).c1; have e2 := (HK4.out).d0; have e3 := (HK4.out).d1; have e4 := (HK4.out).e0; have e5 := (HK4.out).e1; have e6 := (HK4.out).f0; have e7 := (HK4.out).f1; have e8 := (HK4.out).g0; have e9 := (HK4.out).g1; have q0 : (w3.alloc (.cells #[.int .i64 dx, .int .i64 dy] 24)).cell? ⟨w3.heap.size, 0, none⟩ = some (.int .i64 dx) := (by go_simp); have q1 : (w3.alloc (.cells #[.int .i64 dx, .int .i64 dy] 24)).cell? ⟨w3.heap.size, 1, none⟩ = some (.int .i64 dy) := (by go_simp); have z0 : (w3.alloc (.cells #[.int .i64 dx, .int .i64 dy] 24)).frozen? ⟨w3.heap.size, 0, none⟩ = false := (by go_simp); have z1 : (w3.alloc (.cells #[.int .i64 dx, .int .i64 dy] 24)).frozen? ⟨w3.heap.size, 1, none⟩ = false := (by go_simp)) | (go_at_call 8; go_must (refine (heldC3P (len_as dx dy L _ j1 j2 EL) HK4 q0 q1 z0 z1).mono ?_); clear HK4 e0 e1 e2 e3 e4 e5 e6 e7 e8 e9 q0 q1 z0 z1; rintro e w4 ⟨rfl, HK5, e0, e1, e2, e3, e4, e5, e6, e7, e8, e9, q0, q1, z0, z1⟩))
        · obtain rfl : dx = 0 := by assumption
          obtain rfl : dy = 0 := by assumption
          have HKo := Fx.Hd.mk (HK5.out.other w3.heap.size 0 (.int .i64 65536) hsz3)
          clear e0 e1 e2 e3 e4 e5 e6 e7 e8 e9 HK5
          have e0 := (HKo.out).c0; have e1 := (HKo.out).c1; have e2 := (HKo.out).d0; have e3 := (HKo.out).d1; have e4 := (HKo.out).e0; have e5 := (HKo.out).e1; have e6 := (HKo.out).f0; have e7 := (HKo.out).f1; have e8 := (HKo.out).g0; have e9 := (HKo.out).g1; 
          have q0' := World.cell?_setCell_same w4 _ (.int .i64 65536) q0
          have q1' := (World.cell?_setCell_other w4 ⟨w3.heap.size, 0, none⟩ ⟨w3.heap.size, 1, none⟩ (.int .i64 65536) (by simp)).trans q1
          clear q0 q1 z0 z1
          generalize w4.setCell ⟨w3.heap.size, 0, none⟩ (.int .i64 65536) = W5 at *
          have JA : Fx.I64 65536 := by unfold Fx.I64; omega
          have HA : Fx.Hd (Fx.aw0 0 0 = 65536) := ⟨by unfold Fx.aw0; rw [if_pos ⟨rfl, rfl⟩]⟩
          obtain ⟨cx, hcx⟩ : ∃ cx, Fx.clampX 65536 0 (r - L) = cx := ⟨_, rfl⟩
          obtain ⟨cy, hcy⟩ : ∃ cy, Fx.clampY 65536 0 (r - L) = cy := ⟨_, rfl⟩
          have hR := Fx.pst_yes HW.out EX.out EY.out EL.out rfl s t 65536 HA.out
          rw [hcx, hcy] at hR
          have HR : Fx.Hd (Fx.pushX x y r f g (k + 1) = Fx.addS s cx ∧ Fx.pushY x y r f g (k + 1) = Fx.addS t cy) := ⟨by
            show Fx.pstX x y r (Fx.pushX x y r f g k) (f k) (g k) = _ ∧ Fx.pstY x y r (Fx.pushY x y r f g k) (f k) (g k) = _
            rw [FK.out, GK.out, SX.out, SY.out]; exact hR⟩
          have ECX := Fx.Hd.mk hcx
          have ECY := Fx.Hd.mk hcy
          have ic1 : Fx.I64 cx := by rw [← hcx]; exact (Fx.clamp_i64 JA j2 jm).1
          have ic2 : Fx.I64 cy := by rw [← hcy]; exact (Fx.clamp_i64 JA j2 jm).2
          clear hcx hcy hR HA
          have HK6 := Fx.Hd.mk HKo.out.drew
          clear HKo
          go_region_with (first | (go_at_call 7; go_must (refine (heldC3 (clamp_as 65536 0 (r - L) cx cy _ JA j2 jm ECX ECY) HK6).mono ?_); clear HK6 e0 e1 e2 e3 e4 e5 e6 e7 e8 e9; rintro e w6 ⟨rfl, HK6, e0, e1, e2, e3, e4, e5, e6, e7, e8, e9⟩) | (go_at_call 42; go_must (refine (heldC3 (vadd_any s t cx cy _ s1 s2 ic1 ic2) HK6).mono ?_); clear HK6 e0 e1 e2 e3 e4 e5 e6 e7 e8 e9; rintro e w7 ⟨rfl, HK6, e0, e1, e2, e3, e4, e5, e6, e7, e8, e9⟩))
          all_goals
            go_wp2
            have HK7 := Fx.Hd.mk (HK6.out.set (.int .i64 (Fx.addS s cx)) (.int .i64 (Fx.addS t cy)))
            go_roundw
            case rel => exact ⟨k + 1, by omega, by go_num, ⟨by rw [HR.out.1, HR.out.2]; exact HK7.out⟩⟩
            case measure => simp [intOf]; omega
        · obtain rfl : dx = 0 := by assumption
          have hdy : ¬ dy = 0 := by assumption
          have JA : Fx.I64 0 := by unfold Fx.I64; omega
          have HA : Fx.Hd (Fx.aw0 0 dy = 0) := ⟨by unfold Fx.aw0; rw [if_neg (fun h => hdy h.2)]⟩
          obtain ⟨cx, hcx⟩ : ∃ cx, Fx.clampX 0 dy (r - L) = cx := ⟨_, rfl⟩
          obtain ⟨cy, hcy⟩ : ∃ cy, Fx.clampY 0 dy (r - L) = cy := ⟨_, rfl⟩
          have hR := Fx.pst_yes HW.out EX.out EY.out EL.out rfl s t 0 HA.out
          rw [hcx, hcy] at hR
          have HR : Fx.Hd (Fx.pushX x y r f g (k + 1) = Fx.addS s cx ∧ Fx.pushY x y r f g (k + 1) = Fx.addS t cy) := ⟨by
            show Fx.pstX x y r (Fx.pushX x y r f g k) (f k) (g k) = _ ∧ Fx.pstY x y r (Fx.pushY x y r f g k) (f k) (g k) = _
            rw [FK.out, GK.out, SX.out, SY.out]; exact hR⟩
          have ECX := Fx.Hd.mk hcx
          have ECY := Fx.Hd.mk hcy
          have ic1 : Fx.I64 cx := by rw [← hcx]; exact (Fx.clamp_i64 JA j2 jm).1
          have ic2 : Fx.I64 cy := by rw [← hcy]; exact (Fx.clamp_i64 JA j2 jm).2
          clear hcx hcy hR HA
          have HK6 := Fx.Hd.mk HK5.out.drew
          clear HK5
          go_region_with (first | (go_at_call 7; go_must (refine (heldC3 (clamp_as 0 dy (r - L) cx cy _ JA j2 jm ECX ECY) HK6).mono ?_); clear HK6 e0 e1 e2 e3 e4 e5 e6 e7 e8 e9; rintro e w6 ⟨rfl, HK6, e0, e1, e2, e3, e4, e5, e6, e7, e8, e9⟩) | (go_at_call 42; go_must (refine (heldC3 (vadd_any s t cx cy _ s1 s2 ic1 ic2) HK6).mono ?_); clear HK6 e0 e1 e2 e3 e4 e5 e6 e7 e8 e9; rintro e w7 ⟨rfl, HK6, e0, e1, e2, e3, e4, e5, e6, e7, e8, e9⟩))
          all_goals
            go_wp2
            have HK7 := Fx.Hd.mk (HK6.out.set (.int .i64 (Fx.addS s cx)) (.int .i64 (Fx.addS t cy)))
            go_roundw
            case rel => exact ⟨k + 1, by omega, by go_num, ⟨by rw [HR.out.1, HR.out.2]; exact HK7.out⟩⟩
            case measure => simp [intOf]; omega
        · have hdx : ¬ dx = 0 := by assumption
          have JA : Fx.I64 dx := j1
          have HA : Fx.Hd (Fx.aw0 dx dy = dx) := ⟨by unfold Fx.aw0; rw [if_neg (fun h => hdx h.1)]⟩
          obtain ⟨cx, hcx⟩ : ∃ cx, Fx.clampX dx dy (r - L) = cx := ⟨_, rfl⟩
          obtain ⟨cy, hcy⟩ : ∃ cy, Fx.clampY dx dy (r - L) = cy := ⟨_, rfl⟩
          have hR := Fx.pst_yes HW.out EX.out EY.out EL.out rfl s t dx HA.out
          rw [hcx, hcy] at hR
          have HR : Fx.Hd (Fx.pushX x y r f g (k + 1) = Fx.addS s cx ∧ Fx.pushY x y r f g (k + 1) = Fx.addS t cy) := ⟨by
            show Fx.pstX x y r (Fx.pushX x y r f g k) (f k) (g k) = _ ∧ Fx.pstY x y r (Fx.pushY x y r f g k) (f k) (g k) = _
            rw [FK.out, GK.out, SX.out, SY.out]; exact hR⟩
          have ECX := Fx.Hd.mk hcx
          have ECY := Fx.Hd.mk hcy
          have ic1 : Fx.I64 cx := by rw [← hcx]; exact (Fx.clamp_i64 JA j2 jm).1
          have ic2 : Fx.I64 cy := by rw [← hcy]; exact (Fx.clamp_i64 JA j2 jm).2
          clear hcx hcy hR HA
          have HK6 := Fx.Hd.mk HK5.out.drew
          clear HK5
          go_region_with (first | (go_at_call 7; go_must (refine (heldC3 (clamp_as dx dy (r - L) cx cy _ JA j2 jm ECX ECY) HK6).mono ?_); clear HK6 e0 e1 e2 e3 e4 e5 e6 e7 e8 e9; rintro e w6 ⟨rfl, HK6, e0, e1, e2, e3, e4, e5, e6, e7, e8, e9⟩) | (go_at_call 42; go_must (refine (heldC3 (vadd_any s t cx cy _ s1 s2 ic1 ic2) HK6).mono ?_); clear HK6 e0 e1 e2 e3 e4 e5 e6 e7 e8 e9; rintro e w7 ⟨rfl, HK6, e0, e1, e2, e3, e4, e5, e6, e7, e8, e9⟩))
          all_goals
            go_wp2
            have HK7 := Fx.Hd.mk (HK6.out.set (.int .i64 (Fx.addS s cx)) (.int .i64 (Fx.addS t cy)))
            go_roundw
            case rel => exact ⟨k + 1, by omega, by go_num, ⟨by rw [HR.out.1, HR.out.2]; exact HK7.out⟩⟩
            case measure => simp [intOf]; omega

    · have hkn : k = n := by omega
      subst hkn
      have e0 := (HK.out).c0; have e1 := (HK.out).c1; have e2 := (HK.out).d0; have e3 := (HK.out).d1; have e4 := (HK.out).e0; have e5 := (HK.out).e1; have e6 := (HK.out).f0; have e7 := (HK.out).f1; have e8 := (HK.out).g0; have e9 := (HK.out).g1; 
      go_wp2
      refine bodyPost_ret (v := .agg #[.int .i64 (Fx.pushX x y r f g k), .int .i64 (Fx.pushY x y r f g k)]) (by simp [results, Try.results28, go_sem, e2, e3]) rfl ⟨rfl, ?_⟩
      exact (HK.out.hB.setCell (by simp) _).setCell (by simp) _
end Go.Proofs.Ytgmhalcofcokbaa
/- Plain arithmetic of layer 19: who is there stays there. -/
namespace Go.Proofs.Ytgmhalcofcokbaa.Fx
def Tiny (d : Int) : Prop := -65536 < d ∧ d < 65536
def Small (p : Int) : Prop := -288230376151711744 ≤ p ∧ p ≤ 288230376151711743
theorem len00 : lenS 0 0 = 0 := by
  unfold lenS
  rw [rootS_of (R := 0) ⟨by decide, by decide, by decide⟩]
  decide
theorem len_one : lenS 65536 0 = 65536 := by
  unfold lenS
  rw [rootS_of (R := 65536) ⟨by decide, by decide, by decide⟩]
  decide
theorem most0_nn (k : Int) : 0 ≤ most0 k := by unfold most0; split <;> omega
theorem clamp00 (k : Int) : clampX 0 0 k = 0 ∧ clampY 0 0 k = 0 := by
  unfold clampX clampY
  simp only [len00, if_pos (most0_nn k)]
  decide
theorem tow_same {x y k : Int} (hx : I64 x) (hy : I64 y) : towX x y x y k = 0 ∧ towY x y x y k = 0 := by
  unfold towX towY
  rw [sub_self hx, sub_self hy]
  exact clamp00 k
theorem small_i64 {p : Int} (h : Small p) : I64 p := by unfold Small at h; unfold I64; omega
theorem sum_i64 {p d : Int} (h : Small p) (hd : Tiny d) : I64 (p + d) ∧ I64 (p - d) := by unfold Small at h; unfold Tiny at hd; unfold I64; omega
theorem sub_to {p d : Int} (h : Small p) (hd : Tiny d) : subS (p + d) p = d ∧ subS p (p + d) = -d ∧ subS p (p - d) = d := by
  unfold Small at h; unfold Tiny at hd
  unfold subS addS negS clampM cnt Most
  refine ⟨?_, ?_, ?_⟩ <;> (repeat' split) <;> omega
theorem part0 (c n : Int) : partS c 0 n = 0 := by
  unfold partS
  rw [Int.mul_zero, Int.zero_ediv]
  split <;> omega
theorem clamp_none {d e k : Int} (hd : Tiny d) (he : Tiny e) (hk : k ≤ 0) : clampX d e k = 0 ∧ clampY d e k = 0 := by
  unfold Tiny at hd he
  obtain ⟨a, b, c, f⟩ := small_ge (X := d) (Y := e) (by omega) (by omega)
  have m : most0 k = 0 := by unfold most0; split <;> omega
  unfold clampX clampY
  rw [m]
  by_cases h : lenS d e ≤ 0
  · rw [if_pos h, if_pos h, cnt_in (by omega), cnt_in (by omega)]; omega
  · rw [if_neg h, if_neg h, part0, part0]; exact ⟨rfl, rfl⟩
theorem tow_none {p q d e k : Int} (hp : Small p) (hq : Small q) (hd : Tiny d) (he : Tiny e) (hk : k ≤ 0) : towX p q (p + d) (q + e) k = 0 ∧ towY p q (p + d) (q + e) k = 0 := by
  unfold towX towY
  rw [(sub_to hp hd).1, (sub_to hq he).1]
  exact clamp_none hd he hk
theorem tiny_mid {d : Int} (h : Tiny d) : Mid d := by unfold Tiny at h; unfold Mid; omega
theorem sq_tiny {d e : Int} (hd : Tiny d) (he : Tiny e) : SQ d e < 262144 * 262144 := by
  unfold Tiny at hd he
  unfold SQ
  have a := sz_bd (i64_small (x := d) (n := 65536) hd (by omega))
  have b := sz_bd (i64_small (x := e) (n := 65536) he (by omega))
  have a1 : sz d ≤ 65536 := by unfold sz cnt Most; (repeat' split) <;> omega
  have b1 : sz e ≤ 65536 := by unfold sz cnt Most; (repeat' split) <;> omega
  have a2 := Int.mul_le_mul a1 a1 a.1 (by omega)
  have b2 := Int.mul_le_mul b1 b1 b.1 (by omega)
  omega
theorem within_tiny {p q d e : Int} (hp : Small p) (hq : Small q) (hd : Tiny d) (he : Tiny e) : withinS p q (p + d) (q + e) 262144 = true ∧ withinS p q (p - d) (q - e) 262144 = true := by
  have hd' : Tiny (-d) := by unfold Tiny at *; omega
  have he' : Tiny (-e) := by unfold Tiny at *; omega
  unfold withinS
  rw [(sub_to hp hd).2.1, (sub_to hq he).2.1, (sub_to hp hd).2.2, (sub_to hq he).2.2]
  exact ⟨by rw [decide_eq_true (show (0 : Int) ≤ 262144 by omega), decide_eq_true (sq_tiny hd' he')]; rfl, by rw [decide_eq_true (show (0 : Int) ≤ 262144 by omega), decide_eq_true (sq_tiny hd he)]; rfl⟩
theorem part_neg (c m n : Int) (h : Mid c) (h0 : sz 0 = 0) : partS (-c) m n = -partS c m n := by
  unfold partS
  rw [sz_neg h]
  by_cases a : c < 0
  · rw [if_neg (by omega), if_pos a]; omega
  · by_cases b : c = 0
    · subst b; rw [h0]; simp
    · rw [if_pos (by omega), if_neg a]
theorem clamp_neg {d e k : Int} (hd : Mid d) (he : Mid e) : clampX (-d) (-e) k = -clampX d e k ∧ clampY (-d) (-e) k = -clampY d e k := by
  unfold clampX clampY
  rw [len_neg hd he]
  split
  · rw [hd.neg.cnt, he.neg.cnt, hd.cnt, he.cnt]; exact ⟨rfl, rfl⟩
  · exact ⟨part_neg _ _ _ hd (by decide), part_neg _ _ _ he (by decide)⟩
theorem clamp_most {d e k : Int} (hd : I64 d) (he : I64 e) : (-9223372036854775807 ≤ clampX d e k ∧ clampX d e k ≤ 9223372036854775807) ∧ (-9223372036854775807 ≤ clampY d e k ∧ clampY d e k ≤ 9223372036854775807) := by
  unfold clampX clampY
  split
  · exact ⟨cnt_bd hd, cnt_bd he⟩
  · exact ⟨part_bd hd (most0_nn k) (by omega), part_bd he (most0_nn k) (by omega)⟩
theorem add_back {c : Int} (h : -9223372036854775807 ≤ c ∧ c ≤ 9223372036854775807) : addS (addS 0 (-c)) c = 0 := by
  unfold addS clampM cnt Most
  (repeat' split) <;> omega
/-- Two that stand alike on both sides. -/
theorem push_pair {p q d e : Int} (hp : Small p) (hq : Small q) (hd : Tiny d) (he : Tiny e) (hn : ¬ (d = 0 ∧ e = 0)) (f g : Nat → Int) (f0 : f 0 = p + d) (g0 : g 0 = q + e) (f1 : f 1 = p - d) (g1 : g 1 = q - e) : pushX p q 262144 f g 2 = 0 ∧ pushY p q 262144 f g 2 = 0 := by
  obtain ⟨w1, w2⟩ := within_tiny hp hq hd he
  have ln : lenS (-d) (-e) = lenS d e := len_neg (tiny_mid hd) (tiny_mid he)
  have a1 : aw0 (-d) (-e) = -d := by unfold aw0; rw [if_neg (by omega)]
  have a2 : aw0 d e = d := by unfold aw0; rw [if_neg hn]
  obtain ⟨cn1, cn2⟩ := clamp_neg (k := 262144 - lenS d e) (tiny_mid hd) (tiny_mid he)
  obtain ⟨b1, b2⟩ := clamp_most (k := 262144 - lenS d e) (tiny_mid hd).i64 (tiny_mid he).i64
  have e1 : pushX p q 262144 f g 1 = addS 0 (-clampX d e (262144 - lenS d e)) ∧ pushY p q 262144 f g 1 = addS 0 (-clampY d e (262144 - lenS d e)) := by
    have h := pst_yes (x := p) (y := q) (r := 262144) (qx := f 0) (qy := g 0) (by rw [f0, g0]; exact w1) (by rw [f0]; exact (sub_to hp hd).2.1) (by rw [g0]; exact (sub_to hq he).2.1) ln rfl 0 0 (-d) a1
    rw [cn1, cn2] at h
    exact h
  have e2 := pst_yes (x := p) (y := q) (r := 262144) (qx := f 1) (qy := g 1) (by rw [f1, g1]; exact w2) (by rw [f1]; exact (sub_to hp hd).2.2) (by rw [g1]; exact (sub_to hq he).2.2) rfl rfl (pushX p q 262144 f g 1) (pushY p q 262144 f g 1) d a2
  rw [e1.1, e1.2] at e2
  rw [add_back b1, add_back b2] at e2
  show pstX p q 262144 (pushX p q 262144 f g 1) (f 1) (g 1) = 0 ∧ pstY p q 262144 (pushY p q 262144 f g 1) (f 1) (g 1) = 0
  rw [e1.1, e1.2]
  exact e2
/-- One on the spot. -/
theorem push_spot {p q : Int} (hp : I64 p) (hq : I64 q) (f g : Nat → Int) (f0 : f 0 = p) (g0 : g 0 = q) : pushX p q 262144 f g 1 = 65536 ∧ pushY p q 262144 f g 1 = 0 := by
  have hw : withinS p q p q 262144 = true := by
    unfold withinS
    rw [sub_self hp, sub_self hq, SQ_zero]
    decide
  have h := pst_yes (x := p) (y := q) (r := 262144) (qx := f 0) (qy := g 0) (by rw [f0, g0]; exact hw) (by rw [f0]; exact sub_self hp) (by rw [g0]; exact sub_self hq) len00 rfl 0 0 65536 (by unfold aw0; rw [if_pos ⟨rfl, rfl⟩])
  have c : clampX 65536 0 (262144 - 0) = 65536 ∧ clampY 65536 0 (262144 - 0) = 0 := by
    unfold clampX clampY
    rw [len_one]
    decide
  rw [c.1, c.2] at h
  have z : addS 0 65536 = 65536 ∧ addS 0 0 = 0 := by decide
  rw [z.1, z.2] at h
  exact h
end Go.Proofs.Ytgmhalcofcokbaa.Fx
/- A call that makes memory leaves cells, wherever they lie, as they were. -/
namespace Go.Proofs.Ytgmhalcofcokbaa
open Go.RowKit
set_option linter.unusedVariables false
theorem hold1 {P : Program} {F : FuncId} {args : Array Value} {w w0 : World} {r : Ending} {B b1 o1 : Nat} {x1 : Value} (h : Calls P F args w fun e w' => e = r ∧ Below w.heap.size w w')
    (hB : Below B w0 w) (hs : B ≤ w.heap.size) (d1 : w.cell? ⟨b1, o1, none⟩ = some x1) :
    Calls P F args w fun e w' => e = r ∧ w'.cell? ⟨b1, o1, none⟩ = some x1 ∧ Below B w0 w' :=
  h.mono fun e w' ⟨h1, h2⟩ => ⟨h1, (h2.cell (p := ⟨b1, o1, none⟩) (World.block_lt_of_cell? _ _ d1)).trans d1, hB.trans (h2.mono hs)⟩
theorem hold2 {P : Program} {F : FuncId} {args : Array Value} {w w0 : World} {r : Ending} {B b1 o1 b2 o2 : Nat} {x1 x2 : Value} (h : Calls P F args w fun e w' => e = r ∧ Below w.heap.size w w')
    (hB : Below B w0 w) (hs : B ≤ w.heap.size) (d1 : w.cell? ⟨b1, o1, none⟩ = some x1) (d2 : w.cell? ⟨b2, o2, none⟩ = some x2) :
    Calls P F args w fun e w' => e = r ∧ w'.cell? ⟨b1, o1, none⟩ = some x1 ∧ w'.cell? ⟨b2, o2, none⟩ = some x2 ∧ Below B w0 w' :=
  h.mono fun e w' ⟨h1, h2⟩ => ⟨h1, (h2.cell (p := ⟨b1, o1, none⟩) (World.block_lt_of_cell? _ _ d1)).trans d1, (h2.cell (p := ⟨b2, o2, none⟩) (World.block_lt_of_cell? _ _ d2)).trans d2, hB.trans (h2.mono hs)⟩
theorem hold3 {P : Program} {F : FuncId} {args : Array Value} {w w0 : World} {r : Ending} {B b1 o1 b2 o2 b3 o3 : Nat} {x1 x2 x3 : Value} (h : Calls P F args w fun e w' => e = r ∧ Below w.heap.size w w')
    (hB : Below B w0 w) (hs : B ≤ w.heap.size) (d1 : w.cell? ⟨b1, o1, none⟩ = some x1) (d2 : w.cell? ⟨b2, o2, none⟩ = some x2) (d3 : w.cell? ⟨b3, o3, none⟩ = some x3) :
    Calls P F args w fun e w' => e = r ∧ w'.cell? ⟨b1, o1, none⟩ = some x1 ∧ w'.cell? ⟨b2, o2, none⟩ = some x2 ∧ w'.cell? ⟨b3, o3, none⟩ = some x3 ∧ Below B w0 w' :=
  h.mono fun e w' ⟨h1, h2⟩ => ⟨h1, (h2.cell (p := ⟨b1, o1, none⟩) (World.block_lt_of_cell? _ _ d1)).trans d1, (h2.cell (p := ⟨b2, o2, none⟩) (World.block_lt_of_cell? _ _ d2)).trans d2, (h2.cell (p := ⟨b3, o3, none⟩) (World.block_lt_of_cell? _ _ d3)).trans d3, hB.trans (h2.mono hs)⟩
theorem hold4 {P : Program} {F : FuncId} {args : Array Value} {w w0 : World} {r : Ending} {B b1 o1 b2 o2 b3 o3 b4 o4 : Nat} {x1 x2 x3 x4 : Value} (h : Calls P F args w fun e w' => e = r ∧ Below w.heap.size w w')
    (hB : Below B w0 w) (hs : B ≤ w.heap.size) (d1 : w.cell? ⟨b1, o1, none⟩ = some x1) (d2 : w.cell? ⟨b2, o2, none⟩ = some x2) (d3 : w.cell? ⟨b3, o3, none⟩ = some x3) (d4 : w.cell? ⟨b4, o4, none⟩ = some x4) :
    Calls P F args w fun e w' => e = r ∧ w'.cell? ⟨b1, o1, none⟩ = some x1 ∧ w'.cell? ⟨b2, o2, none⟩ = some x2 ∧ w'.cell? ⟨b3, o3, none⟩ = some x3 ∧ w'.cell? ⟨b4, o4, none⟩ = some x4 ∧ Below B w0 w' :=
  h.mono fun e w' ⟨h1, h2⟩ => ⟨h1, (h2.cell (p := ⟨b1, o1, none⟩) (World.block_lt_of_cell? _ _ d1)).trans d1, (h2.cell (p := ⟨b2, o2, none⟩) (World.block_lt_of_cell? _ _ d2)).trans d2, (h2.cell (p := ⟨b3, o3, none⟩) (World.block_lt_of_cell? _ _ d3)).trans d3, (h2.cell (p := ⟨b4, o4, none⟩) (World.block_lt_of_cell? _ _ d4)).trans d4, hB.trans (h2.mono hs)⟩
theorem hold5 {P : Program} {F : FuncId} {args : Array Value} {w w0 : World} {r : Ending} {B b1 o1 b2 o2 b3 o3 b4 o4 b5 o5 : Nat} {x1 x2 x3 x4 x5 : Value} (h : Calls P F args w fun e w' => e = r ∧ Below w.heap.size w w')
    (hB : Below B w0 w) (hs : B ≤ w.heap.size) (d1 : w.cell? ⟨b1, o1, none⟩ = some x1) (d2 : w.cell? ⟨b2, o2, none⟩ = some x2) (d3 : w.cell? ⟨b3, o3, none⟩ = some x3) (d4 : w.cell? ⟨b4, o4, none⟩ = some x4) (d5 : w.cell? ⟨b5, o5, none⟩ = some x5) :
    Calls P F args w fun e w' => e = r ∧ w'.cell? ⟨b1, o1, none⟩ = some x1 ∧ w'.cell? ⟨b2, o2, none⟩ = some x2 ∧ w'.cell? ⟨b3, o3, none⟩ = some x3 ∧ w'.cell? ⟨b4, o4, none⟩ = some x4 ∧ w'.cell? ⟨b5, o5, none⟩ = some x5 ∧ Below B w0 w' :=
  h.mono fun e w' ⟨h1, h2⟩ => ⟨h1, (h2.cell (p := ⟨b1, o1, none⟩) (World.block_lt_of_cell? _ _ d1)).trans d1, (h2.cell (p := ⟨b2, o2, none⟩) (World.block_lt_of_cell? _ _ d2)).trans d2, (h2.cell (p := ⟨b3, o3, none⟩) (World.block_lt_of_cell? _ _ d3)).trans d3, (h2.cell (p := ⟨b4, o4, none⟩) (World.block_lt_of_cell? _ _ d4)).trans d4, (h2.cell (p := ⟨b5, o5, none⟩) (World.block_lt_of_cell? _ _ d5)).trans d5, hB.trans (h2.mono hs)⟩
theorem hold6 {P : Program} {F : FuncId} {args : Array Value} {w w0 : World} {r : Ending} {B b1 o1 b2 o2 b3 o3 b4 o4 b5 o5 b6 o6 : Nat} {x1 x2 x3 x4 x5 x6 : Value} (h : Calls P F args w fun e w' => e = r ∧ Below w.heap.size w w')
    (hB : Below B w0 w) (hs : B ≤ w.heap.size) (d1 : w.cell? ⟨b1, o1, none⟩ = some x1) (d2 : w.cell? ⟨b2, o2, none⟩ = some x2) (d3 : w.cell? ⟨b3, o3, none⟩ = some x3) (d4 : w.cell? ⟨b4, o4, none⟩ = some x4) (d5 : w.cell? ⟨b5, o5, none⟩ = some x5) (d6 : w.cell? ⟨b6, o6, none⟩ = some x6) :
    Calls P F args w fun e w' => e = r ∧ w'.cell? ⟨b1, o1, none⟩ = some x1 ∧ w'.cell? ⟨b2, o2, none⟩ = some x2 ∧ w'.cell? ⟨b3, o3, none⟩ = some x3 ∧ w'.cell? ⟨b4, o4, none⟩ = some x4 ∧ w'.cell? ⟨b5, o5, none⟩ = some x5 ∧ w'.cell? ⟨b6, o6, none⟩ = some x6 ∧ Below B w0 w' :=
  h.mono fun e w' ⟨h1, h2⟩ => ⟨h1, (h2.cell (p := ⟨b1, o1, none⟩) (World.block_lt_of_cell? _ _ d1)).trans d1, (h2.cell (p := ⟨b2, o2, none⟩) (World.block_lt_of_cell? _ _ d2)).trans d2, (h2.cell (p := ⟨b3, o3, none⟩) (World.block_lt_of_cell? _ _ d3)).trans d3, (h2.cell (p := ⟨b4, o4, none⟩) (World.block_lt_of_cell? _ _ d4)).trans d4, (h2.cell (p := ⟨b5, o5, none⟩) (World.block_lt_of_cell? _ _ d5)).trans d5, (h2.cell (p := ⟨b6, o6, none⟩) (World.block_lt_of_cell? _ _ d6)).trans d6, hB.trans (h2.mono hs)⟩
theorem hold7 {P : Program} {F : FuncId} {args : Array Value} {w w0 : World} {r : Ending} {B b1 o1 b2 o2 b3 o3 b4 o4 b5 o5 b6 o6 b7 o7 : Nat} {x1 x2 x3 x4 x5 x6 x7 : Value} (h : Calls P F args w fun e w' => e = r ∧ Below w.heap.size w w')
    (hB : Below B w0 w) (hs : B ≤ w.heap.size) (d1 : w.cell? ⟨b1, o1, none⟩ = some x1) (d2 : w.cell? ⟨b2, o2, none⟩ = some x2) (d3 : w.cell? ⟨b3, o3, none⟩ = some x3) (d4 : w.cell? ⟨b4, o4, none⟩ = some x4) (d5 : w.cell? ⟨b5, o5, none⟩ = some x5) (d6 : w.cell? ⟨b6, o6, none⟩ = some x6) (d7 : w.cell? ⟨b7, o7, none⟩ = some x7) :
    Calls P F args w fun e w' => e = r ∧ w'.cell? ⟨b1, o1, none⟩ = some x1 ∧ w'.cell? ⟨b2, o2, none⟩ = some x2 ∧ w'.cell? ⟨b3, o3, none⟩ = some x3 ∧ w'.cell? ⟨b4, o4, none⟩ = some x4 ∧ w'.cell? ⟨b5, o5, none⟩ = some x5 ∧ w'.cell? ⟨b6, o6, none⟩ = some x6 ∧ w'.cell? ⟨b7, o7, none⟩ = some x7 ∧ Below B w0 w' :=
  h.mono fun e w' ⟨h1, h2⟩ => ⟨h1, (h2.cell (p := ⟨b1, o1, none⟩) (World.block_lt_of_cell? _ _ d1)).trans d1, (h2.cell (p := ⟨b2, o2, none⟩) (World.block_lt_of_cell? _ _ d2)).trans d2, (h2.cell (p := ⟨b3, o3, none⟩) (World.block_lt_of_cell? _ _ d3)).trans d3, (h2.cell (p := ⟨b4, o4, none⟩) (World.block_lt_of_cell? _ _ d4)).trans d4, (h2.cell (p := ⟨b5, o5, none⟩) (World.block_lt_of_cell? _ _ d5)).trans d5, (h2.cell (p := ⟨b6, o6, none⟩) (World.block_lt_of_cell? _ _ d6)).trans d6, (h2.cell (p := ⟨b7, o7, none⟩) (World.block_lt_of_cell? _ _ d7)).trans d7, hB.trans (h2.mono hs)⟩
theorem hold8 {P : Program} {F : FuncId} {args : Array Value} {w w0 : World} {r : Ending} {B b1 o1 b2 o2 b3 o3 b4 o4 b5 o5 b6 o6 b7 o7 b8 o8 : Nat} {x1 x2 x3 x4 x5 x6 x7 x8 : Value} (h : Calls P F args w fun e w' => e = r ∧ Below w.heap.size w w')
    (hB : Below B w0 w) (hs : B ≤ w.heap.size) (d1 : w.cell? ⟨b1, o1, none⟩ = some x1) (d2 : w.cell? ⟨b2, o2, none⟩ = some x2) (d3 : w.cell? ⟨b3, o3, none⟩ = some x3) (d4 : w.cell? ⟨b4, o4, none⟩ = some x4) (d5 : w.cell? ⟨b5, o5, none⟩ = some x5) (d6 : w.cell? ⟨b6, o6, none⟩ = some x6) (d7 : w.cell? ⟨b7, o7, none⟩ = some x7) (d8 : w.cell? ⟨b8, o8, none⟩ = some x8) :
    Calls P F args w fun e w' => e = r ∧ w'.cell? ⟨b1, o1, none⟩ = some x1 ∧ w'.cell? ⟨b2, o2, none⟩ = some x2 ∧ w'.cell? ⟨b3, o3, none⟩ = some x3 ∧ w'.cell? ⟨b4, o4, none⟩ = some x4 ∧ w'.cell? ⟨b5, o5, none⟩ = some x5 ∧ w'.cell? ⟨b6, o6, none⟩ = some x6 ∧ w'.cell? ⟨b7, o7, none⟩ = some x7 ∧ w'.cell? ⟨b8, o8, none⟩ = some x8 ∧ Below B w0 w' :=
  h.mono fun e w' ⟨h1, h2⟩ => ⟨h1, (h2.cell (p := ⟨b1, o1, none⟩) (World.block_lt_of_cell? _ _ d1)).trans d1, (h2.cell (p := ⟨b2, o2, none⟩) (World.block_lt_of_cell? _ _ d2)).trans d2, (h2.cell (p := ⟨b3, o3, none⟩) (World.block_lt_of_cell? _ _ d3)).trans d3, (h2.cell (p := ⟨b4, o4, none⟩) (World.block_lt_of_cell? _ _ d4)).trans d4, (h2.cell (p := ⟨b5, o5, none⟩) (World.block_lt_of_cell? _ _ d5)).trans d5, (h2.cell (p := ⟨b6, o6, none⟩) (World.block_lt_of_cell? _ _ d6)).trans d6, (h2.cell (p := ⟨b7, o7, none⟩) (World.block_lt_of_cell? _ _ d7)).trans d7, (h2.cell (p := ⟨b8, o8, none⟩) (World.block_lt_of_cell? _ _ d8)).trans d8, hB.trans (h2.mono hs)⟩
theorem hold9 {P : Program} {F : FuncId} {args : Array Value} {w w0 : World} {r : Ending} {B b1 o1 b2 o2 b3 o3 b4 o4 b5 o5 b6 o6 b7 o7 b8 o8 b9 o9 : Nat} {x1 x2 x3 x4 x5 x6 x7 x8 x9 : Value} (h : Calls P F args w fun e w' => e = r ∧ Below w.heap.size w w')
    (hB : Below B w0 w) (hs : B ≤ w.heap.size) (d1 : w.cell? ⟨b1, o1, none⟩ = some x1) (d2 : w.cell? ⟨b2, o2, none⟩ = some x2) (d3 : w.cell? ⟨b3, o3, none⟩ = some x3) (d4 : w.cell? ⟨b4, o4, none⟩ = some x4) (d5 : w.cell? ⟨b5, o5, none⟩ = some x5) (d6 : w.cell? ⟨b6, o6, none⟩ = some x6) (d7 : w.cell? ⟨b7, o7, none⟩ = some x7) (d8 : w.cell? ⟨b8, o8, none⟩ = some x8) (d9 : w.cell? ⟨b9, o9, none⟩ = some x9) :
    Calls P F args w fun e w' => e = r ∧ w'.cell? ⟨b1, o1, none⟩ = some x1 ∧ w'.cell? ⟨b2, o2, none⟩ = some x2 ∧ w'.cell? ⟨b3, o3, none⟩ = some x3 ∧ w'.cell? ⟨b4, o4, none⟩ = some x4 ∧ w'.cell? ⟨b5, o5, none⟩ = some x5 ∧ w'.cell? ⟨b6, o6, none⟩ = some x6 ∧ w'.cell? ⟨b7, o7, none⟩ = some x7 ∧ w'.cell? ⟨b8, o8, none⟩ = some x8 ∧ w'.cell? ⟨b9, o9, none⟩ = some x9 ∧ Below B w0 w' :=
  h.mono fun e w' ⟨h1, h2⟩ => ⟨h1, (h2.cell (p := ⟨b1, o1, none⟩) (World.block_lt_of_cell? _ _ d1)).trans d1, (h2.cell (p := ⟨b2, o2, none⟩) (World.block_lt_of_cell? _ _ d2)).trans d2, (h2.cell (p := ⟨b3, o3, none⟩) (World.block_lt_of_cell? _ _ d3)).trans d3, (h2.cell (p := ⟨b4, o4, none⟩) (World.block_lt_of_cell? _ _ d4)).trans d4, (h2.cell (p := ⟨b5, o5, none⟩) (World.block_lt_of_cell? _ _ d5)).trans d5, (h2.cell (p := ⟨b6, o6, none⟩) (World.block_lt_of_cell? _ _ d6)).trans d6, (h2.cell (p := ⟨b7, o7, none⟩) (World.block_lt_of_cell? _ _ d7)).trans d7, (h2.cell (p := ⟨b8, o8, none⟩) (World.block_lt_of_cell? _ _ d8)).trans d8, (h2.cell (p := ⟨b9, o9, none⟩) (World.block_lt_of_cell? _ _ d9)).trans d9, hB.trans (h2.mono hs)⟩
theorem hold10 {P : Program} {F : FuncId} {args : Array Value} {w w0 : World} {r : Ending} {B b1 o1 b2 o2 b3 o3 b4 o4 b5 o5 b6 o6 b7 o7 b8 o8 b9 o9 b10 o10 : Nat} {x1 x2 x3 x4 x5 x6 x7 x8 x9 x10 : Value} (h : Calls P F args w fun e w' => e = r ∧ Below w.heap.size w w')
    (hB : Below B w0 w) (hs : B ≤ w.heap.size) (d1 : w.cell? ⟨b1, o1, none⟩ = some x1) (d2 : w.cell? ⟨b2, o2, none⟩ = some x2) (d3 : w.cell? ⟨b3, o3, none⟩ = some x3) (d4 : w.cell? ⟨b4, o4, none⟩ = some x4) (d5 : w.cell? ⟨b5, o5, none⟩ = some x5) (d6 : w.cell? ⟨b6, o6, none⟩ = some x6) (d7 : w.cell? ⟨b7, o7, none⟩ = some x7) (d8 : w.cell? ⟨b8, o8, none⟩ = some x8) (d9 : w.cell? ⟨b9, o9, none⟩ = some x9) (d10 : w.cell? ⟨b10, o10, none⟩ = some x10) :
    Calls P F args w fun e w' => e = r ∧ w'.cell? ⟨b1, o1, none⟩ = some x1 ∧ w'.cell? ⟨b2, o2, none⟩ = some x2 ∧ w'.cell? ⟨b3, o3, none⟩ = some x3 ∧ w'.cell? ⟨b4, o4, none⟩ = some x4 ∧ w'.cell? ⟨b5, o5, none⟩ = some x5 ∧ w'.cell? ⟨b6, o6, none⟩ = some x6 ∧ w'.cell? ⟨b7, o7, none⟩ = some x7 ∧ w'.cell? ⟨b8, o8, none⟩ = some x8 ∧ w'.cell? ⟨b9, o9, none⟩ = some x9 ∧ w'.cell? ⟨b10, o10, none⟩ = some x10 ∧ Below B w0 w' :=
  h.mono fun e w' ⟨h1, h2⟩ => ⟨h1, (h2.cell (p := ⟨b1, o1, none⟩) (World.block_lt_of_cell? _ _ d1)).trans d1, (h2.cell (p := ⟨b2, o2, none⟩) (World.block_lt_of_cell? _ _ d2)).trans d2, (h2.cell (p := ⟨b3, o3, none⟩) (World.block_lt_of_cell? _ _ d3)).trans d3, (h2.cell (p := ⟨b4, o4, none⟩) (World.block_lt_of_cell? _ _ d4)).trans d4, (h2.cell (p := ⟨b5, o5, none⟩) (World.block_lt_of_cell? _ _ d5)).trans d5, (h2.cell (p := ⟨b6, o6, none⟩) (World.block_lt_of_cell? _ _ d6)).trans d6, (h2.cell (p := ⟨b7, o7, none⟩) (World.block_lt_of_cell? _ _ d7)).trans d7, (h2.cell (p := ⟨b8, o8, none⟩) (World.block_lt_of_cell? _ _ d8)).trans d8, (h2.cell (p := ⟨b9, o9, none⟩) (World.block_lt_of_cell? _ _ d9)).trans d9, (h2.cell (p := ⟨b10, o10, none⟩) (World.block_lt_of_cell? _ _ d10)).trans d10, hB.trans (h2.mono hs)⟩
theorem hold11 {P : Program} {F : FuncId} {args : Array Value} {w w0 : World} {r : Ending} {B b1 o1 b2 o2 b3 o3 b4 o4 b5 o5 b6 o6 b7 o7 b8 o8 b9 o9 b10 o10 b11 o11 : Nat} {x1 x2 x3 x4 x5 x6 x7 x8 x9 x10 x11 : Value} (h : Calls P F args w fun e w' => e = r ∧ Below w.heap.size w w')
    (hB : Below B w0 w) (hs : B ≤ w.heap.size) (d1 : w.cell? ⟨b1, o1, none⟩ = some x1) (d2 : w.cell? ⟨b2, o2, none⟩ = some x2) (d3 : w.cell? ⟨b3, o3, none⟩ = some x3) (d4 : w.cell? ⟨b4, o4, none⟩ = some x4) (d5 : w.cell? ⟨b5, o5, none⟩ = some x5) (d6 : w.cell? ⟨b6, o6, none⟩ = some x6) (d7 : w.cell? ⟨b7, o7, none⟩ = some x7) (d8 : w.cell? ⟨b8, o8, none⟩ = some x8) (d9 : w.cell? ⟨b9, o9, none⟩ = some x9) (d10 : w.cell? ⟨b10, o10, none⟩ = some x10) (d11 : w.cell? ⟨b11, o11, none⟩ = some x11) :
    Calls P F args w fun e w' => e = r ∧ w'.cell? ⟨b1, o1, none⟩ = some x1 ∧ w'.cell? ⟨b2, o2, none⟩ = some x2 ∧ w'.cell? ⟨b3, o3, none⟩ = some x3 ∧ w'.cell? ⟨b4, o4, none⟩ = some x4 ∧ w'.cell? ⟨b5, o5, none⟩ = some x5 ∧ w'.cell? ⟨b6, o6, none⟩ = some x6 ∧ w'.cell? ⟨b7, o7, none⟩ = some x7 ∧ w'.cell? ⟨b8, o8, none⟩ = some x8 ∧ w'.cell? ⟨b9, o9, none⟩ = some x9 ∧ w'.cell? ⟨b10, o10, none⟩ = some x10 ∧ w'.cell? ⟨b11, o11, none⟩ = some x11 ∧ Below B w0 w' :=
  h.mono fun e w' ⟨h1, h2⟩ => ⟨h1, (h2.cell (p := ⟨b1, o1, none⟩) (World.block_lt_of_cell? _ _ d1)).trans d1, (h2.cell (p := ⟨b2, o2, none⟩) (World.block_lt_of_cell? _ _ d2)).trans d2, (h2.cell (p := ⟨b3, o3, none⟩) (World.block_lt_of_cell? _ _ d3)).trans d3, (h2.cell (p := ⟨b4, o4, none⟩) (World.block_lt_of_cell? _ _ d4)).trans d4, (h2.cell (p := ⟨b5, o5, none⟩) (World.block_lt_of_cell? _ _ d5)).trans d5, (h2.cell (p := ⟨b6, o6, none⟩) (World.block_lt_of_cell? _ _ d6)).trans d6, (h2.cell (p := ⟨b7, o7, none⟩) (World.block_lt_of_cell? _ _ d7)).trans d7, (h2.cell (p := ⟨b8, o8, none⟩) (World.block_lt_of_cell? _ _ d8)).trans d8, (h2.cell (p := ⟨b9, o9, none⟩) (World.block_lt_of_cell? _ _ d9)).trans d9, (h2.cell (p := ⟨b10, o10, none⟩) (World.block_lt_of_cell? _ _ d10)).trans d10, (h2.cell (p := ⟨b11, o11, none⟩) (World.block_lt_of_cell? _ _ d11)).trans d11, hB.trans (h2.mono hs)⟩
theorem hold12 {P : Program} {F : FuncId} {args : Array Value} {w w0 : World} {r : Ending} {B b1 o1 b2 o2 b3 o3 b4 o4 b5 o5 b6 o6 b7 o7 b8 o8 b9 o9 b10 o10 b11 o11 b12 o12 : Nat} {x1 x2 x3 x4 x5 x6 x7 x8 x9 x10 x11 x12 : Value} (h : Calls P F args w fun e w' => e = r ∧ Below w.heap.size w w')
    (hB : Below B w0 w) (hs : B ≤ w.heap.size) (d1 : w.cell? ⟨b1, o1, none⟩ = some x1) (d2 : w.cell? ⟨b2, o2, none⟩ = some x2) (d3 : w.cell? ⟨b3, o3, none⟩ = some x3) (d4 : w.cell? ⟨b4, o4, none⟩ = some x4) (d5 : w.cell? ⟨b5, o5, none⟩ = some x5) (d6 : w.cell? ⟨b6, o6, none⟩ = some x6) (d7 : w.cell? ⟨b7, o7, none⟩ = some x7) (d8 : w.cell? ⟨b8, o8, none⟩ = some x8) (d9 : w.cell? ⟨b9, o9, none⟩ = some x9) (d10 : w.cell? ⟨b10, o10, none⟩ = some x10) (d11 : w.cell? ⟨b11, o11, none⟩ = some x11) (d12 : w.cell? ⟨b12, o12, none⟩ = some x12) :
    Calls P F args w fun e w' => e = r ∧ w'.cell? ⟨b1, o1, none⟩ = some x1 ∧ w'.cell? ⟨b2, o2, none⟩ = some x2 ∧ w'.cell? ⟨b3, o3, none⟩ = some x3 ∧ w'.cell? ⟨b4, o4, none⟩ = some x4 ∧ w'.cell? ⟨b5, o5, none⟩ = some x5 ∧ w'.cell? ⟨b6, o6, none⟩ = some x6 ∧ w'.cell? ⟨b7, o7, none⟩ = some x7 ∧ w'.cell? ⟨b8, o8, none⟩ = some x8 ∧ w'.cell? ⟨b9, o9, none⟩ = some x9 ∧ w'.cell? ⟨b10, o10, none⟩ = some x10 ∧ w'.cell? ⟨b11, o11, none⟩ = some x11 ∧ w'.cell? ⟨b12, o12, none⟩ = some x12 ∧ Below B w0 w' :=
  h.mono fun e w' ⟨h1, h2⟩ => ⟨h1, (h2.cell (p := ⟨b1, o1, none⟩) (World.block_lt_of_cell? _ _ d1)).trans d1, (h2.cell (p := ⟨b2, o2, none⟩) (World.block_lt_of_cell? _ _ d2)).trans d2, (h2.cell (p := ⟨b3, o3, none⟩) (World.block_lt_of_cell? _ _ d3)).trans d3, (h2.cell (p := ⟨b4, o4, none⟩) (World.block_lt_of_cell? _ _ d4)).trans d4, (h2.cell (p := ⟨b5, o5, none⟩) (World.block_lt_of_cell? _ _ d5)).trans d5, (h2.cell (p := ⟨b6, o6, none⟩) (World.block_lt_of_cell? _ _ d6)).trans d6, (h2.cell (p := ⟨b7, o7, none⟩) (World.block_lt_of_cell? _ _ d7)).trans d7, (h2.cell (p := ⟨b8, o8, none⟩) (World.block_lt_of_cell? _ _ d8)).trans d8, (h2.cell (p := ⟨b9, o9, none⟩) (World.block_lt_of_cell? _ _ d9)).trans d9, (h2.cell (p := ⟨b10, o10, none⟩) (World.block_lt_of_cell? _ _ d10)).trans d10, (h2.cell (p := ⟨b11, o11, none⟩) (World.block_lt_of_cell? _ _ d11)).trans d11, (h2.cell (p := ⟨b12, o12, none⟩) (World.block_lt_of_cell? _ _ d12)).trans d12, hB.trans (h2.mono hs)⟩
end Go.Proofs.Ytgmhalcofcokbaa
/- Layer 19: what SteerStill calls. -/
namespace Go.Proofs.Ytgmhalcofcokbaa
open Go.RowKit
set_option linter.unusedVariables false
theorem small_as (x y X Y : Int) (w : World) (hx : Fx.I64 x) (hy : Fx.I64 y) (EX : Fx.Hd (x / 32 = X)) (EY : Fx.Hd (y / 32 = Y)) :
    Calls Try.prog 24 #[.agg #[.int .i64 x, .int .i64 y]] w fun e w' => e = .returned (.agg #[.int .i64 X, .int .i64 Y]) ∧ Below w.heap.size w w' := by
  obtain ⟨rfl⟩ := EX
  obtain ⟨rfl⟩ := EY
  obtain ⟨x0, x1⟩ := hx
  obtain ⟨y0, y1⟩ := hy
  go_enter Try.func24, Try.ntmps24
  go_wp2
  refine bodyPost_ret (v := .agg #[.int .i64 (x / 32), .int .i64 (y / 32)]) (by simp [results, Try.results24, go_sem]) rfl ⟨rfl, ?_⟩
  exact ((Below.refl _ _).alloc (Nat.le_refl _) _).alloc (by simp) _
theorem toward_as (x y u v k cx cy : Int) (w : World) (hx : Fx.I64 x) (hy : Fx.I64 y) (hu : Fx.I64 u) (hv : Fx.I64 v) (hk : Fx.I64 k) (EX : Fx.Hd (Fx.towX x y u v k = cx)) (EY : Fx.Hd (Fx.towY x y u v k = cy)) :
    Calls Try.prog 25 #[.agg #[.int .i64 x, .int .i64 y], .agg #[.int .i64 u, .int .i64 v], .int .i64 k] w fun e w' => e = .returned (.agg #[.int .i64 cx, .int .i64 cy]) ∧ Below w.heap.size w w' := by
  obtain ⟨rfl⟩ := EX; obtain ⟨rfl⟩ := EY; exact toward_any x y u v k w hx hy hu hv hk
theorem apart_as (x y r cx cy : Int) (a : Option Addr) (n c B : Nat) (f g : Nat → Int) (w : World) (hx : Fx.I64 x) (hy : Fx.I64 y) (hr : Fx.I64 r) (hv : Vs w B a n f g) (hB : B ≤ w.heap.size) (hn : n ≤ 140737488355328) (EX : Fx.Hd (Fx.pushX x y r f g n = cx)) (EY : Fx.Hd (Fx.pushY x y r f g n = cy)) :
    Calls Try.prog 28 #[.agg #[.int .i64 x, .int .i64 y], .int .i64 r, .slice a n c] w fun e w' => e = .returned (.agg #[.int .i64 cx, .int .i64 cy]) ∧ Below w.heap.size w w' := by
  obtain ⟨rfl⟩ := EX; obtain ⟨rfl⟩ := EY; exact apart_any x y r a n c B f g w hx hy hr hv hB hn
theorem vs_lit2 (w : World) (a b c d : Int) (t : TypeId) (ha : Fx.I64 a) (hb : Fx.I64 b) (hc : Fx.I64 c) (hd : Fx.I64 d) : Vs (w.alloc (.cells #[.int .i64 a, .int .i64 b, .int .i64 c, .int .i64 d] t)) (w.heap.size + 1) (some ⟨w.heap.size, 0, none⟩) 2 (fun k => if k = 0 then a else c) (fun k => if k = 0 then b else d) := by
  refine ⟨fun k hk => ?_, fun _ => ⟨_, _, rfl, by omega, fun k hk => ?_⟩⟩
  · match k, hk with
    | 0, _ => exact ⟨ha, hb⟩
    | 1, _ => exact ⟨hc, hd⟩
  · match k, hk with
    | 0, _ => exact ⟨by go_simp, by go_simp⟩
    | 1, _ => exact ⟨by go_simp, by go_simp⟩
theorem vs_lit1 (w : World) (a b : Int) (t : TypeId) (ha : Fx.I64 a) (hb : Fx.I64 b) : Vs (w.alloc (.cells #[.int .i64 a, .int .i64 b] t)) (w.heap.size + 1) (some ⟨w.heap.size, 0, none⟩) 1 (fun _ => a) (fun _ => b) := by
  refine ⟨fun k hk => ⟨ha, hb⟩, fun _ => ⟨_, _, rfl, by omega, fun k hk => ?_⟩⟩
  match k, hk with
  | 0, _ => exact ⟨by go_simp, by go_simp⟩
end Go.Proofs.Ytgmhalcofcokbaa
/- Layer 19: what draws to others. -/
namespace Go.Proofs.Ytgmhalcofcokbaa
open Go.RowKit
set_option linter.unusedVariables false
set_option maxRecDepth 100000 in
set_option maxHeartbeats 1600000 in
theorem cohere_any (x y z : Int) (a : Option Addr) (n c B : Nat) (f g : Nat → Int) (w : World) (hx : Fx.I64 x) (hy : Fx.I64 y) (hz : Fx.I64 z) (hv : Vs w B a n f g) (hB : B ≤ w.heap.size) (hn : n ≤ 140737488355328) :
    Calls Try.prog 29 #[.agg #[.int .i64 x, .int .i64 y], .slice a n c, .int .i64 z] w fun e w' => e = .returned (.agg #[.int .i64 (Fx.cohX x y n f g z), .int .i64 (Fx.cohY x y n f g z)]) ∧ Below w.heap.size w w' := by
  have HV := Fx.Hd.mk hv
  clear hv
  by_cases h0 : n = 0
  · subst h0
    go_enter Try.func29, Try.ntmps29
    go_wp2
    refine bodyPost_ret (v := .agg #[.int .i64 (Fx.cohX x y 0 f g z), .int .i64 (Fx.cohY x y 0 f g z)]) (by simp [results, Try.results29, go_sem, Fx.cohX, Fx.cohY]) rfl ⟨rfl, ?_⟩
    exact ((Below.refl _ _).alloc (Nat.le_refl _) _).alloc (by simp) _
  · have b0 : ((n : Int) == 0) = false := by simp; omega
    go_enter Try.func29, Try.ntmps29
    have k0 := C3.start w (.int .i64 x) (.int .i64 y) (.int .i64 0) (.int .i64 0) (.int .i64 0) (.int .i64 0) 24 24 24
    have K0 := Fx.Hd.mk k0
    clear k0
    go_wp2
    go_loopw [17] (fun i wr => ∃ k : Nat, k ≤ n ∧ i = .int .i64 k ∧ Fx.Hd (C3 w wr (.int .i64 x) (.int .i64 y) (.int .i64 0) (.int .i64 0) (.int .i64 (Fx.sumF f k)) (.int .i64 (Fx.sumF g k)))) (fun i _ => n - (intOf i).toNat)
    case atStart => exact ⟨0, by omega, rfl, K0⟩
    case round =>
      clear K0
      obtain ⟨k, hk, rfl, HK⟩ := hrel
      by_cases hlt : k < n
      · obtain ⟨b, off, rfl, hbl, hc⟩ := HV.out.rd (by omega)
        obtain ⟨i1, i2⟩ := HV.out.num k hlt
        have hc0 := (HK.out.hB.cell (p := ⟨b, off + k * 2, none⟩) (by simp; omega)).trans (hc k hlt).1
        have hc1 := (HK.out.hB.cell (p := ⟨b, off + k * 2 + 1, none⟩) (by simp; omega)).trans (hc k hlt).2
        clear hc
        have s1 := Fx.sumF_i64 f k
        have s2 := Fx.sumF_i64 g k
        have HK2 := Fx.Hd.mk (HK.out.alloc (.cells #[.int .i64 (f k), .int .i64 (g k)] 24))
        have e0 := (HK2.out).c0; have e1 := (HK2.out).c1; have e2 := (HK2.out).d0; have e3 := (HK2.out).d1; have e4 := (HK2.out).e0; have e5 := (HK2.out).e1; have e6 := (HK2.out).f0; have e7 := (HK2.out).f1; have e8 := (HK2.out).g0; have e9 := (HK2.out).g1; 
        go_wp2_with (first | (go_at_call 42; (with_reducible refine (heldC3 (vadd_any _ _ _ _ _ s1 s2 i1 i2) HK2).mono ?_); clear HK2 e0 e1 e2 e3 e4 e5 e6 e7 e8 e9; rintro e w2 ⟨rfl, HK2, e0, e1, e2, e3, e4, e5, e6, e7, e8, e9⟩))
        have HK3 := Fx.Hd.mk (HK2.out.set (.int .i64 (Fx.addS (Fx.sumF f k) (f k))) (.int .i64 (Fx.addS (Fx.sumF g k) (g k))))
        go_roundw
        case rel => exact ⟨k + 1, by omega, by go_num, HK3⟩
        case measure => simp [intOf]; omega
      · have hkn : k = n := by omega
        subst hkn
        have e0 := (HK.out).c0; have e1 := (HK.out).c1; have e2 := (HK.out).d0; have e3 := (HK.out).d1; have e4 := (HK.out).e0; have e5 := (HK.out).e1; have e6 := (HK.out).f0; have e7 := (HK.out).f1; have e8 := (HK.out).g0; have e9 := (HK.out).g1; 
        have s1 := Fx.sumF_i64 f k
        have s2 := Fx.sumF_i64 g k
        have HK2 := Fx.Hd.mk HK.out.drew
        have W1 : Fx.I64 (IntKind.i64.wrap ((Fx.sumF f k).tdiv k)) := Fx.wrap_i64 _
        have W2 : Fx.I64 (IntKind.i64.wrap ((Fx.sumF g k).tdiv k)) := Fx.wrap_i64 _
        have CX : Fx.Hd (Fx.cohX x y k f g z = Fx.towX x y (IntKind.i64.wrap ((Fx.sumF f k).tdiv k)) (IntKind.i64.wrap ((Fx.sumF g k).tdiv k)) z) := ⟨by unfold Fx.cohX; rw [if_neg h0]⟩
        have CY : Fx.Hd (Fx.cohY x y k f g z = Fx.towY x y (IntKind.i64.wrap ((Fx.sumF f k).tdiv k)) (IntKind.i64.wrap ((Fx.sumF g k).tdiv k)) z) := ⟨by unfold Fx.cohY; rw [if_neg h0]⟩
        clear HK
        go_wp2
        go_region_with (first | (go_at_call 25; (with_reducible refine (heldC3 (toward_any _ _ _ _ _ _ hx hy W1 W2 hz) HK2).mono ?_); clear HK2 e0 e1 e2 e3 e4 e5 e6 e7 e8 e9; rintro e w2 ⟨rfl, HK2, e0, e1, e2, e3, e4, e5, e6, e7, e8, e9⟩))
        all_goals
          go_wp2
          refine bodyPost_ret (v := .agg #[.int .i64 (Fx.towX x y (IntKind.i64.wrap ((Fx.sumF f k).tdiv k)) (IntKind.i64.wrap ((Fx.sumF g k).tdiv k)) z), .int .i64 (Fx.towY x y (IntKind.i64.wrap ((Fx.sumF f k).tdiv k)) (IntKind.i64.wrap ((Fx.sumF g k).tdiv k)) z)]) (by simp [results, Try.results29, go_sem, e2, e3]) rfl ⟨by rw [CX.out, CY.out], ?_⟩
          exact (HK2.out.hB.setCell (by simp) _).setCell (by simp) _
end Go.Proofs.Ytgmhalcofcokbaa
/- Plain arithmetic of layer 19: what SteerShort asks. -/
namespace Go.Proofs.Ytgmhalcofcokbaa.Fx
set_option linter.unusedVariables false
theorem most0_most (k : Int) : most0 (most0 k) = most0 k := by unfold most0; (repeat' split) <;> omega
theorem clamp_most0 (a b k : Int) : clampX a b (most0 k) = clampX a b k ∧ clampY a b (most0 k) = clampY a b k := by
  unfold clampX clampY; rw [most0_most]; exact ⟨rfl, rfl⟩
theorem sub_small {p q : Int} (hp : Small p) (hq : Small q) : subS p q = p - q := by
  unfold Small at hp hq
  unfold subS addS negS clampM cnt Most
  (repeat' split) <;> omega
theorem add0_of {c : Int} (h : -9223372036854775807 ≤ c ∧ c ≤ 9223372036854775807) : addS 0 c = c := by
  unfold addS clampM cnt Most
  (repeat' split) <;> omega
theorem add0_small {p : Int} (h : Small p) : addS 0 p = p := add0_of (by unfold Small at h; omega)
theorem small_sub_mid {p q : Int} (hp : Small p) (hq : Small q) : Mid (p - q) := by unfold Small at hp hq; unfold Mid; omega
theorem tow_in {x y u v m : Int} (hx : Small x) (hy : Small y) (hu : Small u) (hv : Small v) (hm : 0 ≤ m) (h : lenS (u - x) (v - y) ≤ m) : towX x y u v m = u - x ∧ towY x y u v m = v - y := by
  unfold towX towY clampX clampY
  rw [sub_small hu hx, sub_small hv hy]
  have e : most0 m = m := by unfold most0; rw [if_neg (by omega)]
  rw [e, if_pos h, if_pos h, (small_sub_mid hu hx).cnt, (small_sub_mid hv hy).cnt]
  exact ⟨rfl, rfl⟩
theorem coh_one {x y u v m : Int} (hu : Small u) (hv : Small v) : cohX x y 1 (fun _ => u) (fun _ => v) m = towX x y u v m ∧ cohY x y 1 (fun _ => u) (fun _ => v) m = towY x y u v m := by
  have s1 : sumF (fun _ => u) 1 = u := by show addS 0 u = u; exact add0_small hu
  have s2 : sumF (fun _ => v) 1 = v := by show addS 0 v = v; exact add0_small hv
  have w1 : IntKind.i64.wrap (u.tdiv ((1 : Nat) : Int)) = u := by
    rw [show ((1 : Nat) : Int) = 1 from rfl, Int.tdiv_one]
    exact IntWalk.i64_in _ (small_i64 hu)
  have w2 : IntKind.i64.wrap (v.tdiv ((1 : Nat) : Int)) = v := by
    rw [show ((1 : Nat) : Int) = 1 from rfl, Int.tdiv_one]
    exact IntWalk.i64_in _ (small_i64 hv)
  unfold cohX cohY
  rw [if_neg (by omega), if_neg (by omega), s1, s2, w1, w2]
  exact ⟨rfl, rfl⟩
theorem push_signs {x y u v m : Int} (hx : Small x) (hy : Small y) (hu : Small u) (hv : Small v) (h : withinS x y u v m = true) :
    (pushX x y m (fun _ => u) (fun _ => v) 1 < 0 → x < u) ∧ (0 < pushX x y m (fun _ => u) (fun _ => v) 1 → u ≤ x) ∧ (pushY x y m (fun _ => u) (fun _ => v) 1 < 0 → y < v) ∧ (0 < pushY x y m (fun _ => u) (fun _ => v) 1 → v < y) := by
  obtain ⟨e1, e2⟩ := pst_yes h (sub_small hx hu) (sub_small hy hv) rfl rfl 0 0 _ rfl
  have m1 := small_sub_mid hx hu
  have m2 := small_sub_mid hy hv
  have ma : Mid (aw0 (x - u) (y - v)) := by unfold aw0; split; · unfold Mid; omega
                                            · exact m1
  have b1 := clamp_most (k := m - lenS (x - u) (y - v)) ma.i64 m2.i64
  obtain ⟨_, _, _, _, h5, h6, h7, h8, _, _⟩ := short_all ma m2 (most0_nn (m - lenS (x - u) (y - v)))
  rw [(clamp_most0 _ _ _).1] at h5 h6
  rw [(clamp_most0 _ _ _).2] at h7 h8
  have p1 : pushX x y m (fun _ => u) (fun _ => v) 1 = clampX (aw0 (x - u) (y - v)) (y - v) (m - lenS (x - u) (y - v)) := by
    show pstX x y m 0 u v = _
    rw [e1]; exact add0_of b1.1
  have p2 : pushY x y m (fun _ => u) (fun _ => v) 1 = clampY (aw0 (x - u) (y - v)) (y - v) (m - lenS (x - u) (y - v)) := by
    show pstY x y m 0 u v = _
    rw [e2]; exact add0_of b1.2
  rw [p1, p2]
  have k1 : aw0 (x - u) (y - v) < 0 → x - u < 0 := by unfold aw0; split <;> omega
  have k2 : 0 < aw0 (x - u) (y - v) → 0 ≤ x - u := by unfold aw0; split <;> omega
  refine ⟨fun h => ?_, fun h => ?_, fun h => ?_, fun h => ?_⟩
  · have := k1 (h5 h); omega
  · have := k2 (h6 h); omega
  · have := h7 h; omega
  · have := h8 h; omega
/-- What SteerShort asks of two places. -/
structure SS (X Y U V m tx ty lv dx dy ld ax ay : Int) (wi : Bool) : Prop where
  jx : I64 X
  jy : I64 Y
  ju : I64 U
  jv : I64 V
  jm : I64 m
  jt : I64 tx
  jt' : I64 ty
  jd : I64 dx
  jd' : I64 dy
  et : Hd (towX X Y U V m = tx)
  et' : Hd (towY X Y U V m = ty)
  el : Hd (lenS tx ty = lv)
  lm : lv ≤ m
  ed : Hd (subS U X = dx)
  ed' : Hd (subS V Y = dy)
  eld : Hd (lenS dx dy = ld)
  eq : ld ≤ m → tx = dx ∧ ty = dy
  ec : Hd (cohX X Y 1 (fun _ => U) (fun _ => V) m = tx)
  ec' : Hd (cohY X Y 1 (fun _ => U) (fun _ => V) m = ty)
  c0 : Hd (cohX X Y 0 (fun _ => U) (fun _ => V) m = 0)
  c0' : Hd (cohY X Y 0 (fun _ => U) (fun _ => V) m = 0)
  p0 : Hd (pushX X Y m (fun _ => U) (fun _ => V) 0 = 0)
  p0' : Hd (pushY X Y m (fun _ => U) (fun _ => V) 0 = 0)
  ea : Hd (pushX X Y m (fun _ => U) (fun _ => V) 1 = ax)
  ea' : Hd (pushY X Y m (fun _ => U) (fun _ => V) 1 = ay)
  ew : Hd (withinS X Y U V m = wi)
  no : wi = false → ax = 0 ∧ ay = 0
  sx : ax < 0 → X < U
  sx' : 0 < ax → U ≤ X
  sy : ay < 0 → Y < V
  sy' : 0 < ay → V < Y
theorem ss_of {X Y U V m : Int} (hx : Small X) (hy : Small Y) (hu : Small U) (hv : Small V) (hm : 0 ≤ m) (jm : I64 m) : ∃ tx ty lv dx dy ld ax ay wi, SS X Y U V m tx ty lv dx dy ld ax ay wi := by
  have m1 := small_sub_mid hu hx
  have m2 := small_sub_mid hv hy
  have e1 := sub_small hu hx
  have e2 := sub_small hv hy
  obtain ⟨h1, h2, h3, h4, _⟩ := short_all m1 m2 hm
  have et : towX X Y U V m = clampX (U - X) (V - Y) m := by unfold towX; rw [e1, e2]
  have et' : towY X Y U V m = clampY (U - X) (V - Y) m := by unfold towY; rw [e1, e2]
  rw [← et, ← et'] at h3
  refine ⟨_, _, _, U - X, V - Y, _, _, _, _, small_i64 hx, small_i64 hy, small_i64 hu, small_i64 hv, jm, et ▸ h1, et' ▸ h2, m1.i64, m2.i64, ⟨rfl⟩, ⟨rfl⟩, ⟨rfl⟩, h3, ⟨e1⟩, ⟨e2⟩, ⟨rfl⟩, fun h => tow_in hx hy hu hv hm h, ⟨(coh_one hu hv).1⟩, ⟨(coh_one hu hv).2⟩, ⟨rfl⟩, ⟨rfl⟩, ⟨rfl⟩, ⟨rfl⟩, ⟨rfl⟩, ⟨rfl⟩, ⟨rfl⟩, ?_, ?_, ?_, ?_, ?_⟩
  · intro h
    obtain ⟨a, b⟩ := pst_no h 0 0
    exact ⟨a, b⟩
  all_goals
    by_cases h : withinS X Y U V m = true
    · obtain ⟨a, b, c, d⟩ := push_signs hx hy hu hv h
      first | exact a | exact b | exact c | exact d
    · obtain ⟨a, b⟩ := pst_no (by simpa using h) 0 0
      intro h'
      have z1 : pushX X Y m (fun _ => U) (fun _ => V) 1 = 0 := a
      have z2 : pushY X Y m (fun _ => U) (fun _ => V) 1 = 0 := b
      omega
end Go.Proofs.Ytgmhalcofcokbaa.Fx
