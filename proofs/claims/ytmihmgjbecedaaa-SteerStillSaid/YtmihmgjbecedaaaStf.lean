/- Layer 19: what pushes away. -/
import Derived.Test.YtmihmgjbecedaaaSte
namespace Go.Proofs.Ytmihmgjbecedaaa
open Go.RowKit
set_option linter.unusedVariables false
set_option maxRecDepth 100000 in
set_option maxHeartbeats 3200000 in
theorem apart_any (x y r : Int) (a : Option Addr) (n c B : Nat) (f g : Nat → Int) (w : World) (hx : Fx.I64 x) (hy : Fx.I64 y) (hr : Fx.I64 r) (hv : Vs w B a n f g) (hB : B ≤ w.heap.size) (hn : n ≤ 140737488355328) :
    Calls Try.prog 13 #[.agg #[.int .i64 x, .int .i64 y], .int .i64 r, .slice a n c] w fun e w' => e = .returned (.agg #[.int .i64 (Fx.pushX x y r f g n), .int .i64 (Fx.pushY x y r f g n)]) ∧ Below w.heap.size w w' := by
  have HV := Fx.Hd.mk hv
  clear hv
  go_enter Try.func13, Try.ntmps13
  have K0 := Fx.Hd.mk (C3.start w (.int .i64 x) (.int .i64 y) (.int .i64 0) (.int .i64 0) (.int .i64 0) (.int .i64 0) 24 24 24)
  go_wp2
  go_loopw [14] (fun i wr => ∃ k : Nat, k ≤ n ∧ i = .int .i64 k ∧ Fx.Hd (C3 w wr (.int .i64 x) (.int .i64 y) (.int .i64 0) (.int .i64 0) (.int .i64 (Fx.pushX x y r f g k)) (.int .i64 (Fx.pushY x y r f g k)))) (fun i _ => n - (intOf i).toNat)
  case atStart => exact ⟨0, by omega, rfl, K0⟩
  case round =>
    clear K0
    obtain ⟨k, hk, rfl, HK⟩ := hrel
    by_cases hlt : k < n
    · obtain ⟨b, off, rfl, hbl, hc⟩ := HV.out.rd (by omega)
      obtain ⟨i1, i2⟩ := HV.out.num k hlt
      have hc0 := (HK.out.hB.cell (p := ⟨b, off + k * 2, none⟩) (by simp; omega)).trans (hc k hlt).1
      have hc1 := (HK.out.hB.cell (p := ⟨b, off + k * 2 + 1, none⟩) (by simp; omega)).trans (hc k hlt).2
      clear hc
      have s1 := Fx.pushX_i64 x y r f g k
      have s2 := Fx.pushY_i64 x y r f g k
      obtain ⟨u, hu⟩ : ∃ u, f k = u := ⟨_, rfl⟩
      obtain ⟨v, hv⟩ : ∃ v, g k = v := ⟨_, rfl⟩
      obtain ⟨s, hs⟩ : ∃ s, Fx.pushX x y r f g k = s := ⟨_, rfl⟩
      obtain ⟨t, ht⟩ : ∃ t, Fx.pushY x y r f g k = t := ⟨_, rfl⟩
      rw [hu] at hc0 i1
      rw [hv] at hc1 i2
      rw [hs, ht] at HK
      rw [hs] at s1
      rw [ht] at s2
      have FK := Fx.Hd.mk hu
      have GK := Fx.Hd.mk hv
      have SX := Fx.Hd.mk hs
      have SY := Fx.Hd.mk ht
      clear hu hv hs ht
      have HK2 := Fx.Hd.mk (HK.out.alloc (.cells #[.int .i64 u, .int .i64 v] 24))
      have e0 := (HK2.out).c0; have e1 := (HK2.out).c1; have e2 := (HK2.out).d0; have e3 := (HK2.out).d1; have e4 := (HK2.out).e0; have e5 := (HK2.out).e1; have e6 := (HK2.out).f0; have e7 := (HK2.out).f1; have e8 := (HK2.out).g0; have e9 := (HK2.out).g1; 
      have q0 : (wr.alloc (.cells #[.int .i64 u, .int .i64 v] 24)).cell? ⟨wr.heap.size, 0, none⟩ = some (.int .i64 u) := by go_simp
      have q1 : (wr.alloc (.cells #[.int .i64 u, .int .i64 v] 24)).cell? ⟨wr.heap.size, 1, none⟩ = some (.int .i64 v) := by go_simp
      have z0 : (wr.alloc (.cells #[.int .i64 u, .int .i64 v] 24)).frozen? ⟨wr.heap.size, 0, none⟩ = false := by go_simp
      have z1 : (wr.alloc (.cells #[.int .i64 u, .int .i64 v] 24)).frozen? ⟨wr.heap.size, 1, none⟩ = false := by go_simp
      cases hw : Fx.withinS x y u v r
      case false =>
        have HW := Fx.Hd.mk hw
        have HR := Fx.Hd.mk (Fx.pst_no hw s t)
        clear hw HK
        go_wp2_with (first | (go_at_call 25; go_must (refine (heldC3P (within_as x y u v r false _ hx hy i1 i2 hr HW) HK2 q0 q1 z0 z1).mono ?_); clear HK2 e0 e1 e2 e3 e4 e5 e6 e7 e8 e9 q0 q1 z0 z1; rintro e w2 ⟨rfl, HK2, e0, e1, e2, e3, e4, e5, e6, e7, e8, e9, q0, q1, z0, z1⟩))
        go_roundw
        case rel => exact ⟨k + 1, by omega, by go_num, ⟨by
          rw [show Fx.pushX x y r f g (k + 1) = s from by show Fx.pstX x y r (Fx.pushX x y r f g k) (f k) (g k) = s; rw [FK.out, GK.out, SX.out]; exact HR.out.1, show Fx.pushY x y r f g (k + 1) = t from by show Fx.pstY x y r (Fx.pushY x y r f g k) (f k) (g k) = t; rw [FK.out, GK.out, SY.out]; exact HR.out.2]
          exact HK2.out⟩⟩
        case measure => simp [intOf]; omega
      case true =>
        have HW := Fx.Hd.mk hw
        have r0 := Fx.within_pos hw
        clear hw HK
        have j1' := Fx.sub_i64 x u
        have j2' := Fx.sub_i64 y v
        obtain ⟨dx, hdx⟩ : ∃ dx, Fx.subS x u = dx := ⟨_, rfl⟩
        obtain ⟨dy, hdy⟩ : ∃ dy, Fx.subS y v = dy := ⟨_, rfl⟩
        have j1 : Fx.I64 dx := by rw [← hdx]; exact j1'
        have j2 : Fx.I64 dy := by rw [← hdy]; exact j2'
        have EX := Fx.Hd.mk hdx
        have EY := Fx.Hd.mk hdy
        obtain ⟨l0, l1⟩ := Fx.lenS_bd j1 j2
        obtain ⟨L, hL⟩ : ∃ L, Fx.lenS dx dy = L := ⟨_, rfl⟩
        rw [hL] at l0 l1
        have EL := Fx.Hd.mk hL
        have r1 : r ≤ 9223372036854775807 := hr.2
        have jm : Fx.I64 (r - L) := by unfold Fx.I64; omega
        have em : IntKind.i64.wrap (r - L) = r - L := IntWalk.i64_in _ (by omega)
        clear hdx hdy hL j1' j2'
        go_wp2_with (first | (go_at_call 25; go_must (refine (heldC3P (within_as x y u v r true _ hx hy i1 i2 hr HW) HK2 q0 q1 z0 z1).mono ?_); clear HK2 e0 e1 e2 e3 e4 e5 e6 e7 e8 e9 q0 q1 z0 z1; rintro e w2 ⟨rfl, HK2, e0, e1, e2, e3, e4, e5, e6, e7, e8, e9, q0, q1, z0, z1⟩) | (go_at_call 23; go_must (refine (heldC3 (vsub_as x y u v dx dy _ hx hy i1 i2 EX EY) HK2).mono ?_); clear HK2 e0 e1 e2 e3 e4 e5 e6 e7 e8 e9 q0 q1 z0 z1; rintro e w3 ⟨rfl, HK3, e0, e1, e2, e3, e4, e5, e6, e7, e8, e9⟩; have HK4 := Fx.Hd.mk (HK3.out.alloc (.cells #[.int .i64 dx, .int .i64 dy] 24)); have hsz3 := HK3.out.hs; clear HK3 e0 e1 e2 e3 e4 e5 e6 e7 e8 e9; have e0 := (HK4.out).c0; have e1 := (HK4.out).c1; have e2 := (HK4.out).d0; have e3 := (HK4.out).d1; have e4 := (HK4.out).e0; have e5 := (HK4.out).e1; have e6 := (HK4.out).f0; have e7 := (HK4.out).f1; have e8 := (HK4.out).g0; have e9 := (HK4.out).g1; have q0 : (w3.alloc (.cells #[.int .i64 dx, .int .i64 dy] 24)).cell? ⟨w3.heap.size, 0, none⟩ = some (.int .i64 dx) := (by go_simp); have q1 : (w3.alloc (.cells #[.int .i64 dx, .int .i64 dy] 24)).cell? ⟨w3.heap.size, 1, none⟩ = some (.int .i64 dy) := (by go_simp); have z0 : (w3.alloc (.cells #[.int .i64 dx, .int .i64 dy] 24)).frozen? ⟨w3.heap.size, 0, none⟩ = false := (by go_simp); have z1 : (w3.alloc (.cells #[.int .i64 dx, .int .i64 dy] 24)).frozen? ⟨w3.heap.size, 1, none⟩ = false := (by go_simp)) | (go_at_call 26; go_must (refine (heldC3P (len_as dx dy L _ j1 j2 EL) HK4 q0 q1 z0 z1).mono ?_); clear HK4 e0 e1 e2 e3 e4 e5 e6 e7 e8 e9 q0 q1 z0 z1; rintro e w4 ⟨rfl, HK5, e0, e1, e2, e3, e4, e5, e6, e7, e8, e9, q0, q1, z0, z1⟩))
        · obtain rfl : dx = 0 := by assumption
          obtain rfl : dy = 0 := by assumption
          have HKo := Fx.Hd.mk (HK5.out.other w3.heap.size 0 (.int .i64 65536) hsz3)
          clear e0 e1 e2 e3 e4 e5 e6 e7 e8 e9 HK5
          have e0 := (HKo.out).c0; have e1 := (HKo.out).c1; have e2 := (HKo.out).d0; have e3 := (HKo.out).d1; have e4 := (HKo.out).e0; have e5 := (HKo.out).e1; have e6 := (HKo.out).f0; have e7 := (HKo.out).f1; have e8 := (HKo.out).g0; have e9 := (HKo.out).g1; 
          have q0' := World.cell?_setCell_same w4 _ (.int .i64 65536) q0
          have q1' := (World.cell?_setCell_other w4 ⟨w3.heap.size, 0, none⟩ ⟨w3.heap.size, 1, none⟩ (.int .i64 65536) (by simp)).trans q1
          clear q0 q1 z0 z1
          generalize w4.setCell ⟨w3.heap.size, 0, none⟩ (.int .i64 65536) = W5 at *
          have JA : Fx.I64 65536 := by unfold Fx.I64; omega
          have HA : Fx.Hd (Fx.aw0 0 0 = 65536) := ⟨by unfold Fx.aw0; rw [if_pos ⟨rfl, rfl⟩]⟩
          obtain ⟨cx, hcx⟩ : ∃ cx, Fx.clampX 65536 0 (r - L) = cx := ⟨_, rfl⟩
          obtain ⟨cy, hcy⟩ : ∃ cy, Fx.clampY 65536 0 (r - L) = cy := ⟨_, rfl⟩
          have hR := Fx.pst_yes HW.out EX.out EY.out EL.out rfl s t 65536 HA.out
          rw [hcx, hcy] at hR
          have HR : Fx.Hd (Fx.pushX x y r f g (k + 1) = Fx.addS s cx ∧ Fx.pushY x y r f g (k + 1) = Fx.addS t cy) := ⟨by
            show Fx.pstX x y r (Fx.pushX x y r f g k) (f k) (g k) = _ ∧ Fx.pstY x y r (Fx.pushY x y r f g k) (f k) (g k) = _
            rw [FK.out, GK.out, SX.out, SY.out]; exact hR⟩
          have ECX := Fx.Hd.mk hcx
          have ECY := Fx.Hd.mk hcy
          have ic1 : Fx.I64 cx := by rw [← hcx]; exact (Fx.clamp_i64 JA j2 jm).1
          have ic2 : Fx.I64 cy := by rw [← hcy]; exact (Fx.clamp_i64 JA j2 jm).2
          clear hcx hcy hR HA
          have HK6 := Fx.Hd.mk HKo.out.drew
          clear HKo
          go_region_with (first | (go_at_call 22; go_must (refine (heldC3 (clamp_as 65536 0 (r - L) cx cy _ JA j2 jm ECX ECY) HK6).mono ?_); clear HK6 e0 e1 e2 e3 e4 e5 e6 e7 e8 e9; rintro e w6 ⟨rfl, HK6, e0, e1, e2, e3, e4, e5, e6, e7, e8, e9⟩) | (go_at_call 27; go_must (refine (heldC3 (vadd_any s t cx cy _ s1 s2 ic1 ic2) HK6).mono ?_); clear HK6 e0 e1 e2 e3 e4 e5 e6 e7 e8 e9; rintro e w7 ⟨rfl, HK6, e0, e1, e2, e3, e4, e5, e6, e7, e8, e9⟩))
          all_goals
            go_wp2
            have HK7 := Fx.Hd.mk (HK6.out.set (.int .i64 (Fx.addS s cx)) (.int .i64 (Fx.addS t cy)))
            go_roundw
            case rel => exact ⟨k + 1, by omega, by go_num, ⟨by rw [HR.out.1, HR.out.2]; exact HK7.out⟩⟩
            case measure => simp [intOf]; omega
        · obtain rfl : dx = 0 := by assumption
          have hdy : ¬ dy = 0 := by assumption
          have JA : Fx.I64 0 := by unfold Fx.I64; omega
          have HA : Fx.Hd (Fx.aw0 0 dy = 0) := ⟨by unfold Fx.aw0; rw [if_neg (fun h => hdy h.2)]⟩
          obtain ⟨cx, hcx⟩ : ∃ cx, Fx.clampX 0 dy (r - L) = cx := ⟨_, rfl⟩
          obtain ⟨cy, hcy⟩ : ∃ cy, Fx.clampY 0 dy (r - L) = cy := ⟨_, rfl⟩
          have hR := Fx.pst_yes HW.out EX.out EY.out EL.out rfl s t 0 HA.out
          rw [hcx, hcy] at hR
          have HR : Fx.Hd (Fx.pushX x y r f g (k + 1) = Fx.addS s cx ∧ Fx.pushY x y r f g (k + 1) = Fx.addS t cy) := ⟨by
            show Fx.pstX x y r (Fx.pushX x y r f g k) (f k) (g k) = _ ∧ Fx.pstY x y r (Fx.pushY x y r f g k) (f k) (g k) = _
            rw [FK.out, GK.out, SX.out, SY.out]; exact hR⟩
          have ECX := Fx.Hd.mk hcx
          have ECY := Fx.Hd.mk hcy
          have ic1 : Fx.I64 cx := by rw [← hcx]; exact (Fx.clamp_i64 JA j2 jm).1
          have ic2 : Fx.I64 cy := by rw [← hcy]; exact (Fx.clamp_i64 JA j2 jm).2
          clear hcx hcy hR HA
          have HK6 := Fx.Hd.mk HK5.out.drew
          clear HK5
          go_region_with (first | (go_at_call 22; go_must (refine (heldC3 (clamp_as 0 dy (r - L) cx cy _ JA j2 jm ECX ECY) HK6).mono ?_); clear HK6 e0 e1 e2 e3 e4 e5 e6 e7 e8 e9; rintro e w6 ⟨rfl, HK6, e0, e1, e2, e3, e4, e5, e6, e7, e8, e9⟩) | (go_at_call 27; go_must (refine (heldC3 (vadd_any s t cx cy _ s1 s2 ic1 ic2) HK6).mono ?_); clear HK6 e0 e1 e2 e3 e4 e5 e6 e7 e8 e9; rintro e w7 ⟨rfl, HK6, e0, e1, e2, e3, e4, e5, e6, e7, e8, e9⟩))
          all_goals
            go_wp2
            have HK7 := Fx.Hd.mk (HK6.out.set (.int .i64 (Fx.addS s cx)) (.int .i64 (Fx.addS t cy)))
            go_roundw
            case rel => exact ⟨k + 1, by omega, by go_num, ⟨by rw [HR.out.1, HR.out.2]; exact HK7.out⟩⟩
            case measure => simp [intOf]; omega
        · have hdx : ¬ dx = 0 := by assumption
          have JA : Fx.I64 dx := j1
          have HA : Fx.Hd (Fx.aw0 dx dy = dx) := ⟨by unfold Fx.aw0; rw [if_neg (fun h => hdx h.1)]⟩
          obtain ⟨cx, hcx⟩ : ∃ cx, Fx.clampX dx dy (r - L) = cx := ⟨_, rfl⟩
          obtain ⟨cy, hcy⟩ : ∃ cy, Fx.clampY dx dy (r - L) = cy := ⟨_, rfl⟩
          have hR := Fx.pst_yes HW.out EX.out EY.out EL.out rfl s t dx HA.out
          rw [hcx, hcy] at hR
          have HR : Fx.Hd (Fx.pushX x y r f g (k + 1) = Fx.addS s cx ∧ Fx.pushY x y r f g (k + 1) = Fx.addS t cy) := ⟨by
            show Fx.pstX x y r (Fx.pushX x y r f g k) (f k) (g k) = _ ∧ Fx.pstY x y r (Fx.pushY x y r f g k) (f k) (g k) = _
            rw [FK.out, GK.out, SX.out, SY.out]; exact hR⟩
          have ECX := Fx.Hd.mk hcx
          have ECY := Fx.Hd.mk hcy
          have ic1 : Fx.I64 cx := by rw [← hcx]; exact (Fx.clamp_i64 JA j2 jm).1
          have ic2 : Fx.I64 cy := by rw [← hcy]; exact (Fx.clamp_i64 JA j2 jm).2
          clear hcx hcy hR HA
          have HK6 := Fx.Hd.mk HK5.out.drew
          clear HK5
          go_region_with (first | (go_at_call 22; go_must (refine (heldC3 (clamp_as dx dy (r - L) cx cy _ JA j2 jm ECX ECY) HK6).mono ?_); clear HK6 e0 e1 e2 e3 e4 e5 e6 e7 e8 e9; rintro e w6 ⟨rfl, HK6, e0, e1, e2, e3, e4, e5, e6, e7, e8, e9⟩) | (go_at_call 27; go_must (refine (heldC3 (vadd_any s t cx cy _ s1 s2 ic1 ic2) HK6).mono ?_); clear HK6 e0 e1 e2 e3 e4 e5 e6 e7 e8 e9; rintro e w7 ⟨rfl, HK6, e0, e1, e2, e3, e4, e5, e6, e7, e8, e9⟩))
          all_goals
            go_wp2
            have HK7 := Fx.Hd.mk (HK6.out.set (.int .i64 (Fx.addS s cx)) (.int .i64 (Fx.addS t cy)))
            go_roundw
            case rel => exact ⟨k + 1, by omega, by go_num, ⟨by rw [HR.out.1, HR.out.2]; exact HK7.out⟩⟩
            case measure => simp [intOf]; omega

    · have hkn : k = n := by omega
      subst hkn
      have e0 := (HK.out).c0; have e1 := (HK.out).c1; have e2 := (HK.out).d0; have e3 := (HK.out).d1; have e4 := (HK.out).e0; have e5 := (HK.out).e1; have e6 := (HK.out).f0; have e7 := (HK.out).f1; have e8 := (HK.out).g0; have e9 := (HK.out).g1; 
      go_wp2
      refine bodyPost_ret (v := .agg #[.int .i64 (Fx.pushX x y r f g k), .int .i64 (Fx.pushY x y r f g k)]) (by simp [results, Try.results13, go_sem, e2, e3]) rfl ⟨rfl, ?_⟩
      exact (HK.out.hB.setCell (by simp) _).setCell (by simp) _
end Go.Proofs.Ytmihmgjbecedaaa
