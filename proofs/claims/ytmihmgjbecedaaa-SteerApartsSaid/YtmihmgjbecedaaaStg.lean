/- Layer 19: what pushes away, of the reference. -/
import Derived.Test.YtmihmgjbecedaaaSte
import Derived.Deep.DeepCutAuto
namespace Go.Proofs.Ytmihmgjbecedaaa
open Go.RowKit
set_option linter.unusedVariables false
structure Pr2 (w : World) (Q : Nat) (u v : Value) : Prop where
  q0 : w.cell? ⟨Q, 0, none⟩ = some u
  q1 : w.cell? ⟨Q, 1, none⟩ = some v
  z0 : w.frozen? ⟨Q, 0, none⟩ = false
  z1 : w.frozen? ⟨Q, 1, none⟩ = false
theorem Pr2.of2 {w : World} {Q : Nat} {u v : Value} (q0 : w.cell? ⟨Q, 0, none⟩ = some u) (q1 : w.cell? ⟨Q, 1, none⟩ = some v) (z0 : w.frozen? ⟨Q, 0, none⟩ = false) (z1 : w.frozen? ⟨Q, 1, none⟩ = false) : Pr2 w Q u v := ⟨q0, q1, z0, z1⟩
theorem Pr2.lit (w : World) (u v : Value) (t : TypeId) : Pr2 (w.alloc (.cells #[u, v] t)) w.heap.size u v := ⟨by go_simp, by go_simp, by go_simp, by go_simp⟩
theorem two_set {w : World} {Q : Nat} {u v : Value} (q0 : w.cell? ⟨Q, 0, none⟩ = some u) (q1 : w.cell? ⟨Q, 1, none⟩ = some v) (X Y : Value) :
    ((w.setCell ⟨Q, 0, none⟩ X).setCell ⟨Q, 1, none⟩ Y).cell? ⟨Q, 0, none⟩ = some X ∧ ((w.setCell ⟨Q, 0, none⟩ X).setCell ⟨Q, 1, none⟩ Y).cell? ⟨Q, 1, none⟩ = some Y := by
  refine ⟨?_, ?_⟩
  · rw [World.cell?_setCell_other _ _ _ _ (by simp)]; exact World.cell?_setCell_same _ _ _ q0
  · refine World.cell?_setCell_same _ _ _ (u := v) ?_
    rw [World.cell?_setCell_other _ _ _ _ (by simp)]; exact q1
theorem Pr2.set2 {w : World} {Q : Nat} {u v : Value} (h : Pr2 w Q u v) (X Y : Value) : Pr2 ((w.setCell ⟨Q, 0, none⟩ X).setCell ⟨Q, 1, none⟩ Y) Q X Y := by
  obtain ⟨a, b⟩ := two_set h.q0 h.q1 X Y
  exact ⟨a, b, by simpa using h.z0, by simpa using h.z1⟩
theorem heldC3L {P : Program} {F : FuncId} {args : Array Value} {w w0 : World} {r : Ending} {p0 p1 r0 r1 s0 s1 u v : Value} {b o o' : Nat} (h : Calls P F args w fun e w' => e = r ∧ Below w.heap.size w w') (hk : Fx.Hd (C3 w0 w p0 p1 r0 r1 s0 s1))
    (q0 : w.cell? ⟨b, o, none⟩ = some u) (q1 : w.cell? ⟨b, o', none⟩ = some v) :
    Calls P F args w fun e w' => e = r ∧ Fx.Hd (C3 w0 w' p0 p1 r0 r1 s0 s1) ∧ w'.cell? ⟨w0.heap.size, 0, none⟩ = some p0 ∧ w'.cell? ⟨w0.heap.size, 1, none⟩ = some p1 ∧ w'.cell? ⟨w0.heap.size + 1, 0, none⟩ = some r0 ∧ w'.cell? ⟨w0.heap.size + 1, 1, none⟩ = some r1 ∧
      w'.cell? ⟨w0.heap.size + 1 + 1, 0, none⟩ = some s0 ∧ w'.cell? ⟨w0.heap.size + 1 + 1, 1, none⟩ = some s1 ∧ w'.frozen? ⟨w0.heap.size + 1, 0, none⟩ = false ∧ w'.frozen? ⟨w0.heap.size + 1, 1, none⟩ = false ∧ w'.frozen? ⟨w0.heap.size + 1 + 1, 0, none⟩ = false ∧ w'.frozen? ⟨w0.heap.size + 1 + 1, 1, none⟩ = false ∧
      w'.cell? ⟨b, o, none⟩ = some u ∧ w'.cell? ⟨b, o', none⟩ = some v :=
  h.mono fun e w' ⟨h1, h2⟩ => by
    have k := hk.out.next h2
    have l := World.block_lt_of_cell? _ _ q0
    exact ⟨h1, ⟨k⟩, k.c0, k.c1, k.d0, k.d1, k.e0, k.e1, k.f0, k.f1, k.g0, k.g1, (h2.cell (p := ⟨b, o, none⟩) l).trans q0, (h2.cell (p := ⟨b, o', none⟩) l).trans q1⟩
set_option maxRecDepth 100000 in
set_option maxHeartbeats 3200000 in
theorem push_any (x y r : Int) (a : Option Addr) (n c B : Nat) (f g : Nat → Int) (w : World) (hx : Fx.I64 x) (hy : Fx.I64 y) (hr : Fx.I64 r) (hv : Vs w B a n f g) (hB : B ≤ w.heap.size) (hn : n ≤ 140737488355328) :
    Calls Try.prog 14 #[.agg #[.int .i64 x, .int .i64 y], .int .i64 r, .slice a n c] w fun e w' => e = .returned (.agg #[.int .i64 (Fx.pushX x y r f g n), .int .i64 (Fx.pushY x y r f g n)]) ∧ Below w.heap.size w w' := by
  have HV := Fx.Hd.mk hv
  clear hv
  go_enter Try.func14, Try.ntmps14
  have K0 := Fx.Hd.mk (C3.start w (.int .i64 x) (.int .i64 y) (.int .i64 0) (.int .i64 0) (.int .i64 0) (.int .i64 0) 24 24 24)
  go_wp2
  go_loopw [8] (fun i wr => ∃ k : Nat, k ≤ n ∧ i = .int .i64 k ∧ Fx.Hd (C3 w wr (.int .i64 x) (.int .i64 y) (.int .i64 0) (.int .i64 0) (.int .i64 (Fx.pushX x y r f g k)) (.int .i64 (Fx.pushY x y r f g k)))) (fun i _ => n - (intOf i).toNat)
  case atStart => exact ⟨0, by omega, rfl, K0⟩
  case round =>
    clear K0
    obtain ⟨k, hk, rfl, HK⟩ := hrel
    by_cases hlt : k < n
    · obtain ⟨b, off, rfl, hbl, hc⟩ := HV.out.rd (by omega)
      obtain ⟨i1, i2⟩ := HV.out.num k hlt
      have hc0 := (HK.out.hB.cell (p := ⟨b, off + k * 2, none⟩) (by simp; omega)).trans (hc k hlt).1
      have hc1 := (HK.out.hB.cell (p := ⟨b, off + k * 2 + 1, none⟩) (by simp; omega)).trans (hc k hlt).2
      clear hc
      have s1 := Fx.pushX_i64 x y r f g k
      have s2 := Fx.pushY_i64 x y r f g k
      obtain ⟨u, hu⟩ : ∃ u, f k = u := ⟨_, rfl⟩
      obtain ⟨v, hv⟩ : ∃ v, g k = v := ⟨_, rfl⟩
      obtain ⟨s, hs⟩ : ∃ s, Fx.pushX x y r f g k = s := ⟨_, rfl⟩
      obtain ⟨t, ht⟩ : ∃ t, Fx.pushY x y r f g k = t := ⟨_, rfl⟩
      rw [hu] at hc0 i1
      rw [hv] at hc1 i2
      rw [hs, ht] at HK
      rw [hs] at s1
      rw [ht] at s2
      have FK := Fx.Hd.mk hu
      have GK := Fx.Hd.mk hv
      have SX := Fx.Hd.mk hs
      have SY := Fx.Hd.mk ht
      clear hu hv hs ht
      have HK2 := Fx.Hd.mk HK.out.drew
      have e0 := (HK.out).c0; have e1 := (HK.out).c1; have e2 := (HK.out).d0; have e3 := (HK.out).d1; have e4 := (HK.out).e0; have e5 := (HK.out).e1; have e6 := (HK.out).f0; have e7 := (HK.out).f1; have e8 := (HK.out).g0; have e9 := (HK.out).g1; 
      have ji : (0 : Int) ≤ (k : Int) := by omega
      have jj : (k : Int) < (n : Int) := by omega
      cases hw : Fx.withinS x y u v r
      case false =>
        have HW := Fx.Hd.mk hw
        have HR := Fx.Hd.mk (Fx.pst_no hw s t)
        clear hw HK
        go_wp2
        go_region_held3 (fun w' => w'.cell? ⟨w.heap.size, 0, none⟩ = some (.int .i64 x) ∧ w'.cell? ⟨w.heap.size, 1, none⟩ = some (.int .i64 y) ∧ w'.cell? ⟨b, off + k * 2, none⟩ = some (.int .i64 u) ∧ w'.cell? ⟨b, off + k * 2 + 1, none⟩ = some (.int .i64 v) ∧ Fx.Hd (C3 w w' (.int .i64 x) (.int .i64 y) (.int .i64 0) (.int .i64 0) (.int .i64 s) (.int .i64 t))) (first | exact ⟨e0, e1, hc0, hc1, HK2⟩ | go_keep) (first | (go_at_call 21; go_must (refine (heldC3L (rwithin_as x y u v r false _ hx hy i1 i2 hr HW) HK2 hc0 hc1).mono ?_); clear e0 e1 e2 e3 e4 e5 e6 e7 e8 e9 hc0 hc1; rintro e w2 ⟨rfl, HK2', e0, e1, e2, e3, e4, e5, e6, e7, e8, e9, hc0, hc1⟩; replace HK2 := HK2'; clear HK2'))
        have HKB := HK2
        go_wp2
        go_roundw
        case rel => exact ⟨k + 1, by omega, by go_num, ⟨by
          rw [show Fx.pushX x y r f g (k + 1) = s from by show Fx.pstX x y r (Fx.pushX x y r f g k) (f k) (g k) = s; rw [FK.out, GK.out, SX.out]; exact HR.out.1, show Fx.pushY x y r f g (k + 1) = t from by show Fx.pstY x y r (Fx.pushY x y r f g k) (f k) (g k) = t; rw [FK.out, GK.out, SY.out]; exact HR.out.2]
          exact HKB.out⟩⟩
        case measure => simp [intOf]; omega
      case true =>
        have HW := Fx.Hd.mk hw
        have r0 := Fx.within_pos hw
        clear hw HK
        have j1' := Fx.sub_i64 x u
        have j2' := Fx.sub_i64 y v
        obtain ⟨dx, hdx⟩ : ∃ dx, Fx.subS x u = dx := ⟨_, rfl⟩
        obtain ⟨dy, hdy⟩ : ∃ dy, Fx.subS y v = dy := ⟨_, rfl⟩
        have j1 : Fx.I64 dx := by rw [← hdx]; exact j1'
        have j2 : Fx.I64 dy := by rw [← hdy]; exact j2'
        have EX := Fx.Hd.mk hdx
        have EY := Fx.Hd.mk hdy
        obtain ⟨l0, l1⟩ := Fx.lenS_bd j1 j2
        obtain ⟨L, hL⟩ : ∃ L, Fx.lenS dx dy = L := ⟨_, rfl⟩
        rw [hL] at l0 l1
        have EL := Fx.Hd.mk hL
        have r1 : r ≤ 9223372036854775807 := hr.2
        have jm : Fx.I64 (r - L) := by unfold Fx.I64; omega
        have em : IntKind.i64.wrap (r - L) = r - L := IntWalk.i64_in _ (by omega)
        clear hdx hdy hL j1' j2'
        go_wp2
        go_region_held3 (fun w' => w'.cell? ⟨w.heap.size, 0, none⟩ = some (.int .i64 x) ∧ w'.cell? ⟨w.heap.size, 1, none⟩ = some (.int .i64 y) ∧ w'.cell? ⟨b, off + k * 2, none⟩ = some (.int .i64 u) ∧ w'.cell? ⟨b, off + k * 2 + 1, none⟩ = some (.int .i64 v) ∧ Fx.Hd (C3 w w' (.int .i64 x) (.int .i64 y) (.int .i64 0) (.int .i64 0) (.int .i64 s) (.int .i64 t))) (first | exact ⟨e0, e1, hc0, hc1, HK2⟩ | go_keep) (first | (go_at_call 21; go_must (refine (heldC3L (rwithin_as x y u v r true _ hx hy i1 i2 hr HW) HK2 hc0 hc1).mono ?_); clear e0 e1 e2 e3 e4 e5 e6 e7 e8 e9 hc0 hc1; rintro e w2 ⟨rfl, HK2', e0, e1, e2, e3, e4, e5, e6, e7, e8, e9, hc0, hc1⟩; replace HK2 := HK2'; clear HK2'))
        have HKB := HK2
        go_upto_region 6 with (fail)
        go_cut [9] (fun s9 wx => ∃ Q : Nat, s9 = .pointer (some ⟨Q, 0, none⟩) ∧ w.heap.size + 1 + 1 < Q ∧ Fx.Hd (C3 w wx (.int .i64 x) (.int .i64 y) (.int .i64 0) (.int .i64 0) (.int .i64 s) (.int .i64 t)) ∧ Fx.Hd (Pr2 wx Q (.int .i64 dx) (.int .i64 dy)))
        case first =>
          have HKa := Fx.Hd.mk HKB.out.drew
          have HKb := Fx.Hd.mk (HKB.out.alloc (.cells #[.int .i64 0, .int .i64 0] 24)).drew
          have hsz5 := HKB.out.hs
          have z5 : (w2.alloc (.cells #[.int .i64 0, .int .i64 0] 24)).drew.cell? ⟨w2.heap.size, 0, none⟩ = some (.int .i64 0) := by go_simp
          have z6 : (w2.alloc (.cells #[.int .i64 0, .int .i64 0] 24)).drew.cell? ⟨w2.heap.size, 1, none⟩ = some (.int .i64 0) := by go_simp
          have z7 : (w2.alloc (.cells #[.int .i64 0, .int .i64 0] 24)).drew.frozen? ⟨w2.heap.size, 0, none⟩ = false := by go_simp
          have z8 : (w2.alloc (.cells #[.int .i64 0, .int .i64 0] 24)).drew.frozen? ⟨w2.heap.size, 1, none⟩ = false := by go_simp
          have hbw : b < w2.heap.size := World.block_lt_of_cell? _ _ hc0
          have y0 : (w2.alloc (.cells #[.int .i64 0, .int .i64 0] 24)).drew.cell? ⟨b, off + k * 2, none⟩ = some (.int .i64 u) := (Below.cell (p := ⟨b, off + k * 2, none⟩) ((Below.refl w2.heap.size w2).alloc (Nat.le_refl _) (.cells #[.int .i64 0, .int .i64 0] 24)) hbw).trans hc0
          have y1 : (w2.alloc (.cells #[.int .i64 0, .int .i64 0] 24)).drew.cell? ⟨b, off + k * 2 + 1, none⟩ = some (.int .i64 v) := (Below.cell (p := ⟨b, off + k * 2 + 1, none⟩) ((Below.refl w2.heap.size w2).alloc (Nat.le_refl _) (.cells #[.int .i64 0, .int .i64 0] 24)) hbw).trans hc1
          have y2 := HKb.out.c0
          have y3 := HKb.out.c1
          clear HK2 HKB
          go_region_with (first | (go_at_call 20; (first
            | ((with_reducible refine (heldC3P (rvsub_as x y u v dx dy _ hx hy i1 i2 EX EY) HKb z5 z6 z7 z8).mono ?_); clear e0 e1 e2 e3 e4 e5 e6 e7 e8 e9 hc0 hc1 y0 y1 y2 y3 z5 z6 z7 z8 HKa HKb; rintro e w3 ⟨rfl, HK3, e0, e1, e2, e3, e4, e5, e6, e7, e8, e9, z5, z6, z7, z8⟩; have HD := Fx.Hd.mk (Pr2.of2 z5 z6 z7 z8))
            | ((with_reducible refine (heldC3 (rvsub_as x y u v dx dy _ hx hy i1 i2 EX EY) HKa).mono ?_); clear e0 e1 e2 e3 e4 e5 e6 e7 e8 e9 hc0 hc1 y0 y1 y2 y3 z5 z6 z7 z8 HKa HKb; rintro e w3 ⟨rfl, HK3, e0, e1, e2, e3, e4, e5, e6, e7, e8, e9⟩))))
          all_goals
            go_wp2_with fail
            go_meet
            first
              | exact ⟨_, rfl, by first | assumption | exact HK3.out.hs, ⟨HK3.out.alloc _⟩, ⟨Pr2.lit _ _ _ _⟩⟩
              | exact ⟨_, rfl, hsz5, ⟨(HK3.out.other _ 0 _ hsz5).other _ 1 _ hsz5⟩, ⟨HD.out.set2 _ _⟩⟩
        case rest =>
          obtain ⟨Q, rfl, hsz3, HK4, HP⟩ := hcut
          clear HK2 HKB e0 e1 e2 e3 e4 e5 e6 e7 e8 e9 hc0 hc1
          have e0 := (HK4.out).c0; have e1 := (HK4.out).c1; have e2 := (HK4.out).d0; have e3 := (HK4.out).d1; have e4 := (HK4.out).e0; have e5 := (HK4.out).e1; have e6 := (HK4.out).f0; have e7 := (HK4.out).f1; have e8 := (HK4.out).g0; have e9 := (HK4.out).g1; 
          have q0 := HP.out.q0
          have q1 := HP.out.q1
          have z0 := HP.out.z0
          have z1 := HP.out.z1
          clear HP
          go_wp2_with (first | (go_at_call 19; go_must (refine (heldC3P (rlen_as dx dy L _ j1 j2 EL) HK4 q0 q1 z0 z1).mono ?_); clear HK4 e0 e1 e2 e3 e4 e5 e6 e7 e8 e9 q0 q1 z0 z1; rintro e w4 ⟨rfl, HK5, e0, e1, e2, e3, e4, e5, e6, e7, e8, e9, q0, q1, z0, z1⟩))
          · obtain rfl : dx = 0 := by assumption
            obtain rfl : dy = 0 := by have hh : (dy == 0) = true := by assumption
                                      simpa using hh
            have HKo := Fx.Hd.mk ((HK5.out.other Q 0 (.int .i64 65536) hsz3).other Q 1 (.int .i64 0) hsz3)
            clear e0 e1 e2 e3 e4 e5 e6 e7 e8 e9 HK5
            have e0 := (HKo.out).c0; have e1 := (HKo.out).c1; have e2 := (HKo.out).d0; have e3 := (HKo.out).d1; have e4 := (HKo.out).e0; have e5 := (HKo.out).e1; have e6 := (HKo.out).f0; have e7 := (HKo.out).f1; have e8 := (HKo.out).g0; have e9 := (HKo.out).g1; 
            have qs := two_set q0 q1 (.int .i64 65536) (.int .i64 0)
            obtain ⟨q0', q1'⟩ := qs
            clear q0 q1 z0 z1
            generalize (w4.setCell ⟨Q, 0, none⟩ (.int .i64 65536)).setCell ⟨Q, 1, none⟩ (.int .i64 0) = W5 at *
            have JA : Fx.I64 65536 := by unfold Fx.I64; omega
            have HA : Fx.Hd (Fx.aw0 0 0 = 65536) := ⟨by unfold Fx.aw0; rw [if_pos ⟨rfl, rfl⟩]⟩
            obtain ⟨cx, hcx⟩ : ∃ cx, Fx.clampX 65536 0 (r - L) = cx := ⟨_, rfl⟩
            obtain ⟨cy, hcy⟩ : ∃ cy, Fx.clampY 65536 0 (r - L) = cy := ⟨_, rfl⟩
            have hR := Fx.pst_yes HW.out EX.out EY.out EL.out rfl s t 65536 HA.out
            rw [hcx, hcy] at hR
            have HR : Fx.Hd (Fx.pushX x y r f g (k + 1) = Fx.addS s cx ∧ Fx.pushY x y r f g (k + 1) = Fx.addS t cy) := ⟨by
              show Fx.pstX x y r (Fx.pushX x y r f g k) (f k) (g k) = _ ∧ Fx.pstY x y r (Fx.pushY x y r f g k) (f k) (g k) = _
              rw [FK.out, GK.out, SX.out, SY.out]; exact hR⟩
            have ECX := Fx.Hd.mk hcx
            have ECY := Fx.Hd.mk hcy
            have ic1 : Fx.I64 cx := by rw [← hcx]; exact (Fx.clamp_i64 JA j2 jm).1
            have ic2 : Fx.I64 cy := by rw [← hcy]; exact (Fx.clamp_i64 JA j2 jm).2
            clear hcx hcy hR HA
            have HK6 := Fx.Hd.mk HKo.out.drew
            clear HKo
            go_region_with (first | (go_at_call 24; go_must (refine (heldC3 (rclamp_as 65536 0 (r - L) cx cy _ JA j2 jm ECX ECY) HK6).mono ?_); clear HK6 e0 e1 e2 e3 e4 e5 e6 e7 e8 e9; rintro e w6 ⟨rfl, HK6, e0, e1, e2, e3, e4, e5, e6, e7, e8, e9⟩) | (go_at_call 28; go_must (refine (heldC3 (rvadd_any s t cx cy _ s1 s2 ic1 ic2) HK6).mono ?_); clear HK6 e0 e1 e2 e3 e4 e5 e6 e7 e8 e9; rintro e w7 ⟨rfl, HK6, e0, e1, e2, e3, e4, e5, e6, e7, e8, e9⟩))
            all_goals
              go_wp2
              have HK7 := Fx.Hd.mk (HK6.out.set (.int .i64 (Fx.addS s cx)) (.int .i64 (Fx.addS t cy)))
              go_roundw
              case rel => exact ⟨k + 1, by omega, by go_num, ⟨by rw [HR.out.1, HR.out.2]; exact HK7.out⟩⟩
              case measure => simp [intOf]; omega
          · obtain rfl : dx = 0 := by assumption
            have hdy : ¬ dy = 0 := by have hh : (dy == 0) = false := by assumption
                                      simpa using hh
            have JA : Fx.I64 0 := by unfold Fx.I64; omega
            have HA : Fx.Hd (Fx.aw0 0 dy = 0) := ⟨by unfold Fx.aw0; rw [if_neg (fun h => hdy h.2)]⟩
            obtain ⟨cx, hcx⟩ : ∃ cx, Fx.clampX 0 dy (r - L) = cx := ⟨_, rfl⟩
            obtain ⟨cy, hcy⟩ : ∃ cy, Fx.clampY 0 dy (r - L) = cy := ⟨_, rfl⟩
            have hR := Fx.pst_yes HW.out EX.out EY.out EL.out rfl s t 0 HA.out
            rw [hcx, hcy] at hR
            have HR : Fx.Hd (Fx.pushX x y r f g (k + 1) = Fx.addS s cx ∧ Fx.pushY x y r f g (k + 1) = Fx.addS t cy) := ⟨by
              show Fx.pstX x y r (Fx.pushX x y r f g k) (f k) (g k) = _ ∧ Fx.pstY x y r (Fx.pushY x y r f g k) (f k) (g k) = _
              rw [FK.out, GK.out, SX.out, SY.out]; exact hR⟩
            have ECX := Fx.Hd.mk hcx
            have ECY := Fx.Hd.mk hcy
            have ic1 : Fx.I64 cx := by rw [← hcx]; exact (Fx.clamp_i64 JA j2 jm).1
            have ic2 : Fx.I64 cy := by rw [← hcy]; exact (Fx.clamp_i64 JA j2 jm).2
            clear hcx hcy hR HA
            have HK6 := Fx.Hd.mk HK5.out.drew
            clear HK5
            go_region_with (first | (go_at_call 24; go_must (refine (heldC3 (rclamp_as 0 dy (r - L) cx cy _ JA j2 jm ECX ECY) HK6).mono ?_); clear HK6 e0 e1 e2 e3 e4 e5 e6 e7 e8 e9; rintro e w6 ⟨rfl, HK6, e0, e1, e2, e3, e4, e5, e6, e7, e8, e9⟩) | (go_at_call 28; go_must (refine (heldC3 (rvadd_any s t cx cy _ s1 s2 ic1 ic2) HK6).mono ?_); clear HK6 e0 e1 e2 e3 e4 e5 e6 e7 e8 e9; rintro e w7 ⟨rfl, HK6, e0, e1, e2, e3, e4, e5, e6, e7, e8, e9⟩))
            all_goals
              go_wp2
              have HK7 := Fx.Hd.mk (HK6.out.set (.int .i64 (Fx.addS s cx)) (.int .i64 (Fx.addS t cy)))
              go_roundw
              case rel => exact ⟨k + 1, by omega, by go_num, ⟨by rw [HR.out.1, HR.out.2]; exact HK7.out⟩⟩
              case measure => simp [intOf]; omega
          · have hdx : ¬ dx = 0 := by assumption
            have JA : Fx.I64 dx := j1
            have HA : Fx.Hd (Fx.aw0 dx dy = dx) := ⟨by unfold Fx.aw0; rw [if_neg (fun h => hdx h.1)]⟩
            obtain ⟨cx, hcx⟩ : ∃ cx, Fx.clampX dx dy (r - L) = cx := ⟨_, rfl⟩
            obtain ⟨cy, hcy⟩ : ∃ cy, Fx.clampY dx dy (r - L) = cy := ⟨_, rfl⟩
            have hR := Fx.pst_yes HW.out EX.out EY.out EL.out rfl s t dx HA.out
            rw [hcx, hcy] at hR
            have HR : Fx.Hd (Fx.pushX x y r f g (k + 1) = Fx.addS s cx ∧ Fx.pushY x y r f g (k + 1) = Fx.addS t cy) := ⟨by
              show Fx.pstX x y r (Fx.pushX x y r f g k) (f k) (g k) = _ ∧ Fx.pstY x y r (Fx.pushY x y r f g k) (f k) (g k) = _
              rw [FK.out, GK.out, SX.out, SY.out]; exact hR⟩
            have ECX := Fx.Hd.mk hcx
            have ECY := Fx.Hd.mk hcy
            have ic1 : Fx.I64 cx := by rw [← hcx]; exact (Fx.clamp_i64 JA j2 jm).1
            have ic2 : Fx.I64 cy := by rw [← hcy]; exact (Fx.clamp_i64 JA j2 jm).2
            clear hcx hcy hR HA
            have HK6 := Fx.Hd.mk HK5.out.drew
            clear HK5
            go_region_with (first | (go_at_call 24; go_must (refine (heldC3 (rclamp_as dx dy (r - L) cx cy _ JA j2 jm ECX ECY) HK6).mono ?_); clear HK6 e0 e1 e2 e3 e4 e5 e6 e7 e8 e9; rintro e w6 ⟨rfl, HK6, e0, e1, e2, e3, e4, e5, e6, e7, e8, e9⟩) | (go_at_call 28; go_must (refine (heldC3 (rvadd_any s t cx cy _ s1 s2 ic1 ic2) HK6).mono ?_); clear HK6 e0 e1 e2 e3 e4 e5 e6 e7 e8 e9; rintro e w7 ⟨rfl, HK6, e0, e1, e2, e3, e4, e5, e6, e7, e8, e9⟩))
            all_goals
              go_wp2
              have HK7 := Fx.Hd.mk (HK6.out.set (.int .i64 (Fx.addS s cx)) (.int .i64 (Fx.addS t cy)))
              go_roundw
              case rel => exact ⟨k + 1, by omega, by go_num, ⟨by rw [HR.out.1, HR.out.2]; exact HK7.out⟩⟩
              case measure => simp [intOf]; omega
    · have hkn : k = n := by omega
      subst hkn
      have e0 := (HK.out).c0; have e1 := (HK.out).c1; have e2 := (HK.out).d0; have e3 := (HK.out).d1; have e4 := (HK.out).e0; have e5 := (HK.out).e1; have e6 := (HK.out).f0; have e7 := (HK.out).f1; have e8 := (HK.out).g0; have e9 := (HK.out).g1; 
      go_wp2
      refine bodyPost_ret (v := .agg #[.int .i64 (Fx.pushX x y r f g k), .int .i64 (Fx.pushY x y r f g k)]) (by simp [results, Try.results14, go_sem, e2, e3]) rfl ⟨rfl, ?_⟩
      exact (HK.out.hB.setCell (by simp) _).setCell (by simp) _
end Go.Proofs.Ytmihmgjbecedaaa
