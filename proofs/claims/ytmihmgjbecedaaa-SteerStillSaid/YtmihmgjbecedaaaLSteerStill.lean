/- For every list, SteerStill answers true and leaves its argument as it was: who is there stays there; by no speed nobody goes; between two that stand alike on both sides nothing pushes; who is on the spot is pushed one way. No condition. -/
import Derived.Test.YtmihmgjbecedaaaAsk19
import Derived.Test.YtmihmgjbecedaaaSti
import Derived.Deep.QuietTactic
import Derived.BigQuiet
import Derived.Deep.RegionWith
import Derived.Deep.RegionHeld3
namespace Go.Proofs.Ytmihmgjbecedaaa
open Go.ChangeShapes Go.WideShapes Go.ChangeAt Go.RowKit Go.Deep
set_option linter.unusedVariables false
set_option maxRecDepth 100000 in
set_option maxHeartbeats 6400000 in
theorem steerStill_walk (a : Option Addr) (len cap : Nat) (w : World) (rows : Asks19 w a len cap) :
    Calls Try.prog 7 #[.slice a len cap] w fun e w' => e = .returned (.bool true) ∧ Below w.heap.size w w' := by
  obtain ⟨hl, hm, hall⟩ := rows
  have HALL := Fx.Hd.mk hall
  clear hall
  go_enter Try.func7, Try.ntmps7
  go_wp2
  go_loopw [3] (fun i wr => ∃ (k : Nat), i = .int .i64 k ∧ k ≤ len ∧ k ≤ 20 ∧ Fx.Hd (Below w.heap.size w wr)) (fun i _ => 20 - (intOf i).toNat)
  case atStart => exact ⟨0, rfl, by omega, by omega, ⟨Below.refl _ _⟩⟩
  case round =>
    obtain ⟨k, rfl, hk, hk2, HB⟩ := hrel
    by_cases hlt : k < len ∧ k < 20
    · obtain ⟨g1, g2⟩ := hlt
      obtain ⟨b, off, x, y, u, v, z, ab, nb, cb, f, g, rfl, hbl, hx, hy, hu, hv, hz, hnb, hcb, hvs, c0, c1, c2, c3, c4, c5⟩ := HALL.out k g1
      have d0 := (HB.out.cell (p := ⟨b, off + k * 6, none⟩) hbl).trans c0
      have d1 := (HB.out.cell (p := ⟨b, off + k * 6 + 1, none⟩) hbl).trans c1
      have d2 := (HB.out.cell (p := ⟨b, off + k * 6 + 2, none⟩) hbl).trans c2
      have d3 := (HB.out.cell (p := ⟨b, off + k * 6 + 3, none⟩) hbl).trans c3
      have d4 := (HB.out.cell (p := ⟨b, off + k * 6 + 4, none⟩) hbl).trans c4
      have d5 := (HB.out.cell (p := ⟨b, off + k * 6 + 5, none⟩) hbl).trans c5
      have hbw : b < wr.heap.size := Nat.lt_of_lt_of_le hbl HB.out.size
      have HVS := Fx.Hd.mk hvs
      clear c0 c1 c2 c3 c4 c5 hvs
      have eb : Below w.heap.size w wr := HB.out
      have rX : Fx.Small (x / 32) := by unfold Fx.Small; unfold Fx.I64 at hx; omega
      have rY : Fx.Small (y / 32) := by unfold Fx.Small; unfold Fx.I64 at hy; omega
      have rd : Fx.Tiny (u.tmod 65536) := Fx.tmod_bd u 65536 (by omega)
      have re : Fx.Tiny (v.tmod 65536) := Fx.tmod_bd v 65536 (by omega)
      obtain ⟨X, hX⟩ : ∃ X, x / 32 = X := ⟨_, rfl⟩
      obtain ⟨Y, hY⟩ : ∃ Y, y / 32 = Y := ⟨_, rfl⟩
      obtain ⟨D, hD⟩ : ∃ D, u.tmod 65536 = D := ⟨_, rfl⟩
      obtain ⟨E, hE⟩ : ∃ E, v.tmod 65536 = E := ⟨_, rfl⟩
      rw [hX] at rX
      rw [hY] at rY
      rw [hD] at rd
      rw [hE] at re
      have EX := Fx.Hd.mk hX
      have EY := Fx.Hd.mk hY
      clear hX hY
      have j1 : (0 : Int) ≤ (k : Int) := by omega
      have j2 : (k : Int) < (len : Int) := by omega
      go_wp2_with (go_at_call 18; (with_reducible refine (small_as x y X Y _ hx hy EX EY).mono ?_); rintro e w2 ⟨rfl, hb2⟩; have d2' := (hb2.cell (p := ⟨b, off + k * 6 + 2, none⟩) hbw).trans d2; have d3' := (hb2.cell (p := ⟨b, off + k * 6 + 3, none⟩) hbw).trans d3; have d4' := (hb2.cell (p := ⟨b, off + k * 6 + 4, none⟩) hbw).trans d4; have HB2 := Fx.Hd.mk (eb.trans (hb2.mono eb.size)); have hbw2 : b < w2.heap.size := Nat.lt_of_lt_of_le hbw hb2.size; clear hb2 d0 d1 d2 d3 d4 d5 eb)
      have P0 : (w2.alloc (.cells #[.int .i64 X, .int .i64 Y] 24)).cell? ⟨w2.heap.size, 0, none⟩ = some (.int .i64 X) := by go_simp
      have P1 : (w2.alloc (.cells #[.int .i64 X, .int .i64 Y] 24)).cell? ⟨w2.heap.size, 1, none⟩ = some (.int .i64 Y) := by go_simp
      have HB3 := Fx.Hd.mk (HB2.out.alloc HB2.out.size (.cells #[.int .i64 X, .int .i64 Y] 24))
      have bel3 : Below w2.heap.size w2 (w2.alloc (.cells #[.int .i64 X, .int .i64 Y] 24)) := (Below.refl _ _).alloc (Nat.le_refl _) _
      have q2 := (bel3.cell (p := ⟨b, off + k * 6 + 2, none⟩) hbw2).trans d2'
      have q3 := (bel3.cell (p := ⟨b, off + k * 6 + 3, none⟩) hbw2).trans d3'
      have q4 := (bel3.cell (p := ⟨b, off + k * 6 + 4, none⟩) hbw2).trans d4'
      clear bel3 d2' d3' d4' HB2 hbw2 hbw
      generalize w2.alloc (.cells #[.int .i64 X, .int .i64 Y] 24) = W3 at *
      generalize w2.heap.size = P at *
      have hP : P < W3.heap.size := World.block_lt_of_cell? _ _ P0
      have hbw3 : b < W3.heap.size := World.block_lt_of_cell? _ _ q2
      have HA : Fx.Hd (∀ o : Obj, ∀ bb oo, bb < W3.heap.size → (W3.alloc o).cell? ⟨bb, oo, none⟩ = W3.cell? ⟨bb, oo, none⟩) := ⟨fun o bb oo h => (((Below.refl W3.heap.size W3).alloc (Nat.le_refl _) o).cell (p := ⟨bb, oo, none⟩) h)⟩
      go_region_held3 (fun w' => w'.cell? ⟨P, 0, none⟩ = some (.int .i64 X) ∧ w'.cell? ⟨P, 1, none⟩ = some (.int .i64 Y) ∧ w'.cell? ⟨b, off + k * 6 + 2, none⟩ = some (.int .i64 u) ∧ w'.cell? ⟨b, off + k * 6 + 3, none⟩ = some (.int .i64 v) ∧ w'.cell? ⟨b, off + k * 6 + 4, none⟩ = some (.int .i64 z)) (first | exact ⟨P0, P1, q2, q3, q4⟩ | exact ⟨(HA.out _ _ _ hP).trans P0, (HA.out _ _ _ hP).trans P1, (HA.out _ _ _ hbw3).trans q2, (HA.out _ _ _ hbw3).trans q3, (HA.out _ _ _ hbw3).trans q4⟩ | go_keep) (fail)
      have hH := ‹_ ∧ _ ∧ _ ∧ _ ∧ _›
      go_wp2
      have P0' : (W3.alloc (.cells #[.int .i64 D, .int .i64 E] 24)).drew.cell? ⟨P, 0, none⟩ = some (.int .i64 X) := (HA.out _ _ _ hP).trans P0
      have P1' : (W3.alloc (.cells #[.int .i64 D, .int .i64 E] 24)).drew.cell? ⟨P, 1, none⟩ = some (.int .i64 Y) := (HA.out _ _ _ hP).trans P1
      have Q0 : (W3.alloc (.cells #[.int .i64 D, .int .i64 E] 24)).drew.cell? ⟨W3.heap.size, 0, none⟩ = some (.int .i64 D) := by go_simp
      have Q1 : (W3.alloc (.cells #[.int .i64 D, .int .i64 E] 24)).drew.cell? ⟨W3.heap.size, 1, none⟩ = some (.int .i64 E) := by go_simp
      have q4' : (W3.alloc (.cells #[.int .i64 D, .int .i64 E] 24)).drew.cell? ⟨b, off + k * 6 + 4, none⟩ = some (.int .i64 z) := (HA.out _ _ _ hbw3).trans q4
      have HB4 : Fx.Hd (Below w.heap.size w (W3.alloc (.cells #[.int .i64 D, .int .i64 E] 24)).drew) := ⟨(HB3.out.alloc HB3.out.size _).drew⟩
      clear hH HA HB3 P0 P1 q2 q3 q4 hP hbw3
      generalize (W3.alloc (.cells #[.int .i64 D, .int .i64 E] 24)).drew = W4 at *
      generalize W3.heap.size = Q at *
      have hP : P < W4.heap.size := World.block_lt_of_cell? _ _ P0'
      have hQ : Q < W4.heap.size := World.block_lt_of_cell? _ _ Q0
      have hb4 : b < W4.heap.size := World.block_lt_of_cell? _ _ q4'
      have HA : Fx.Hd (∀ o : Obj, ∀ bb oo, bb < W4.heap.size → (W4.alloc o).cell? ⟨bb, oo, none⟩ = W4.cell? ⟨bb, oo, none⟩) := ⟨fun o bb oo h => (((Below.refl W4.heap.size W4).alloc (Nat.le_refl _) o).cell (p := ⟨bb, oo, none⟩) h)⟩
      have HA2 : Fx.Hd (∀ o o2 : Obj, ∀ bb oo, bb < W4.heap.size → ((W4.alloc o).alloc o2).cell? ⟨bb, oo, none⟩ = W4.cell? ⟨bb, oo, none⟩) := ⟨fun o o2 bb oo h => ((((Below.refl W4.heap.size W4).alloc (Nat.le_refl _) o).alloc (by simp) o2).cell (p := ⟨bb, oo, none⟩) h)⟩
      obtain ⟨XD, hXD⟩ : ∃ XD, X + D = XD := ⟨_, rfl⟩
      obtain ⟨YE, hYE⟩ : ∃ YE, Y + E = YE := ⟨_, rfl⟩
      obtain ⟨XM, hXM⟩ : ∃ XM, X - D = XM := ⟨_, rfl⟩
      obtain ⟨YM, hYM⟩ : ∃ YM, Y - E = YM := ⟨_, rfl⟩
      have i1 : Fx.I64 X := Fx.small_i64 rX
      have i2 : Fx.I64 Y := Fx.small_i64 rY
      have i3 : Fx.I64 XD := hXD ▸ (Fx.sum_i64 rX rd).1
      have i4 : Fx.I64 YE := hYE ▸ (Fx.sum_i64 rY re).1
      have i5 : Fx.I64 XM := hXM ▸ (Fx.sum_i64 rX rd).2
      have i6 : Fx.I64 YM := hYM ▸ (Fx.sum_i64 rY re).2
      have m1 : IntKind.i64.wrap XD = XD := IntWalk.i64_in _ i3
      have m2 : IntKind.i64.wrap YE = YE := IntWalk.i64_in _ i4
      have m3 : IntKind.i64.wrap XM = XM := IntWalk.i64_in _ i5
      have m4 : IntKind.i64.wrap YM = YM := IntWalk.i64_in _ i6
      have TX1 : Fx.Hd (Fx.towX X Y X Y z = 0) := ⟨(Fx.tow_same i1 i2).1⟩
      have TY1 : Fx.Hd (Fx.towY X Y X Y z = 0) := ⟨(Fx.tow_same i1 i2).2⟩
      have TX2 : Fx.Hd (Fx.towX X Y XD YE 0 = 0) := ⟨by rw [← hXD, ← hYE]; exact (Fx.tow_none rX rY rd re (by omega)).1⟩
      have TY2 : Fx.Hd (Fx.towY X Y XD YE 0 = 0) := ⟨by rw [← hXD, ← hYE]; exact (Fx.tow_none rX rY rd re (by omega)).2⟩
      have TX3 : Fx.Hd (Fx.towX X Y XD YE (-1) = 0) := ⟨by rw [← hXD, ← hYE]; exact (Fx.tow_none rX rY rd re (by omega)).1⟩
      have TY3 : Fx.Hd (Fx.towY X Y XD YE (-1) = 0) := ⟨by rw [← hXD, ← hYE]; exact (Fx.tow_none rX rY rd re (by omega)).2⟩
      have SX : Fx.Hd (Fx.pushX X Y 262144 (fun _ => X) (fun _ => Y) 1 = 65536) := ⟨(Fx.push_spot i1 i2 _ _ rfl rfl).1⟩
      have SY : Fx.Hd (Fx.pushY X Y 262144 (fun _ => X) (fun _ => Y) 1 = 0) := ⟨(Fx.push_spot i1 i2 _ _ rfl rfl).2⟩
      have iR : Fx.I64 262144 := by unfold Fx.I64; omega
      have iz : Fx.I64 0 := by unfold Fx.I64; omega
      have im : Fx.I64 (-1) := by unfold Fx.I64; omega
      go_region_held3 (fun w' => w'.cell? ⟨P, 0, none⟩ = some (.int .i64 X) ∧ w'.cell? ⟨P, 1, none⟩ = some (.int .i64 Y) ∧ w'.cell? ⟨Q, 0, none⟩ = some (.int .i64 D) ∧ w'.cell? ⟨Q, 1, none⟩ = some (.int .i64 E) ∧ w'.cell? ⟨b, off + k * 6 + 4, none⟩ = some (.int .i64 z)) (first | exact ⟨P0', P1', Q0, Q1, q4'⟩ | exact ⟨(HA.out _ _ _ hP).trans P0', (HA.out _ _ _ hP).trans P1', (HA.out _ _ _ hQ).trans Q0, (HA.out _ _ _ hQ).trans Q1, (HA.out _ _ _ hb4).trans q4'⟩ | exact ⟨(HA2.out _ _ _ _ hP).trans P0', (HA2.out _ _ _ _ hP).trans P1', (HA2.out _ _ _ _ hQ).trans Q0, (HA2.out _ _ _ _ hQ).trans Q1, (HA2.out _ _ _ _ hb4).trans q4'⟩ | go_keep) (fail)
      · go_wp2
        have p0 : ((W4.alloc (.cells #[.int .i64 XD, .int .i64 YE] 24)).alloc (.cells #[.int .i64 XM, .int .i64 YM] 24)).drew.cell? ⟨P, 0, none⟩ = some (.int .i64 X) := (HA2.out _ _ _ _ hP).trans P0'
        have p1 : ((W4.alloc (.cells #[.int .i64 XD, .int .i64 YE] 24)).alloc (.cells #[.int .i64 XM, .int .i64 YM] 24)).drew.cell? ⟨P, 1, none⟩ = some (.int .i64 Y) := (HA2.out _ _ _ _ hP).trans P1'
        have c0 : ((W4.alloc (.cells #[.int .i64 XD, .int .i64 YE] 24)).alloc (.cells #[.int .i64 XM, .int .i64 YM] 24)).drew.cell? ⟨Q, 0, none⟩ = some (.int .i64 D) := (HA2.out _ _ _ _ hQ).trans Q0
        have c1 : ((W4.alloc (.cells #[.int .i64 XD, .int .i64 YE] 24)).alloc (.cells #[.int .i64 XM, .int .i64 YM] 24)).drew.cell? ⟨Q, 1, none⟩ = some (.int .i64 E) := (HA2.out _ _ _ _ hQ).trans Q1
        have b4 : ((W4.alloc (.cells #[.int .i64 XD, .int .i64 YE] 24)).alloc (.cells #[.int .i64 XM, .int .i64 YM] 24)).drew.cell? ⟨b, off + k * 6 + 4, none⟩ = some (.int .i64 z) := (HA2.out _ _ _ _ hb4).trans q4'
        have a0 : ((W4.alloc (.cells #[.int .i64 XD, .int .i64 YE] 24)).alloc (.cells #[.int .i64 XM, .int .i64 YM] 24)).drew.cell? ⟨W4.heap.size, 0, none⟩ = some (.int .i64 XD) := by go_simp
        have a1 : ((W4.alloc (.cells #[.int .i64 XD, .int .i64 YE] 24)).alloc (.cells #[.int .i64 XM, .int .i64 YM] 24)).drew.cell? ⟨W4.heap.size, 1, none⟩ = some (.int .i64 YE) := by go_simp
        have f0 : ((W4.alloc (.cells #[.int .i64 XD, .int .i64 YE] 24)).alloc (.cells #[.int .i64 XM, .int .i64 YM] 24)).drew.cell? ⟨W4.heap.size + 1, 0, none⟩ = some (.int .i64 XM) := by go_simp
        have f1 : ((W4.alloc (.cells #[.int .i64 XD, .int .i64 YE] 24)).alloc (.cells #[.int .i64 XM, .int .i64 YM] 24)).drew.cell? ⟨W4.heap.size + 1, 1, none⟩ = some (.int .i64 YM) := by go_simp
        have bb1 := HB4.out.alloc HB4.out.size (.cells #[.int .i64 XD, .int .i64 YE] 24)
        have bb2 := bb1.alloc bb1.size (.cells #[.int .i64 XM, .int .i64 YM] 24)
        have HB5 : Fx.Hd (Below w.heap.size w ((W4.alloc (.cells #[.int .i64 XD, .int .i64 YE] 24)).alloc (.cells #[.int .i64 XM, .int .i64 YM] 24)).drew) := ⟨bb2.drew⟩
        clear HA HA2 hP hQ hb4 P0' P1' Q0 Q1 q4' HB4 bb1 bb2
        generalize ((W4.alloc (.cells #[.int .i64 XD, .int .i64 YE] 24)).alloc (.cells #[.int .i64 XM, .int .i64 YM] 24)).drew = W5 at *
        generalize W4.heap.size + 1 = B at *
        generalize W4.heap.size = A at *
        have hb5 : b < W5.heap.size := World.block_lt_of_cell? _ _ b4
        have hP5 : P < W5.heap.size := World.block_lt_of_cell? _ _ p0
        have hQ5 : Q < W5.heap.size := World.block_lt_of_cell? _ _ c0
        have hA5 : A < W5.heap.size := World.block_lt_of_cell? _ _ a0
        have hF5 : B < W5.heap.size := World.block_lt_of_cell? _ _ f0
        have HD5 : Fx.Hd (∀ V, Below W5.heap.size W5 V → V.cell? ⟨P, 0, none⟩ = some (.int .i64 X) ∧ V.cell? ⟨P, 1, none⟩ = some (.int .i64 Y) ∧ V.cell? ⟨Q, 0, none⟩ = some (.int .i64 D) ∧ V.cell? ⟨Q, 1, none⟩ = some (.int .i64 E) ∧ V.cell? ⟨A, 0, none⟩ = some (.int .i64 XD) ∧ V.cell? ⟨A, 1, none⟩ = some (.int .i64 YE) ∧ V.cell? ⟨B, 0, none⟩ = some (.int .i64 XM) ∧ V.cell? ⟨B, 1, none⟩ = some (.int .i64 YM)) := ⟨fun V hV => ⟨(hV.cell (p := ⟨P, 0, none⟩) hP5).trans p0, (hV.cell (p := ⟨P, 1, none⟩) hP5).trans p1, (hV.cell (p := ⟨Q, 0, none⟩) hQ5).trans c0, (hV.cell (p := ⟨Q, 1, none⟩) hQ5).trans c1, (hV.cell (p := ⟨A, 0, none⟩) hA5).trans a0, (hV.cell (p := ⟨A, 1, none⟩) hA5).trans a1, (hV.cell (p := ⟨B, 0, none⟩) hF5).trans f0, (hV.cell (p := ⟨B, 1, none⟩) hF5).trans f1⟩⟩
        clear c0 c1 f0 f1
        have eb : Below W5.heap.size W5 W5 := Below.refl _ _
        go_region_held3 (fun w' => w'.cell? ⟨P, 0, none⟩ = some (.int .i64 X) ∧ w'.cell? ⟨P, 1, none⟩ = some (.int .i64 Y) ∧ w'.cell? ⟨A, 0, none⟩ = some (.int .i64 XD) ∧ w'.cell? ⟨A, 1, none⟩ = some (.int .i64 YE) ∧ w'.cell? ⟨b, off + k * 6 + 4, none⟩ = some (.int .i64 z) ∧ Below W5.heap.size W5 w') (first | exact ⟨e0, e1, e2, e3, e4, eb⟩ | exact ⟨e0, e1, e2, e3, e4, Below.drew eb⟩ | exact ⟨p0, p1, a0, a1, b4, Below.drew eb⟩ | exact ⟨p0, p1, a0, a1, b4, eb⟩ | go_keep)
          (first | (go_at_call 8; (with_reducible refine (hold5 (B := W5.heap.size) (w0 := W5) (b1 := P) (o1 := 0) (x1 := .int .i64 X) (b2 := P) (o2 := 1) (x2 := .int .i64 Y) (b3 := A) (o3 := 0) (x3 := .int .i64 XD) (b4 := A) (o4 := 1) (x4 := .int .i64 YE) (b5 := b) (o5 := off + k * 6 + 4) (x5 := .int .i64 z) (toward_as X Y X Y z 0 0 _ i1 i2 i1 i2 hz TX1 TY1) ?_ ?_ ?_ ?_ ?_ ?_ ?_).mono ?_); (first | assumption | exact eb.drew); (exact (show W5.heap.size ≤ _ from (by first | exact Below.size eb | exact Below.size (Below.drew eb)))); (first | assumption | exact e0 | exact p0); (first | assumption | exact e1 | exact p1); (first | assumption | exact e2 | exact a0); (first | assumption | exact e3 | exact a1); (first | assumption | exact e4 | exact b4); rintro e w' ⟨rfl, e0, e1, e2, e3, e4, eb⟩) | (go_at_call 8; (with_reducible refine (hold5 (B := W5.heap.size) (w0 := W5) (b1 := P) (o1 := 0) (x1 := .int .i64 X) (b2 := P) (o2 := 1) (x2 := .int .i64 Y) (b3 := A) (o3 := 0) (x3 := .int .i64 XD) (b4 := A) (o4 := 1) (x4 := .int .i64 YE) (b5 := b) (o5 := off + k * 6 + 4) (x5 := .int .i64 z) (toward_as X Y XD YE 0 0 0 _ i1 i2 i3 i4 iz TX2 TY2) ?_ ?_ ?_ ?_ ?_ ?_ ?_).mono ?_); (first | assumption | exact eb.drew); (exact (show W5.heap.size ≤ _ from (by first | exact Below.size eb | exact Below.size (Below.drew eb)))); (first | assumption | exact e0 | exact p0); (first | assumption | exact e1 | exact p1); (first | assumption | exact e2 | exact a0); (first | assumption | exact e3 | exact a1); (first | assumption | exact e4 | exact b4); rintro e w' ⟨rfl, e0, e1, e2, e3, e4, eb⟩) | (go_at_call 8; (with_reducible refine (hold5 (B := W5.heap.size) (w0 := W5) (b1 := P) (o1 := 0) (x1 := .int .i64 X) (b2 := P) (o2 := 1) (x2 := .int .i64 Y) (b3 := A) (o3 := 0) (x3 := .int .i64 XD) (b4 := A) (o4 := 1) (x4 := .int .i64 YE) (b5 := b) (o5 := off + k * 6 + 4) (x5 := .int .i64 z) (toward_as X Y XD YE (-1) 0 0 _ i1 i2 i3 i4 im TX3 TY3) ?_ ?_ ?_ ?_ ?_ ?_ ?_).mono ?_); (first | assumption | exact eb.drew); (exact (show W5.heap.size ≤ _ from (by first | exact Below.size eb | exact Below.size (Below.drew eb)))); (first | assumption | exact e0 | exact p0); (first | assumption | exact e1 | exact p1); (first | assumption | exact e2 | exact a0); (first | assumption | exact e3 | exact a1); (first | assumption | exact e4 | exact b4); rintro e w' ⟨rfl, e0, e1, e2, e3, e4, eb⟩))
        have eb7 := eb
        obtain ⟨P0, P1, Q0, Q1, A0, A1, F0, F1⟩ := HD5.out _ eb7
        have HB7 := Fx.Hd.mk (HB5.out.trans (eb7.mono HB5.out.size))
        clear p0 p1 a0 a1 b4 e0 e1 e2 e3 e4 HB5
        have hP7 : P < w'.heap.size := World.block_lt_of_cell? _ _ P0
        have HUP0 : Fx.Hd (∀ V, Below w'.heap.size w' V → ∀ V', Below V.heap.size V V' → Below w.heap.size w V') := ⟨fun V hV V' hV' => (HB7.out.trans (hV.mono HB7.out.size)).trans (hV'.mono ((HB7.out.trans (hV.mono HB7.out.size)).size))⟩
        clear eb7 eb HD5 HB7
        by_cases hDE : D = 0 ∧ E = 0
        · obtain ⟨rfl, rfl⟩ := hDE
          have HUP := Fx.Hd.mk (HUP0.out _ (Below.refl _ _))
          go_wp2_with (go_at_call 13; (have TT := apart_as X Y 262144 65536 0 (some ⟨w'.heap.size, 0, none⟩) 1 1 (w'.heap.size + 1) (fun _ => X) (fun _ => Y) (w'.alloc (.cells #[.int .i64 X, .int .i64 Y] 24)) i1 i2 iR (vs_lit1 w' X Y 24 i1 i2) (by simp) (by omega) SX SY); (with_reducible refine TT.mono ?_); clear TT; rintro e W11 ⟨rfl, hb11⟩; have HBf := HUP.out _ (((Below.refl _ w').alloc (Nat.le_refl _) _).trans (hb11.mono (by simp))); clear hb11)
          exact ⟨⟨k + 1, by go_num, by omega, by omega, ⟨(HBf.alloc HBf.size _)⟩⟩, by simp [intOf]; omega⟩
        · have PX : Fx.Hd (Fx.pushX X Y 262144 (fun k => if k = 0 then XD else XM) (fun k => if k = 0 then YE else YM) 2 = 0) := ⟨(Fx.push_pair rX rY rd re hDE _ _ (by simp [hXD]) (by simp [hYE]) (by simp [hXM]) (by simp [hYM])).1⟩
          have PY : Fx.Hd (Fx.pushY X Y 262144 (fun k => if k = 0 then XD else XM) (fun k => if k = 0 then YE else YM) 2 = 0) := ⟨(Fx.push_pair rX rY rd re hDE _ _ (by simp [hXD]) (by simp [hYE]) (by simp [hXM]) (by simp [hYM])).2⟩
          by_cases hd0 : D = 0
          · have he0 : ¬ E = 0 := fun h => hDE ⟨hd0, h⟩
            go_wp2_with (first | (go_at_call 13; (have TT := apart_as X Y 262144 0 0 (some ⟨w'.heap.size, 0, none⟩) 2 2 (w'.heap.size + 1) (fun k => if k = 0 then XD else XM) (fun k => if k = 0 then YE else YM) (w'.alloc (.cells #[.int .i64 XD, .int .i64 YE, .int .i64 XM, .int .i64 YM] 24)) i1 i2 iR (vs_lit2 w' XD YE XM YM 24 i3 i4 i5 i6) (by simp) (by omega) PX PY); (with_reducible refine TT.mono ?_); clear TT; rintro e W9 ⟨rfl, hb9⟩; have hb9' := ((Below.refl _ w').alloc (Nat.le_refl _) _).trans (hb9.mono (by simp)); have HUP := Fx.Hd.mk (HUP0.out _ hb9'); have P0 := (hb9'.cell (p := ⟨P, 0, none⟩) hP7).trans P0; have P1 := (hb9'.cell (p := ⟨P, 1, none⟩) hP7).trans P1; clear hb9 hb9') | (go_at_call 13; (have TT := apart_as X Y 262144 65536 0 (some ⟨W9.heap.size, 0, none⟩) 1 1 (W9.heap.size + 1) (fun _ => X) (fun _ => Y) (W9.alloc (.cells #[.int .i64 X, .int .i64 Y] 24)) i1 i2 iR (vs_lit1 W9 X Y 24 i1 i2) (by simp) (by omega) SX SY); (with_reducible refine TT.mono ?_); clear TT; rintro e W11 ⟨rfl, hb11⟩; have HBf := HUP.out _ (((Below.refl _ W9).alloc (Nat.le_refl _) _).trans (hb11.mono (by simp))); clear hb11))
            exact ⟨⟨k + 1, by go_num, by omega, by omega, ⟨(HBf.alloc HBf.size _)⟩⟩, by simp [intOf]; omega⟩
          · go_wp2_with (first | (go_at_call 13; (have TT := apart_as X Y 262144 0 0 (some ⟨w'.heap.size, 0, none⟩) 2 2 (w'.heap.size + 1) (fun k => if k = 0 then XD else XM) (fun k => if k = 0 then YE else YM) (w'.alloc (.cells #[.int .i64 XD, .int .i64 YE, .int .i64 XM, .int .i64 YM] 24)) i1 i2 iR (vs_lit2 w' XD YE XM YM 24 i3 i4 i5 i6) (by simp) (by omega) PX PY); (with_reducible refine TT.mono ?_); clear TT; rintro e W9 ⟨rfl, hb9⟩; have hb9' := ((Below.refl _ w').alloc (Nat.le_refl _) _).trans (hb9.mono (by simp)); have HUP := Fx.Hd.mk (HUP0.out _ hb9'); have P0 := (hb9'.cell (p := ⟨P, 0, none⟩) hP7).trans P0; have P1 := (hb9'.cell (p := ⟨P, 1, none⟩) hP7).trans P1; clear hb9 hb9') | (go_at_call 13; (have TT := apart_as X Y 262144 65536 0 (some ⟨W9.heap.size, 0, none⟩) 1 1 (W9.heap.size + 1) (fun _ => X) (fun _ => Y) (W9.alloc (.cells #[.int .i64 X, .int .i64 Y] 24)) i1 i2 iR (vs_lit1 W9 X Y 24 i1 i2) (by simp) (by omega) SX SY); (with_reducible refine TT.mono ?_); clear TT; rintro e W11 ⟨rfl, hb11⟩; have HBf := HUP.out _ (((Below.refl _ W9).alloc (Nat.le_refl _) _).trans (hb11.mono (by simp))); clear hb11))
            exact ⟨⟨k + 1, by go_num, by omega, by omega, ⟨(HBf.alloc HBf.size _)⟩⟩, by simp [intOf]; omega⟩
      · go_wp2
        have p0 : ((W4.alloc (.cells #[.int .i64 XM, .int .i64 YM] 24)).alloc (.cells #[.int .i64 XD, .int .i64 YE] 24)).drew.cell? ⟨P, 0, none⟩ = some (.int .i64 X) := (HA2.out _ _ _ _ hP).trans P0'
        have p1 : ((W4.alloc (.cells #[.int .i64 XM, .int .i64 YM] 24)).alloc (.cells #[.int .i64 XD, .int .i64 YE] 24)).drew.cell? ⟨P, 1, none⟩ = some (.int .i64 Y) := (HA2.out _ _ _ _ hP).trans P1'
        have c0 : ((W4.alloc (.cells #[.int .i64 XM, .int .i64 YM] 24)).alloc (.cells #[.int .i64 XD, .int .i64 YE] 24)).drew.cell? ⟨Q, 0, none⟩ = some (.int .i64 D) := (HA2.out _ _ _ _ hQ).trans Q0
        have c1 : ((W4.alloc (.cells #[.int .i64 XM, .int .i64 YM] 24)).alloc (.cells #[.int .i64 XD, .int .i64 YE] 24)).drew.cell? ⟨Q, 1, none⟩ = some (.int .i64 E) := (HA2.out _ _ _ _ hQ).trans Q1
        have b4 : ((W4.alloc (.cells #[.int .i64 XM, .int .i64 YM] 24)).alloc (.cells #[.int .i64 XD, .int .i64 YE] 24)).drew.cell? ⟨b, off + k * 6 + 4, none⟩ = some (.int .i64 z) := (HA2.out _ _ _ _ hb4).trans q4'
        have a0 : ((W4.alloc (.cells #[.int .i64 XM, .int .i64 YM] 24)).alloc (.cells #[.int .i64 XD, .int .i64 YE] 24)).drew.cell? ⟨W4.heap.size + 1, 0, none⟩ = some (.int .i64 XD) := by go_simp
        have a1 : ((W4.alloc (.cells #[.int .i64 XM, .int .i64 YM] 24)).alloc (.cells #[.int .i64 XD, .int .i64 YE] 24)).drew.cell? ⟨W4.heap.size + 1, 1, none⟩ = some (.int .i64 YE) := by go_simp
        have f0 : ((W4.alloc (.cells #[.int .i64 XM, .int .i64 YM] 24)).alloc (.cells #[.int .i64 XD, .int .i64 YE] 24)).drew.cell? ⟨W4.heap.size, 0, none⟩ = some (.int .i64 XM) := by go_simp
        have f1 : ((W4.alloc (.cells #[.int .i64 XM, .int .i64 YM] 24)).alloc (.cells #[.int .i64 XD, .int .i64 YE] 24)).drew.cell? ⟨W4.heap.size, 1, none⟩ = some (.int .i64 YM) := by go_simp
        have bb1 := HB4.out.alloc HB4.out.size (.cells #[.int .i64 XM, .int .i64 YM] 24)
        have bb2 := bb1.alloc bb1.size (.cells #[.int .i64 XD, .int .i64 YE] 24)
        have HB5 : Fx.Hd (Below w.heap.size w ((W4.alloc (.cells #[.int .i64 XM, .int .i64 YM] 24)).alloc (.cells #[.int .i64 XD, .int .i64 YE] 24)).drew) := ⟨bb2.drew⟩
        clear HA HA2 hP hQ hb4 P0' P1' Q0 Q1 q4' HB4 bb1 bb2
        generalize ((W4.alloc (.cells #[.int .i64 XM, .int .i64 YM] 24)).alloc (.cells #[.int .i64 XD, .int .i64 YE] 24)).drew = W5 at *
        generalize W4.heap.size + 1 = A at *
        generalize W4.heap.size = B at *
        have hb5 : b < W5.heap.size := World.block_lt_of_cell? _ _ b4
        have hP5 : P < W5.heap.size := World.block_lt_of_cell? _ _ p0
        have hQ5 : Q < W5.heap.size := World.block_lt_of_cell? _ _ c0
        have hA5 : A < W5.heap.size := World.block_lt_of_cell? _ _ a0
        have hF5 : B < W5.heap.size := World.block_lt_of_cell? _ _ f0
        have HD5 : Fx.Hd (∀ V, Below W5.heap.size W5 V → V.cell? ⟨P, 0, none⟩ = some (.int .i64 X) ∧ V.cell? ⟨P, 1, none⟩ = some (.int .i64 Y) ∧ V.cell? ⟨Q, 0, none⟩ = some (.int .i64 D) ∧ V.cell? ⟨Q, 1, none⟩ = some (.int .i64 E) ∧ V.cell? ⟨A, 0, none⟩ = some (.int .i64 XD) ∧ V.cell? ⟨A, 1, none⟩ = some (.int .i64 YE) ∧ V.cell? ⟨B, 0, none⟩ = some (.int .i64 XM) ∧ V.cell? ⟨B, 1, none⟩ = some (.int .i64 YM)) := ⟨fun V hV => ⟨(hV.cell (p := ⟨P, 0, none⟩) hP5).trans p0, (hV.cell (p := ⟨P, 1, none⟩) hP5).trans p1, (hV.cell (p := ⟨Q, 0, none⟩) hQ5).trans c0, (hV.cell (p := ⟨Q, 1, none⟩) hQ5).trans c1, (hV.cell (p := ⟨A, 0, none⟩) hA5).trans a0, (hV.cell (p := ⟨A, 1, none⟩) hA5).trans a1, (hV.cell (p := ⟨B, 0, none⟩) hF5).trans f0, (hV.cell (p := ⟨B, 1, none⟩) hF5).trans f1⟩⟩
        clear c0 c1 f0 f1
        have eb : Below W5.heap.size W5 W5 := Below.refl _ _
        go_region_held3 (fun w' => w'.cell? ⟨P, 0, none⟩ = some (.int .i64 X) ∧ w'.cell? ⟨P, 1, none⟩ = some (.int .i64 Y) ∧ w'.cell? ⟨A, 0, none⟩ = some (.int .i64 XD) ∧ w'.cell? ⟨A, 1, none⟩ = some (.int .i64 YE) ∧ w'.cell? ⟨b, off + k * 6 + 4, none⟩ = some (.int .i64 z) ∧ Below W5.heap.size W5 w') (first | exact ⟨e0, e1, e2, e3, e4, eb⟩ | exact ⟨e0, e1, e2, e3, e4, Below.drew eb⟩ | exact ⟨p0, p1, a0, a1, b4, Below.drew eb⟩ | exact ⟨p0, p1, a0, a1, b4, eb⟩ | go_keep)
          (first | (go_at_call 8; (with_reducible refine (hold5 (B := W5.heap.size) (w0 := W5) (b1 := P) (o1 := 0) (x1 := .int .i64 X) (b2 := P) (o2 := 1) (x2 := .int .i64 Y) (b3 := A) (o3 := 0) (x3 := .int .i64 XD) (b4 := A) (o4 := 1) (x4 := .int .i64 YE) (b5 := b) (o5 := off + k * 6 + 4) (x5 := .int .i64 z) (toward_as X Y X Y z 0 0 _ i1 i2 i1 i2 hz TX1 TY1) ?_ ?_ ?_ ?_ ?_ ?_ ?_).mono ?_); (first | assumption | exact eb.drew); (exact (show W5.heap.size ≤ _ from (by first | exact Below.size eb | exact Below.size (Below.drew eb)))); (first | assumption | exact e0 | exact p0); (first | assumption | exact e1 | exact p1); (first | assumption | exact e2 | exact a0); (first | assumption | exact e3 | exact a1); (first | assumption | exact e4 | exact b4); rintro e w' ⟨rfl, e0, e1, e2, e3, e4, eb⟩) | (go_at_call 8; (with_reducible refine (hold5 (B := W5.heap.size) (w0 := W5) (b1 := P) (o1 := 0) (x1 := .int .i64 X) (b2 := P) (o2 := 1) (x2 := .int .i64 Y) (b3 := A) (o3 := 0) (x3 := .int .i64 XD) (b4 := A) (o4 := 1) (x4 := .int .i64 YE) (b5 := b) (o5 := off + k * 6 + 4) (x5 := .int .i64 z) (toward_as X Y XD YE 0 0 0 _ i1 i2 i3 i4 iz TX2 TY2) ?_ ?_ ?_ ?_ ?_ ?_ ?_).mono ?_); (first | assumption | exact eb.drew); (exact (show W5.heap.size ≤ _ from (by first | exact Below.size eb | exact Below.size (Below.drew eb)))); (first | assumption | exact e0 | exact p0); (first | assumption | exact e1 | exact p1); (first | assumption | exact e2 | exact a0); (first | assumption | exact e3 | exact a1); (first | assumption | exact e4 | exact b4); rintro e w' ⟨rfl, e0, e1, e2, e3, e4, eb⟩) | (go_at_call 8; (with_reducible refine (hold5 (B := W5.heap.size) (w0 := W5) (b1 := P) (o1 := 0) (x1 := .int .i64 X) (b2 := P) (o2 := 1) (x2 := .int .i64 Y) (b3 := A) (o3 := 0) (x3 := .int .i64 XD) (b4 := A) (o4 := 1) (x4 := .int .i64 YE) (b5 := b) (o5 := off + k * 6 + 4) (x5 := .int .i64 z) (toward_as X Y XD YE (-1) 0 0 _ i1 i2 i3 i4 im TX3 TY3) ?_ ?_ ?_ ?_ ?_ ?_ ?_).mono ?_); (first | assumption | exact eb.drew); (exact (show W5.heap.size ≤ _ from (by first | exact Below.size eb | exact Below.size (Below.drew eb)))); (first | assumption | exact e0 | exact p0); (first | assumption | exact e1 | exact p1); (first | assumption | exact e2 | exact a0); (first | assumption | exact e3 | exact a1); (first | assumption | exact e4 | exact b4); rintro e w' ⟨rfl, e0, e1, e2, e3, e4, eb⟩))
        have eb7 := eb
        obtain ⟨P0, P1, Q0, Q1, A0, A1, F0, F1⟩ := HD5.out _ eb7
        have HB7 := Fx.Hd.mk (HB5.out.trans (eb7.mono HB5.out.size))
        clear p0 p1 a0 a1 b4 e0 e1 e2 e3 e4 HB5
        have hP7 : P < w'.heap.size := World.block_lt_of_cell? _ _ P0
        have HUP0 : Fx.Hd (∀ V, Below w'.heap.size w' V → ∀ V', Below V.heap.size V V' → Below w.heap.size w V') := ⟨fun V hV V' hV' => (HB7.out.trans (hV.mono HB7.out.size)).trans (hV'.mono ((HB7.out.trans (hV.mono HB7.out.size)).size))⟩
        clear eb7 eb HD5 HB7
        by_cases hDE : D = 0 ∧ E = 0
        · obtain ⟨rfl, rfl⟩ := hDE
          have HUP := Fx.Hd.mk (HUP0.out _ (Below.refl _ _))
          go_wp2_with (go_at_call 13; (have TT := apart_as X Y 262144 65536 0 (some ⟨w'.heap.size, 0, none⟩) 1 1 (w'.heap.size + 1) (fun _ => X) (fun _ => Y) (w'.alloc (.cells #[.int .i64 X, .int .i64 Y] 24)) i1 i2 iR (vs_lit1 w' X Y 24 i1 i2) (by simp) (by omega) SX SY); (with_reducible refine TT.mono ?_); clear TT; rintro e W11 ⟨rfl, hb11⟩; have HBf := HUP.out _ (((Below.refl _ w').alloc (Nat.le_refl _) _).trans (hb11.mono (by simp))); clear hb11)
          exact ⟨⟨k + 1, by go_num, by omega, by omega, ⟨(HBf.alloc HBf.size _)⟩⟩, by simp [intOf]; omega⟩
        · have PX : Fx.Hd (Fx.pushX X Y 262144 (fun k => if k = 0 then XD else XM) (fun k => if k = 0 then YE else YM) 2 = 0) := ⟨(Fx.push_pair rX rY rd re hDE _ _ (by simp [hXD]) (by simp [hYE]) (by simp [hXM]) (by simp [hYM])).1⟩
          have PY : Fx.Hd (Fx.pushY X Y 262144 (fun k => if k = 0 then XD else XM) (fun k => if k = 0 then YE else YM) 2 = 0) := ⟨(Fx.push_pair rX rY rd re hDE _ _ (by simp [hXD]) (by simp [hYE]) (by simp [hXM]) (by simp [hYM])).2⟩
          by_cases hd0 : D = 0
          · have he0 : ¬ E = 0 := fun h => hDE ⟨hd0, h⟩
            go_wp2_with (first | (go_at_call 13; (have TT := apart_as X Y 262144 0 0 (some ⟨w'.heap.size, 0, none⟩) 2 2 (w'.heap.size + 1) (fun k => if k = 0 then XD else XM) (fun k => if k = 0 then YE else YM) (w'.alloc (.cells #[.int .i64 XD, .int .i64 YE, .int .i64 XM, .int .i64 YM] 24)) i1 i2 iR (vs_lit2 w' XD YE XM YM 24 i3 i4 i5 i6) (by simp) (by omega) PX PY); (with_reducible refine TT.mono ?_); clear TT; rintro e W9 ⟨rfl, hb9⟩; have hb9' := ((Below.refl _ w').alloc (Nat.le_refl _) _).trans (hb9.mono (by simp)); have HUP := Fx.Hd.mk (HUP0.out _ hb9'); have P0 := (hb9'.cell (p := ⟨P, 0, none⟩) hP7).trans P0; have P1 := (hb9'.cell (p := ⟨P, 1, none⟩) hP7).trans P1; clear hb9 hb9') | (go_at_call 13; (have TT := apart_as X Y 262144 65536 0 (some ⟨W9.heap.size, 0, none⟩) 1 1 (W9.heap.size + 1) (fun _ => X) (fun _ => Y) (W9.alloc (.cells #[.int .i64 X, .int .i64 Y] 24)) i1 i2 iR (vs_lit1 W9 X Y 24 i1 i2) (by simp) (by omega) SX SY); (with_reducible refine TT.mono ?_); clear TT; rintro e W11 ⟨rfl, hb11⟩; have HBf := HUP.out _ (((Below.refl _ W9).alloc (Nat.le_refl _) _).trans (hb11.mono (by simp))); clear hb11))
            exact ⟨⟨k + 1, by go_num, by omega, by omega, ⟨(HBf.alloc HBf.size _)⟩⟩, by simp [intOf]; omega⟩
          · go_wp2_with (first | (go_at_call 13; (have TT := apart_as X Y 262144 0 0 (some ⟨w'.heap.size, 0, none⟩) 2 2 (w'.heap.size + 1) (fun k => if k = 0 then XD else XM) (fun k => if k = 0 then YE else YM) (w'.alloc (.cells #[.int .i64 XD, .int .i64 YE, .int .i64 XM, .int .i64 YM] 24)) i1 i2 iR (vs_lit2 w' XD YE XM YM 24 i3 i4 i5 i6) (by simp) (by omega) PX PY); (with_reducible refine TT.mono ?_); clear TT; rintro e W9 ⟨rfl, hb9⟩; have hb9' := ((Below.refl _ w').alloc (Nat.le_refl _) _).trans (hb9.mono (by simp)); have HUP := Fx.Hd.mk (HUP0.out _ hb9'); have P0 := (hb9'.cell (p := ⟨P, 0, none⟩) hP7).trans P0; have P1 := (hb9'.cell (p := ⟨P, 1, none⟩) hP7).trans P1; clear hb9 hb9') | (go_at_call 13; (have TT := apart_as X Y 262144 65536 0 (some ⟨W9.heap.size, 0, none⟩) 1 1 (W9.heap.size + 1) (fun _ => X) (fun _ => Y) (W9.alloc (.cells #[.int .i64 X, .int .i64 Y] 24)) i1 i2 iR (vs_lit1 W9 X Y 24 i1 i2) (by simp) (by omega) SX SY); (with_reducible refine TT.mono ?_); clear TT; rintro e W11 ⟨rfl, hb11⟩; have HBf := HUP.out _ (((Below.refl _ W9).alloc (Nat.le_refl _) _).trans (hb11.mono (by simp))); clear hb11))
            exact ⟨⟨k + 1, by go_num, by omega, by omega, ⟨(HBf.alloc HBf.size _)⟩⟩, by simp [intOf]; omega⟩

    · go_wp2_with (go_at_call 10; (with_reducible refine (up (wakes19_any _) HB).mono ?_); clear HB; rintro e w' ⟨rfl, HB⟩)
      all_goals
        go_ret
        exact ⟨rfl, HB.out⟩

theorem steerStill_own : ownKnob Try.prog.godebug = none := by kernel_rfl
theorem steerStill_laidOut : laidOutB Try.prog = true := by kernel_rfl
set_option maxRecDepth 100000 in
theorem steerStill_lifted (os : Os) (started : os.Started) (H : Type) (enc : TypeId × Value → H) :
    ReturnsInHanded {} Try.checked os 7 .any (Rows.steerStillSpec.pre6 enc Try.prog Try.f7 Rows.steerStillRow.domain false) (Rows.steerStillSpec.post enc Try.prog Try.f7 false true false false) := by
  refine returnsInHanded_of_change (C := Try.checked) steerStill_own started (by kernel_rfl) Try.func7
    (ChangeSpec.witness6 (enc := enc) (C := Try.checked) false ⟨#[], #[.slice none 0 0], []⟩ 8 (by kernel_rfl) (by kernel_rfl) (by kernel_rfl) (by kernel_rfl)) ?_
  intro W base args ds gs before hval0 hW hcnd _
  have hval : ∀ (j : Nat) t v, Try.f7.params[j]? = some t → args[j]? = some v → Value.okWide Try.prog W .any base t v := hval0
  have hW' := hW
  obtain ⟨p, q, hA0, hV, rfl, hfz, hnd⟩ := hW
  have hA : DataW.TrodAll enc Try.prog W 0 (fun _ => true) true Try.f7.params.toList args.toList ds p := hA0
  rw [Try.params7] at hA hval
  obtain ⟨v0, vs0, d0, ds0, p0, q0, hargs, rfl, rfl, h0, r0⟩ := trodAll_cons hA
  obtain ⟨rfl, rfl, rfl⟩ := trodAll_nil r0
  obtain rfl : args = #[v0] := by cases args; simp_all
  obtain ⟨rfl, rfl⟩ := trodVars_none hV
  obtain ⟨a0, len0, cap0, rfl⟩ := okWide_slice Try.underlying22 (hval 0 22 v0 rfl rfl)
  have k0 := h0
  have lt0 : ∀ x ∈ p0, x.block < W.heap.size := by obtain ⟨m, hm⟩ := k0; exact DataW.trod_lt m _ _ _ hm
  have rows : Asks19 W a0 len0 cap0 := by obtain ⟨fuel, hf⟩ := h0; exact asks19_of hf
  clear hA0 hval0
  refine (steerStill_walk a0 len0 cap0 W rows).mono fun e W' ⟨he, bel⟩ => ?_
  subst he
  exact ⟨_, rfl, _, _, _, [], _, [], hW', trodAll_mk1 (shut_bool Try.underlying4 _), (trodAll_cons_mk (Below.trod steerStill_laidOut (by kernel_rfl) (of_decide_eq_true (by kernel_rfl)) k0 bel lt0) trodAll_mk0), rfl, bel.frame _, fun h => by cases h⟩
theorem steerStill_over : Rows.steerStillRow.holds Try.pinned (OpenSpec.ofChange Rows.steerStillSpec) :=
  OpenClaim.holds_of_wide 7 Try.f7 rfl rfl rfl rfl rfl rfl rfl ⟨rfl, rfl, rfl, rfl, rfl⟩ rfl rfl rfl rfl rfl (by kernel_rfl) Try.func7 (by kernel_rfl)
    (of_decide_eq_true (by kernel_rfl)) (by unfold Func.isWrapper; first | (rw [if_pos (by decide +kernel)]; kernel_rfl) | (rw [if_neg (by decide +kernel)]; exact ⟨rfl, rfl⟩))
    (fun os started H enc _ => steerStill_lifted os started H enc)
/-- The given statement of SteerStill. -/
theorem steerStill_holds : Rows.SteerStillSaid := steerStill_over
end Go.Proofs.Ytmihmgjbecedaaa
