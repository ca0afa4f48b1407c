/- For every argument, DiscAparts answers true and leaves its argument as it was: whether any two discs are apart is the page's; it is the same the other way round. No condition. -/
import Derived.Test.YtkggejdbkllaaaaAsk17
import Derived.Deep.QuietTactic
import Derived.BigQuiet
import Derived.Deep.RegionWith
import Derived.Deep.RegionHeld3
import Derived.ProofKit
import Derived.OpenShut
import Derived.ChangeSame
namespace Go.Proofs.Ytkggejdbkllaaaa
open Go.ChangeShapes Go.WideShapes Go.ChangeAt Go.RowKit Go.Deep
set_option linter.unusedVariables false
theorem dapart_as (z : Bool) (a b r c d s : Int) (w : World) (ha : Fx.I64 a) (hb : Fx.I64 b) (hc : Fx.I64 c) (hd : Fx.I64 d) (hr : Fx.I64 r) (hs : Fx.I64 s) (E : Hk (Fx.apS a b r c d s = z)) :
    Calls Try.prog 37 #[.agg #[.int .i64 a, .int .i64 b], .int .i64 r, .agg #[.int .i64 c, .int .i64 d], .int .i64 s] w fun e w' => e = .returned (.bool z) ∧ Below w.heap.size w w' := by
  obtain ⟨rfl⟩ := E; exact dapart_any a b r c d s w ha hb hc hd hr hs
theorem dapart_flip (z : Bool) (a b r c d s : Int) (w : World) (ha : Fx.I64 a) (hb : Fx.I64 b) (hc : Fx.I64 c) (hd : Fx.I64 d) (hr : Fx.I64 r) (hs : Fx.I64 s) (E : Hk (Fx.apS a b r c d s = z)) :
    Calls Try.prog 37 #[.agg #[.int .i64 c, .int .i64 d], .int .i64 s, .agg #[.int .i64 a, .int .i64 b], .int .i64 r] w fun e w' => e = .returned (.bool z) ∧ Below w.heap.size w w' := by
  obtain ⟨rfl⟩ := E; rw [← Fx.apS_flip ha hb hc hd]; exact dapart_any c d s a b r w hc hd ha hb hs hr
theorem rapart_as (z : Bool) (a b r c d s : Int) (w : World) (ha : Fx.I64 a) (hb : Fx.I64 b) (hc : Fx.I64 c) (hd : Fx.I64 d) (E : Hk (Fx.apS a b r c d s = z)) :
    Calls Try.prog 38 #[.agg #[.int .i64 a, .int .i64 b], .int .i64 r, .agg #[.int .i64 c, .int .i64 d], .int .i64 s] w fun e w' => e = .returned (.bool z) ∧ Below w.heap.size w w' := by
  obtain ⟨rfl⟩ := E; exact rapart_any a b r c d s w ha hb hc hd
theorem hsz17 {w X : World} {o : Obj} (h : Below (w.heap.size + 1) (w.alloc o) X) : w.heap.size + 1 ≤ X.heap.size := by simpa using h.size
set_option maxRecDepth 100000 in
set_option maxHeartbeats 3200000 in
theorem discAparts_walk (v : Value) (w : World) (rows : Asks17 w v) :
    Calls Try.prog 9 #[v] w fun e w' => e = .returned (.bool true) ∧ Below w.heap.size w w' := by
  obtain ⟨W, H, a, n, c, xs, la, ln, lc, cl, ta, tn, tc, ts, pa, pn, pc, f, g, ra, rn, rc, q, rfl, hn, hln, htn, hpn, hrn, hby, hnq, hvs, hrq⟩ := rows
  have HBY := Hk.mk (fun (X : World) (hX : Below w.heap.size w X) => hby.below hX (Nat.le_refl _))
  have HNQ := Hk.mk (fun (X : World) (hX : Below w.heap.size w X) => hnq.below hX (Nat.le_refl _))
  have HVS := Hk.mk (fun (X : World) (hX : Below w.heap.size w X) => hvs.below hX (Nat.le_refl _))
  have HRQ := Hk.mk (fun (X : World) (hX : Below w.heap.size w X) => hrq.below hX (Nat.le_refl _))
  have HVN := Hk.mk hvs.num
  have HRN := Hk.mk hrq.num
  clear hby hnq hvs hrq
  have HWB : Hk (Below w.heap.size w (w.alloc (.cells #[.int .i64 W, .int .i64 H, .slice a n c, .slice la ln lc, .int .i64 cl, .slice ta tn tc, .slice pa pn pc, .slice ra rn rc] 54))) := ⟨(Below.refl _ _).alloc (Nat.le_refl _) _⟩
  have HC : Hk (∀ X, Below (w.heap.size + 1) (w.alloc (.cells #[.int .i64 W, .int .i64 H, .slice a n c, .slice la ln lc, .int .i64 cl, .slice ta tn tc, .slice pa pn pc, .slice ra rn rc] 54)) X → X.cell? ⟨w.heap.size, 0, none⟩ = some (.int .i64 W) ∧ X.cell? ⟨w.heap.size, 1, none⟩ = some (.int .i64 H) ∧ X.cell? ⟨w.heap.size, 2, none⟩ = some (.slice a n c) ∧ X.cell? ⟨w.heap.size, 3, none⟩ = some (.slice la ln lc) ∧ X.cell? ⟨w.heap.size, 4, none⟩ = some (.int .i64 cl) ∧ X.cell? ⟨w.heap.size, 5, none⟩ = some (.slice ta tn tc) ∧ X.cell? ⟨w.heap.size, 6, none⟩ = some (.slice pa pn pc) ∧ X.cell? ⟨w.heap.size, 7, none⟩ = some (.slice ra rn rc)) :=
    ⟨fun X hX => ⟨(hX.cell (p := ⟨w.heap.size, 0, none⟩) (by simp)).trans (by go_simp), (hX.cell (p := ⟨w.heap.size, 1, none⟩) (by simp)).trans (by go_simp), (hX.cell (p := ⟨w.heap.size, 2, none⟩) (by simp)).trans (by go_simp), (hX.cell (p := ⟨w.heap.size, 3, none⟩) (by simp)).trans (by go_simp), (hX.cell (p := ⟨w.heap.size, 4, none⟩) (by simp)).trans (by go_simp), (hX.cell (p := ⟨w.heap.size, 5, none⟩) (by simp)).trans (by go_simp), (hX.cell (p := ⟨w.heap.size, 6, none⟩) (by simp)).trans (by go_simp), (hX.cell (p := ⟨w.heap.size, 7, none⟩) (by simp)).trans (by go_simp)⟩⟩
  have HTR : Hk (∀ X, Below (w.heap.size + 1) (w.alloc (.cells #[.int .i64 W, .int .i64 H, .slice a n c, .slice la ln lc, .int .i64 cl, .slice ta tn tc, .slice pa pn pc, .slice ra rn rc] 54)) X → Below w.heap.size w X) := ⟨fun X hX => HWB.out.trans (hX.mono (by omega))⟩
  cases hhv : hv17 n ln tn pn rn
  case true =>
    have HV := Hk.mk hhv
    clear hhv
    go_enter Try.func9, Try.ntmps9
    go_wp2_with (go_at_call 29; (with_reducible refine (heavy17_as true W H cl a la ta pa ra n c ln lc tn tc pn pc rn rc _ hn hln htn hpn hrn HV).mono ?_); rintro e w1 ⟨rfl, hb1⟩; have HB1 := Hk.mk hb1; clear hb1)
    go_ret
    exact ⟨rfl, HWB.out.trans (HB1.out.mono (by simp))⟩
  case false =>
    have HV := Hk.mk hhv
    have hsm : n ≤ 700 ∧ ln ≤ 30 ∧ tn ≤ 30 ∧ pn ≤ 20 ∧ rn ≤ 20 := by unfold hv17 at hhv; simp at hhv; omega
    obtain ⟨sm1, sm2, sm3, sm4, sm5⟩ := hsm
    clear hhv hn hln htn hpn hrn
    go_enter Try.func9, Try.ntmps9
    go_wp2_with (go_at_call 29; (with_reducible refine (heavy17_as false W H cl a la ta pa ra n c ln lc tn tc pn pc rn rc _ (by omega) (by omega) (by omega) (by omega) (by omega) HV).mono ?_); rintro e w1 ⟨rfl, hb1⟩; have HB1 : Hk (Below (w.heap.size + 1) (w.alloc (.cells #[.int .i64 W, .int .i64 H, .slice a n c, .slice la ln lc, .int .i64 cl, .slice ta tn tc, .slice pa pn pc, .slice ra rn rc] 54)) w1) := ⟨by simpa using hb1⟩; clear hb1)
    go_loopw [3] (fun i wr => ∃ (k : Nat), i = .int .i64 k ∧ k ≤ pn ∧ Hk (Below (w.heap.size + 1) (w.alloc (.cells #[.int .i64 W, .int .i64 H, .slice a n c, .slice la ln lc, .int .i64 cl, .slice ta tn tc, .slice pa pn pc, .slice ra rn rc] 54)) wr)) (fun i _ => pn - (intOf i).toNat)
    case atStart => exact ⟨0, rfl, by omega, HB1⟩
    case round =>
      obtain ⟨i, rfl, hi, HB⟩ := hrel
      clear HB1
      obtain ⟨d0, d1, d2, d3, d4, d5, d6, d7⟩ := HC.out _ HB.out
      by_cases hlt : i < pn ∧ i < rn
      · obtain ⟨hlt1, hlt2⟩ := hlt
        obtain ⟨wo, hwo⟩ : ∃ wo : World, wo = wr := ⟨_, rfl⟩
        subst hwo
        clear d0 d1 d2 d3 d4 d5
        go_wp2
        go_loopw [4] (fun j wr => ∃ (k : Nat), j = .int .i64 k ∧ k ≤ pn ∧ Hk (Below (w.heap.size + 1) (w.alloc (.cells #[.int .i64 W, .int .i64 H, .slice a n c, .slice la ln lc, .int .i64 cl, .slice ta tn tc, .slice pa pn pc, .slice ra rn rc] 54)) wr)) (fun j _ => pn - (intOf j).toNat)
        case atStart => exact ⟨0, rfl, by omega, HB⟩
        case round =>
          clear HB d6 d7
          obtain ⟨k, rfl, hk, HB⟩ := hrel
          obtain ⟨d0, d1, d2, d3, d4, d5, d6, d7⟩ := HC.out _ HB.out
          clear d0 d1 d2 d3 d4 d5
          by_cases hkt : k < pn ∧ k < rn
          · obtain ⟨hkt1, hkt2⟩ := hkt
            obtain ⟨pb, po, rfl, hpb, hpc⟩ := (HVS.out _ (HTR.out _ HB.out)).rd (by omega)
            obtain ⟨rb, ro, rfl, hrb, hrc⟩ := (HRQ.out _ (HTR.out _ HB.out)).rd (by omega)
            obtain ⟨i1, i2⟩ := HVN.out i hlt1
            obtain ⟨i4, i5⟩ := HVN.out k hkt1
            have i3 := HRN.out i hlt2
            have i6 := HRN.out k hkt2
            obtain ⟨p0, p1⟩ := hpc i hlt1
            obtain ⟨u0, u1⟩ := hpc k hkt1
            have s0 := hrc i hlt2
            have v0 := hrc k hkt2
            clear hpc hrc
            generalize f i = px at *
            generalize g i = py at *
            generalize f k = ux at *
            generalize g k = uy at *
            generalize q i = r at *
            generalize q k = s at *
            have eb := HB.out
            have j1 : (0 : Int) ≤ (k : Int) := by omega
            have j2 : (k : Int) < (pn : Int) := by omega
            have j3 : (k : Int) < (rn : Int) := by omega
            have j4 : (0 : Int) ≤ (i : Int) := by omega
            have j5 : (i : Int) < (pn : Int) := by omega
            have j6 : (i : Int) < (rn : Int) := by omega
            obtain ⟨z, hz⟩ : ∃ z, Fx.apS px py r ux uy s = z := ⟨_, rfl⟩
            have HZ := Hk.mk hz
            clear hz
            go_wp2
            go_region_held3 (fun w' => w'.cell? ⟨w.heap.size, 6, none⟩ = some (.slice (some ⟨pb, po, none⟩) pn pc) ∧ w'.cell? ⟨w.heap.size, 7, none⟩ = some (.slice (some ⟨rb, ro, none⟩) rn rc) ∧ w'.cell? ⟨pb, po + i * 2, none⟩ = some (.int .i64 px) ∧ w'.cell? ⟨pb, po + i * 2 + 1, none⟩ = some (.int .i64 py) ∧ w'.cell? ⟨rb, ro + i, none⟩ = some (.int .i64 r) ∧ w'.cell? ⟨pb, po + k * 2, none⟩ = some (.int .i64 ux) ∧ w'.cell? ⟨pb, po + k * 2 + 1, none⟩ = some (.int .i64 uy) ∧ w'.cell? ⟨rb, ro + k, none⟩ = some (.int .i64 s) ∧ Below (w.heap.size + 1) (w.alloc (.cells #[.int .i64 W, .int .i64 H, .slice a n c, .slice la ln lc, .int .i64 cl, .slice ta tn tc, .slice (some ⟨pb, po, none⟩) pn pc, .slice (some ⟨rb, ro, none⟩) rn rc] 54)) w') (first | exact ⟨ed6, ed7, ep0, ep1, es0, eu0, eu1, ev0, eb⟩ | exact ⟨ed6, ed7, ep0, ep1, es0, eu0, eu1, ev0, Below.drew eb⟩ | exact ⟨d6, d7, p0, p1, s0, u0, u1, v0, Below.drew eb⟩ | go_keep) (first | (go_at_call 37; go_must (refine (hold8 (B := w.heap.size + 1) (w0 := w.alloc (.cells #[.int .i64 W, .int .i64 H, .slice a n c, .slice la ln lc, .int .i64 cl, .slice ta tn tc, .slice (some ⟨pb, po, none⟩) pn pc, .slice (some ⟨rb, ro, none⟩) rn rc] 54)) (b1 := w.heap.size) (o1 := 6) (x1 := .slice (some ⟨pb, po, none⟩) pn pc) (b2 := w.heap.size) (o2 := 7) (x2 := .slice (some ⟨rb, ro, none⟩) rn rc) (b3 := pb) (o3 := po + i * 2) (x3 := .int .i64 px) (b4 := pb) (o4 := po + i * 2 + 1) (x4 := .int .i64 py) (b5 := rb) (o5 := ro + i) (x5 := .int .i64 r) (b6 := pb) (o6 := po + k * 2) (x6 := .int .i64 ux) (b7 := pb) (o7 := po + k * 2 + 1) (x7 := .int .i64 uy) (b8 := rb) (o8 := ro + k) (x8 := .int .i64 s) (dapart_as z px py r ux uy s _ i1 i2 i4 i5 i3 i6 HZ) ?_ ?_ ?_ ?_ ?_ ?_ ?_ ?_ ?_ ?_ ).mono ?_); (first | assumption | exact eb.drew); (first | exact hsz17 eb | exact hsz17 eb.drew); (first | assumption | exact ed6 | exact d6); (first | assumption | exact ed7 | exact d7); (first | assumption | exact ep0 | exact p0); (first | assumption | exact ep1 | exact p1); (first | assumption | exact es0 | exact s0); (first | assumption | exact eu0 | exact u0); (first | assumption | exact eu1 | exact u1); (first | assumption | exact ev0 | exact v0); rintro e w' ⟨rfl, ed6, ed7, ep0, ep1, es0, eu0, eu1, ev0, eb⟩))
            go_wp2
            go_region_held3 (fun w' => w'.cell? ⟨w.heap.size, 6, none⟩ = some (.slice (some ⟨pb, po, none⟩) pn pc) ∧ w'.cell? ⟨w.heap.size, 7, none⟩ = some (.slice (some ⟨rb, ro, none⟩) rn rc) ∧ w'.cell? ⟨pb, po + i * 2, none⟩ = some (.int .i64 px) ∧ w'.cell? ⟨pb, po + i * 2 + 1, none⟩ = some (.int .i64 py) ∧ w'.cell? ⟨rb, ro + i, none⟩ = some (.int .i64 r) ∧ w'.cell? ⟨pb, po + k * 2, none⟩ = some (.int .i64 ux) ∧ w'.cell? ⟨pb, po + k * 2 + 1, none⟩ = some (.int .i64 uy) ∧ w'.cell? ⟨rb, ro + k, none⟩ = some (.int .i64 s) ∧ Below (w.heap.size + 1) (w.alloc (.cells #[.int .i64 W, .int .i64 H, .slice a n c, .slice la ln lc, .int .i64 cl, .slice ta tn tc, .slice (some ⟨pb, po, none⟩) pn pc, .slice (some ⟨rb, ro, none⟩) rn rc] 54)) w') (first | exact ⟨ed6, ed7, ep0, ep1, es0, eu0, eu1, ev0, eb⟩ | exact ⟨ed6, ed7, ep0, ep1, es0, eu0, eu1, ev0, Below.drew eb⟩ | exact ⟨d6, d7, p0, p1, s0, u0, u1, v0, Below.drew eb⟩ | go_keep) (first | (go_at_call 38; go_must (refine (hold8 (B := w.heap.size + 1) (w0 := w.alloc (.cells #[.int .i64 W, .int .i64 H, .slice a n c, .slice la ln lc, .int .i64 cl, .slice ta tn tc, .slice (some ⟨pb, po, none⟩) pn pc, .slice (some ⟨rb, ro, none⟩) rn rc] 54)) (b1 := w.heap.size) (o1 := 6) (x1 := .slice (some ⟨pb, po, none⟩) pn pc) (b2 := w.heap.size) (o2 := 7) (x2 := .slice (some ⟨rb, ro, none⟩) rn rc) (b3 := pb) (o3 := po + i * 2) (x3 := .int .i64 px) (b4 := pb) (o4 := po + i * 2 + 1) (x4 := .int .i64 py) (b5 := rb) (o5 := ro + i) (x5 := .int .i64 r) (b6 := pb) (o6 := po + k * 2) (x6 := .int .i64 ux) (b7 := pb) (o7 := po + k * 2 + 1) (x7 := .int .i64 uy) (b8 := rb) (o8 := ro + k) (x8 := .int .i64 s) (rapart_as z px py r ux uy s _ i1 i2 i4 i5 HZ) ?_ ?_ ?_ ?_ ?_ ?_ ?_ ?_ ?_ ?_ ).mono ?_); (first | assumption | exact eb.drew); (first | exact hsz17 eb | exact hsz17 eb.drew); (first | assumption | exact ed6 | exact d6); (first | assumption | exact ed7 | exact d7); (first | assumption | exact ep0 | exact p0); (first | assumption | exact ep1 | exact p1); (first | assumption | exact es0 | exact s0); (first | assumption | exact eu0 | exact u0); (first | assumption | exact eu1 | exact u1); (first | assumption | exact ev0 | exact v0); rintro e w' ⟨rfl, ed6, ed7, ep0, ep1, es0, eu0, eu1, ev0, eb⟩) | (go_at_call 37; go_must (refine (hold8 (B := w.heap.size + 1) (w0 := w.alloc (.cells #[.int .i64 W, .int .i64 H, .slice a n c, .slice la ln lc, .int .i64 cl, .slice ta tn tc, .slice (some ⟨pb, po, none⟩) pn pc, .slice (some ⟨rb, ro, none⟩) rn rc] 54)) (b1 := w.heap.size) (o1 := 6) (x1 := .slice (some ⟨pb, po, none⟩) pn pc) (b2 := w.heap.size) (o2 := 7) (x2 := .slice (some ⟨rb, ro, none⟩) rn rc) (b3 := pb) (o3 := po + i * 2) (x3 := .int .i64 px) (b4 := pb) (o4 := po + i * 2 + 1) (x4 := .int .i64 py) (b5 := rb) (o5 := ro + i) (x5 := .int .i64 r) (b6 := pb) (o6 := po + k * 2) (x6 := .int .i64 ux) (b7 := pb) (o7 := po + k * 2 + 1) (x7 := .int .i64 uy) (b8 := rb) (o8 := ro + k) (x8 := .int .i64 s) (dapart_flip z px py r ux uy s _ i1 i2 i4 i5 i3 i6 HZ) ?_ ?_ ?_ ?_ ?_ ?_ ?_ ?_ ?_ ?_ ).mono ?_); (first | assumption | exact eb.drew); (first | exact hsz17 eb | exact hsz17 eb.drew); (first | assumption | exact ed6 | exact d6); (first | assumption | exact ed7 | exact d7); (first | assumption | exact ep0 | exact p0); (first | assumption | exact ep1 | exact p1); (first | assumption | exact es0 | exact s0); (first | assumption | exact eu0 | exact u0); (first | assumption | exact eu1 | exact u1); (first | assumption | exact ev0 | exact v0); rintro e w' ⟨rfl, ed6, ed7, ep0, ep1, es0, eu0, eu1, ev0, eb⟩))
            go_wp2
            replace HB := Hk.mk eb
            refine ⟨⟨k + 1, by go_num, by omega, HB⟩, by simp [intOf]; omega⟩
          · have jk : ¬ (k < pn) ∨ ¬ (k < rn) := by omega
            by_cases jk1 : k < pn
            · have jk2 : ¬ k < rn := by omega
              go_wp2
              go_roundw
              case rel => exact ⟨i + 1, by go_num, by omega, HB⟩
              case measure => simp [intOf]; omega
            · go_wp2
              go_roundw
              case rel => exact ⟨i + 1, by go_num, by omega, HB⟩
              case measure => simp [intOf]; omega
      · by_cases jk1 : i < pn
        · have jk2 : ¬ i < rn := by omega
          go_wp2_with (go_at_call 36; (with_reducible refine (wakes17_any _).mono ?_); rintro e w3 ⟨rfl, hb3⟩; have HB3 := Hk.mk hb3; clear hb3)
          go_ret
          exact ⟨rfl, (HTR.out _ HB.out).trans (HB3.out.mono (HTR.out _ HB.out).size)⟩
        · go_wp2_with (go_at_call 36; (with_reducible refine (wakes17_any _).mono ?_); rintro e w3 ⟨rfl, hb3⟩; have HB3 := Hk.mk hb3; clear hb3)
          go_ret
          exact ⟨rfl, (HTR.out _ HB.out).trans (HB3.out.mono (HTR.out _ HB.out).size)⟩


theorem discAparts_own : ownKnob Try.prog.godebug = none := by kernel_rfl
theorem discAparts_laidOut : laidOutB Try.prog = true := by kernel_rfl
set_option maxRecDepth 100000 in
theorem discAparts_lifted (os : Os) (started : os.Started) (H : Type) (enc : TypeId × Value → H) :
    ReturnsInHanded {} Try.checked os 9 .any (Rows.discApartsSpec.pre6 enc Try.prog Try.f9 Rows.discApartsRow.domain false) (Rows.discApartsSpec.post enc Try.prog Try.f9 false true false false) := by
  refine returnsInHanded_of_change (C := Try.checked) discAparts_own started (by kernel_rfl) Try.func9
    (ChangeSpec.witness6 (enc := enc) (C := Try.checked) false ⟨#[], #[.agg #[.int .i64 0, .int .i64 0, .slice none 0 0, .slice none 0 0, .int .i64 0, .slice none 0 0, .slice none 0 0, .slice none 0 0]], []⟩ 8 (by kernel_rfl) (by kernel_rfl) (by kernel_rfl) (by kernel_rfl)) ?_
  intro W base args ds gs before hval0 hW hcnd _
  have hval : ∀ (j : Nat) t v, Try.f9.params[j]? = some t → args[j]? = some v → Value.okWide Try.prog W .any base t v := hval0
  have hW' := hW
  obtain ⟨p, q, hA0, hV, rfl, hfz, hnd⟩ := hW
  have hA : DataW.TrodAll enc Try.prog W 0 (fun _ => true) true Try.f9.params.toList args.toList ds p := hA0
  rw [Try.params9] at hA hval
  obtain ⟨v0, vs0, d0, ds0, p0, q0, hargs, rfl, rfl, h0, r0⟩ := trodAll_cons hA
  obtain ⟨rfl, rfl, rfl⟩ := trodAll_nil r0
  obtain rfl : args = #[v0] := by cases args; simp_all
  obtain ⟨rfl, rfl⟩ := trodVars_none hV
  obtain ⟨cs0, rfl, hcs0⟩ := okWide_struct Try.underlying54 (hval 0 54 v0 rfl rfl)
  have k0 := h0
  have lt0 : ∀ x ∈ p0, x.block < W.heap.size := by obtain ⟨m, hm⟩ := k0; exact DataW.trod_lt m _ _ _ hm
  have rows : Asks17 W (.agg cs0) := by obtain ⟨fuel, hf⟩ := h0; exact asks17_of hcs0 hf
  clear hA0 hval0
  refine (discAparts_walk (.agg cs0) W rows).mono fun e W' ⟨he, bel⟩ => ?_
  subst he
  exact ⟨_, rfl, _, _, _, [], _, [], hW', trodAll_mk1 (shut_bool Try.underlying4 _), (trodAll_cons_mk (Below.trod discAparts_laidOut (by kernel_rfl) (of_decide_eq_true (by kernel_rfl)) k0 bel lt0) trodAll_mk0), rfl, bel.frame _, fun h => by cases h⟩
theorem discAparts_over : Rows.discApartsRow.holds Try.pinned (OpenSpec.ofChange Rows.discApartsSpec) :=
  OpenClaim.holds_of_wide 9 Try.f9 rfl rfl rfl rfl rfl rfl rfl ⟨rfl, rfl, rfl, rfl, rfl⟩ rfl rfl rfl rfl rfl (by kernel_rfl) Try.func9 (by kernel_rfl)
    (of_decide_eq_true (by kernel_rfl)) (by unfold Func.isWrapper; first | (rw [if_pos (by decide +kernel)]; kernel_rfl) | (rw [if_neg (by decide +kernel)]; exact ⟨rfl, rfl⟩))
    (fun os started H enc _ => discAparts_lifted os started H enc)
/-- The given statement of DiscAparts. -/
theorem discAparts_holds : Rows.DiscApartsSaid := discAparts_over
end Go.Proofs.Ytkggejdbkllaaaa
