/- The reference's Parse. -/
import Derived.Test.YtkffleclofkjmaaCmn
import Derived.Test.YtkffleclofkjmaaCmk
import Derived.RegionTactic
import Derived.ChangeAlike
import Derived.BigRegion
import Derived.Deep.DeepCutAuto
namespace Go.Proofs.Ytkffleclofkjmaa
open Go.RowKit
set_option linter.unusedVariables false
set_option maxRecDepth 100000 in
set_option maxHeartbeats 6400000 in
theorem rparse0 (a0 : Option Addr) (n0 c0 : Nat) (xs : List Int) (w : World) (HK : Hk ((rdV false xs 1 7 0 0).1 = 0)) (hby : By w w.heap.size a0 n0 xs) (hnc : n0 ≤ c0) (hcm : c0 ≤ 9223372036854775807) (hnm : n0 ≤ 1099511627776) (han : a0 = none → c0 = 0) :
    Calls Try.prog 25 #[.slice a0 n0 c0] w (ParseR (parC xs) w) := by
  have HBW : Hk (Below w.heap.size w ((w.alloc (.cells #[.int .i64 0, .int .i64 0, .int .i64 0, .int .i64 0, .slice none 0 0, .int .i64 0, .int .i64 0, .int .i64 0, .int .i64 0, .int .i64 0] 28)).alloc (.cells #[.slice a0 n0 c0, .int .i64 0, .int .i64 0] 81))) := ⟨((Below.refl _ _).alloc (Nat.le_refl _) _).alloc (by simp) _⟩
  have HR0 : Hk (RdB ((w.alloc (.cells #[.int .i64 0, .int .i64 0, .int .i64 0, .int .i64 0, .slice none 0 0, .int .i64 0, .int .i64 0, .int .i64 0, .int .i64 0, .int .i64 0] 28)).alloc (.cells #[.slice a0 n0 c0, .int .i64 0, .int .i64 0] 81)) w.heap.size (w.heap.size + 1) a0 n0 c0 xs 0 0) := ⟨⟨by go_simp, by go_simp, by go_simp, by go_simp, by go_simp, hby.below HBW.out (Nat.le_refl _), by omega, hnc, hcm, hnm, han, by omega⟩⟩
  have HC0 : Hk (CmB ((w.alloc (.cells #[.int .i64 0, .int .i64 0, .int .i64 0, .int .i64 0, .slice none 0 0, .int .i64 0, .int .i64 0, .int .i64 0, .int .i64 0, .int .i64 0] 28)).alloc (.cells #[.slice a0 n0 c0, .int .i64 0, .int .i64 0] 81)) w.heap.size 0 0 0 0 none 0 0 0 0 0 0 0) := ⟨⟨by go_simp, by go_simp, by go_simp, by go_simp, by go_simp, by go_simp, by go_simp, by go_simp, by go_simp, by go_simp, fun j => by go_simp⟩⟩
  clear hby han
  go_enter Try.func25, Try.ntmps25
  go_upto_region 28 with (first | (go_at_call 49; (with_reducible refine (refnum_any 0 1099511627776 w.heap.size (w.heap.size + 1) a0 n0 c0 xs at2 e2 _ HRS2.out).mono ?_); rintro o w3 ⟨z3, at3, e3, rfl, hr, hrb, hfr, hsz⟩; have HX3 := Hk.mk hr; have HRB3 := Hk.mk hrb; clear hr hsz; have HCB3 := Hk.mk (HCS2.out.fr hfr (show ¬ w1.heap.size = (w.heap.size + 1) by omega)); (try clear b0 b1 b2 b3 b4 b5 b6 b7 b8 b9 g); (try clear g8); obtain ⟨b0, b1, b2, b3, b4, b5, b6, b7, b8, b9, bf⟩ := HCB3.out; have g := bf 1; clear bf; have HRS3 : Hk (RdB (w3.setCell ⟨w1.heap.size, 1, none⟩ (.int .i64 z3)) w.heap.size (w.heap.size + 1) a0 n0 c0 xs at3 e3) := ⟨HRB3.out.fr ((Fr.refl (fun j => j = w1.heap.size) w3).setCell (p := ⟨w1.heap.size, 1, none⟩) (fun _ => rfl) (.int .i64 z3)) (fun j hj e => by omega)⟩; have HCS3 : Hk (CmB (w3.setCell ⟨w1.heap.size, 1, none⟩ (.int .i64 z3)) w1.heap.size z2 z3 0 0 none 0 0 0 0 0 0 0) := ⟨⟨by go_simp, by go_simp, by go_simp, by go_simp, by go_simp, by go_simp, by go_simp, by go_simp, by go_simp, by go_simp, fun j => by have := HCB3.out.fz j; go_simp⟩⟩; have HS3 : Hk (Fr (fun j => j = (w.heap.size + 1) ∨ j = w1.heap.size) (w1.alloc (.cells #[.int .i64 0, .int .i64 0, .int .i64 0, .int .i64 0, .slice none 0 0, .int .i64 0, .int .i64 0, .int .i64 0, .int .i64 0, .int .i64 0] 28)) (w3.setCell ⟨w1.heap.size, 1, none⟩ (.int .i64 z3))) := ⟨((HS2.out).andThen hfr (fun j _ e => .inl e)).setCell (p := ⟨w1.heap.size, 1, none⟩) (fun _ => .inr rfl) (.int .i64 z3)⟩; clear hrb hfr) | (go_at_call 49; (with_reducible refine (refnum_any 1 8 w.heap.size (w.heap.size + 1) a0 n0 c0 xs at1 e1 _ HRB1.out).mono ?_); rintro o w2 ⟨z2, at2, e2, rfl, hr, hrb, hfr, hsz⟩; have HX2 := Hk.mk hr; have HRB2 := Hk.mk hrb; clear hr hsz; have HCB2 := Hk.mk (HCB1.out.fr hfr (show ¬ w1.heap.size = (w.heap.size + 1) by omega)); (try clear b0 b1 b2 b3 b4 b5 b6 b7 b8 b9 g); (try clear g8); obtain ⟨b0, b1, b2, b3, b4, b5, b6, b7, b8, b9, bf⟩ := HCB2.out; have g := bf 0; clear bf; have HRS2 : Hk (RdB (w2.setCell ⟨w1.heap.size, 0, none⟩ (.int .i64 z2)) w.heap.size (w.heap.size + 1) a0 n0 c0 xs at2 e2) := ⟨HRB2.out.fr ((Fr.refl (fun j => j = w1.heap.size) w2).setCell (p := ⟨w1.heap.size, 0, none⟩) (fun _ => rfl) (.int .i64 z2)) (fun j hj e => by omega)⟩; have HCS2 : Hk (CmB (w2.setCell ⟨w1.heap.size, 0, none⟩ (.int .i64 z2)) w1.heap.size z2 0 0 0 none 0 0 0 0 0 0 0) := ⟨⟨by go_simp, by go_simp, by go_simp, by go_simp, by go_simp, by go_simp, by go_simp, by go_simp, by go_simp, by go_simp, fun j => by have := HCB2.out.fz j; go_simp⟩⟩; have HS2 : Hk (Fr (fun j => j = (w.heap.size + 1) ∨ j = w1.heap.size) (w1.alloc (.cells #[.int .i64 0, .int .i64 0, .int .i64 0, .int .i64 0, .slice none 0 0, .int .i64 0, .int .i64 0, .int .i64 0, .int .i64 0, .int .i64 0] 28)) (w2.setCell ⟨w1.heap.size, 0, none⟩ (.int .i64 z2))) := ⟨((HS1.out).andThen hfr (fun j _ e => .inl e)).setCell (p := ⟨w1.heap.size, 0, none⟩) (fun _ => .inr rfl) (.int .i64 z2)⟩; clear hrb hfr) | (go_at_call 49; (with_reducible refine (refnum_any 1 7 w.heap.size (w.heap.size + 1) a0 n0 c0 xs 0 0 _ HR0.out).mono ?_); rintro o w1 ⟨z1, at1, e1, rfl, hr, hrb, hfr, hsz⟩; (obtain rfl : z1 = 0 := by have h0 := HK.out; rw [hr] at h0; exact h0); have HX1 := Hk.mk hr; have hz1 : w.heap.size + 1 < w1.heap.size := (by rw [← hsz]; simp); have HRB1 : Hk (RdB (w1.alloc (.cells #[.int .i64 0, .int .i64 0, .int .i64 0, .int .i64 0, .slice none 0 0, .int .i64 0, .int .i64 0, .int .i64 0, .int .i64 0, .int .i64 0] 28)) w.heap.size (w.heap.size + 1) a0 n0 c0 xs at1 e1) := ⟨hrb.fr ((Fr.refl (fun _ => False) w1).alloc _) (fun _ _ x => x)⟩; have HCB1 : Hk (CmB (w1.alloc (.cells #[.int .i64 0, .int .i64 0, .int .i64 0, .int .i64 0, .slice none 0 0, .int .i64 0, .int .i64 0, .int .i64 0, .int .i64 0, .int .i64 0] 28)) w1.heap.size 0 0 0 0 none 0 0 0 0 0 0 0) := ⟨CmB.box w1 0 0 0 0 none 0 0 0 0 0 0 0⟩; have HRZ : Hk (CmB (w1.alloc (.cells #[.int .i64 0, .int .i64 0, .int .i64 0, .int .i64 0, .slice none 0 0, .int .i64 0, .int .i64 0, .int .i64 0, .int .i64 0, .int .i64 0] 28)) w.heap.size 0 0 0 0 none 0 0 0 0 0 0 0) := ⟨(HC0.out.fr hfr (show ¬ w.heap.size = (w.heap.size + 1) by omega)).fr ((Fr.refl (fun _ => False) w1).alloc _) (fun x => x)⟩; have HF1 : Hk (Fr (fun j => w.heap.size ≤ j) w (w1.alloc (.cells #[.int .i64 0, .int .i64 0, .int .i64 0, .int .i64 0, .slice none 0 0, .int .i64 0, .int .i64 0, .int .i64 0, .int .i64 0, .int .i64 0] 28))) := ⟨((Fr.of_below HBW.out).andThen hfr (fun j _ e => by omega)).alloc _⟩; have HS1 : Hk (Fr (fun j => j = (w.heap.size + 1) ∨ j = w1.heap.size) (w1.alloc (.cells #[.int .i64 0, .int .i64 0, .int .i64 0, .int .i64 0, .slice none 0 0, .int .i64 0, .int .i64 0, .int .i64 0, .int .i64 0, .int .i64 0] 28)) (w1.alloc (.cells #[.int .i64 0, .int .i64 0, .int .i64 0, .int .i64 0, .slice none 0 0, .int .i64 0, .int .i64 0, .int .i64 0, .int .i64 0, .int .i64 0] 28))) := ⟨Fr.refl _ _⟩; clear hr hrb hfr hsz))
  (try clear b0 b1 b2 b3 b4 b5 b6 b7 b8 b9 g)
  (try clear g8)
  have HCL := HCS3
  have HRL := HRS3
  have HSL := HS3
  have HZL : Hk (CmB (w3.setCell ⟨w1.heap.size, 1, none⟩ (.int .i64 z3)) w.heap.size 0 0 0 0 none 0 0 0 0 0 0 0) := ⟨HRZ.out.fr HSL.out (by intro h; omega)⟩
  have HFL : Hk (Fr (fun j => w.heap.size ≤ j) w (w3.setCell ⟨w1.heap.size, 1, none⟩ (.int .i64 z3))) := ⟨HF1.out.andThen HSL.out (fun j hj h => by omega)⟩

  have HPR : Hk (parC xs = (0, z2, z3, ⟨0, [], 0, 0, 0, 0, 0⟩, at3, e3)) := ⟨by
    unfold parC
    rw [HX1.out]; dsimp only
    rw [HX2.out]; dsimp only
    rw [HX3.out]; dsimp only
    simp [partsL, rdL, zeroF]⟩
  have hRlt : (w.heap.size + 1) < (w3.setCell ⟨w1.heap.size, 1, none⟩ (.int .i64 z3)).heap.size := HRL.out.lt
  have hSlt : w.heap.size < (w3.setCell ⟨w1.heap.size, 1, none⟩ (.int .i64 z3)).heap.size := by omega
  have hClt : w1.heap.size < (w3.setCell ⟨w1.heap.size, 1, none⟩ (.int .i64 z3)).heap.size := World.block_lt_of_cell? _ _ HCL.out.c0
  clear HR0 HC0 HRZ HF1
  (try clear HRB1 HCB1 HS1)
  clear HRS2 HCS2 HS2 HRB2 HCB2
  clear HRS3 HCS3 HS3 HRB3 HCB3
  generalize (w3.setCell ⟨w1.heap.size, 1, none⟩ (.int .i64 z3)) = wr at *
  obtain ⟨y0, y1, y2, y3, y4, y5, y6, y7, y8, y9, yf⟩ := HZL.out
  have g0 := yf 0; have g1 := yf 1; have g2 := yf 2; have g3 := yf 3; have g4 := yf 4; have g5 := yf 5; have g6 := yf 6; have g7 := yf 7; have g8 := yf 8; have g9 := yf 9
  clear yf
  have r1 := HRL.out.c1
  have r2 := HRL.out.c2
  by_cases he : e3 = 0
  · have HE := Hk.mk he

    subst he
    obtain ⟨b0, b1, b2, b3, b4, b5, b6, b7, b8, b9, -⟩ := HCL.out
    go_wp2
    go_region
    go_wp2
    refine bodyPost_ret (v := .tuple #[.agg #[.int .i64 z2, .int .i64 z3, .int .i64 0, .int .i64 0, .slice none 0 0, .int .i64 0, .int .i64 0, .int .i64 0, .int .i64 0, .int .i64 0], .int .i64 (at3 : Nat), .int .i64 0]) (by simp [results, Try.results25, go_sem, y0, y1, y2, y3, y4, y5, y6, y7, y8, y9]) rfl ⟨?_, .inr ⟨z2, z3, 0, 0, none, 0, 0, [], 0, 0, 0, 0, 0, at3, HPR.out, OwnI.nil _ _, Nat.le_refl _, rfl⟩⟩
    · refine Fr.below (M := fun j => w.heap.size ≤ j) (Fr.drew ?_) (Nat.le_refl _) (fun j hj h => h)
      refine Fr.setCell ?_ (by intro _; exact Nat.le_refl _) _; refine Fr.setCell ?_ (by intro _; exact Nat.le_refl _) _; refine Fr.setCell ?_ (by intro _; exact Nat.le_refl _) _; refine Fr.setCell ?_ (by intro _; exact Nat.le_refl _) _; refine Fr.setCell ?_ (by intro _; exact Nat.le_refl _) _; refine Fr.setCell ?_ (by intro _; exact Nat.le_refl _) _; refine Fr.setCell ?_ (by intro _; exact Nat.le_refl _) _; refine Fr.setCell ?_ (by intro _; exact Nat.le_refl _) _; refine Fr.setCell ?_ (by intro _; exact Nat.le_refl _) _; refine Fr.setCell ?_ (by intro _; exact Nat.le_refl _) _; exact HFL.out
  · have b0 : (e3 == 0) = false := by simpa using he
    have b1 : (e3 != 0) = true := by simpa using he
    go_wp2
    go_region
    go_wp2
    refine bodyPost_ret (v := .tuple #[.agg #[.int .i64 0, .int .i64 0, .int .i64 0, .int .i64 0, .slice none 0 0, .int .i64 0, .int .i64 0, .int .i64 0, .int .i64 0, .int .i64 0], .int .i64 0, .int .i64 e3]) (by simp [results, Try.results25, go_sem, y0, y1, y2, y3, y4, y5, y6, y7, y8, y9]) rfl ⟨?_, .inl ⟨e3, he, by rw [HPR.out], rfl⟩⟩
    refine Fr.below (M := fun j => w.heap.size ≤ j) (Fr.drew ?_) (Nat.le_refl _) (fun j hj h => h)
    refine Fr.setCell ?_ (by intro _; exact Nat.le_refl _) _; refine Fr.setCell ?_ (by intro _; exact Nat.le_refl _) _; refine Fr.setCell ?_ (by intro _; exact Nat.le_refl _) _; refine Fr.setCell ?_ (by intro _; exact Nat.le_refl _) _; refine Fr.setCell ?_ (by intro _; exact Nat.le_refl _) _; refine Fr.setCell ?_ (by intro _; exact Nat.le_refl _) _; refine Fr.setCell ?_ (by intro _; exact Nat.le_refl _) _; refine Fr.setCell ?_ (by intro _; exact Nat.le_refl _) _; refine Fr.setCell ?_ (by intro _; exact Nat.le_refl _) _; refine Fr.setCell ?_ (by intro _; exact Nat.le_refl _) _; exact HFL.out
end Go.Proofs.Ytkffleclofkjmaa
