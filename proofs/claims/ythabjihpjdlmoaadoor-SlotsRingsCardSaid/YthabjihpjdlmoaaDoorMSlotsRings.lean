import Derived.Deep.QuietTactic
import Derived.BigQuiet
import Derived.Deep.RegionWith
import Derived.Deep.RegionHeld3
import Derived.Deep.DeepCutAuto
import Derived.Deep.DeepFit
import Derived.Outline
import Derived.SevenTiedAt
import Derived.ProofKit
import Derived.LaidMore
import Derived.OpenShut
import Derived.Stop.Joined
import Derived.Test.YthabjihpjdlmoaaDoorSkac
import Derived.Test.YthabjihpjdlmoaaDoorCards
import Derived.Test.YthabjihpjdlmoaaDoorTie
/- For every argument, SlotsRings answers true and leaves its argument as it was: rings about a goal on a plain ground. No condition; the table of package kind is tied to the program's text. -/
namespace Go.Proofs.YthabjihpjdlmoaaDoor
open Go.ChangeShapes Go.WideShapes Go.ChangeAt Go.RowKit Go.Deep
set_option maxRecDepth 100000
set_option linter.unusedVariables false
set_option linter.unusedSimpArgs false
def ring25a : List Nat := [312, 286, 287, 288, 311, 313, 336, 337, 338, 260, 261, 262, 263, 264, 285, 289, 310, 314, 335, 339, 360, 361, 362, 363, 364]
def ring25b : List Nat := [312, 234, 237, 240, 309, 315, 384, 387, 390, 156, 159, 162, 165, 168, 231, 243, 306, 318, 381, 393, 456, 459, 462, 465, 468]
theorem ring25a_eq : (slL 25 312 625 (inP 25 25 0) (2 * ((0 : Nat) : Int) + 1) 3).take 25 = ring25a := by decide +kernel
theorem ring25b_eq : (slL 25 312 625 (inP 25 25 1) (2 * ((1 : Nat) : Int) + 1) 7).take 25 = ring25b := by decide +kernel
def rgOK (g : Int) (i t : Nat) : Bool := decide (t < 625 ∧ max (max ((t : Int) % 25 - 12) (-((t : Int) % 25 - 12))) (max ((t : Int) / 25 - 12) (-((t : Int) / 25 - 12))) = (if i < 1 then 0 else if i < 9 then 1 else 2) * g ∧ ((t : Int) % 25 - 12) % g = 0 ∧ ((t : Int) / 25 - 12) % g = 0)
theorem ring25a_ok : ∀ i : Fin 25, rgOK 1 i (ring25a.getD i 0) = true := by decide +kernel
theorem ring25b_ok : ∀ i : Fin 25, rgOK 3 i (ring25b.getD i 0) = true := by decide +kernel
/-- What the law asks of the places, for either size. -/
theorem ring25 (k : Nat) (hk : k < 2) : ∃ R : List Nat, slA 25 25 312 625 (inP 25 25 k) (2 * (k : Int) + 1) 25 = R ∧ R.length = 25 ∧ R.getD 0 0 = 312 ∧ ∀ i, i < 25 → R.getD i 0 < 625 ∧ max (max (((R.getD i 0 : Nat) : Int) % 25 - 12) (-(((R.getD i 0 : Nat) : Int) % 25 - 12))) (max (((R.getD i 0 : Nat) : Int) / 25 - 12) (-(((R.getD i 0 : Nat) : Int) / 25 - 12))) = (if i < 1 then 0 else if i < 9 then 1 else 2) * (2 * (k : Int) + 1) ∧ (((R.getD i 0 : Nat) : Int) % 25 - 12) % (2 * (k : Int) + 1) = 0 ∧ (((R.getD i 0 : Nat) : Int) / 25 - 12) % (2 * (k : Int) + 1) = 0 := by
  have h2 : k = 0 ∨ k = 1 := by omega
  rcases h2 with rfl | rfl
  · refine ⟨ring25a, ?_, rfl, rfl, fun i hi => ?_⟩
    · rw [← slA_end (f := 3) (by omega) (by omega) (by omega) (by omega) (by rw [ring25a_eq]; exact fun h => absurd h.2 (by decide)), ring25a_eq]
    · exact of_decide_eq_true (ring25a_ok ⟨i, hi⟩)
  · refine ⟨ring25b, ?_, rfl, rfl, fun i hi => ?_⟩
    · rw [← slA_end (f := 7) (by omega) (by omega) (by omega) (by omega) (by rw [ring25b_eq]; exact fun h => absurd h.2 (by decide)), ring25b_eq]
    · exact of_decide_eq_true (ring25b_ok ⟨i, hi⟩)
theorem own_form25 {w : World} {S : Nat} {v : Value} {R : List Nat} (h : w.ownsRow S 3 1 v 25 (natsL R)) : ∃ g c, v = .slice (some ⟨g, 0, none⟩) 25 c ∧ g < w.heap.size := by
  have hlt := h.lt
  rcases h.2 with ⟨e, h0⟩ | ⟨g, cap, cur, e, hg, hh, _⟩
  · omega
  · exact ⟨g, cap, e, (Array.getElem?_eq_some_iff.1 hh).1⟩
theorem own_at25 {w : World} {S g c : Nat} {R : List Nat} (h : w.ownsRow S 3 1 (.slice (some ⟨g, 0, none⟩) 25 c) 25 (natsL R)) (hl : R.length = 25) : ∀ j, j < 25 → w.cell? ⟨g, j, none⟩ = some (.int .i64 ((R.getD j 0 : Nat) : Int)) := fun j hj => by
  rw [h.cellAt j (by omega)]
  simp [natsL, List.getD, show j < R.length by omega]
theorem pl20_by {X : World} {g n B : Nat} {T : TypeId} (h : Arr X g n T (fun _ => .int .u8 0)) (hg : g < B) : By X B (some ⟨g, 0, none⟩) n (List.replicate n 0) :=
  ⟨by simp, fun b hb => by rw [(List.mem_replicate.1 hb).2]; unfold Fn.Byt; omega, fun hn => ⟨g, 0, rfl, hg, fun k hk => by rw [Nat.zero_add, h.cell hk]; show _ = some (Value.int .u8 ((List.replicate n 0).getD k 0)); rw [zero_at]⟩⟩
theorem mx21 {a b A : Int} (h : (if a < b then b else a) = A) : A = max a b := by subst h; split <;> omega
theorem tmod21 {x g : Int} : x.tmod g = 0 ↔ x % g = 0 := by
  rw [← Int.dvd_iff_tmod_eq_zero, Int.dvd_iff_emod_eq_zero]
set_option maxRecDepth 100000 in
set_option maxHeartbeats 6400000 in
theorem slotsRings_go (W H : Int) (a : Option Addr) (n c : Nat) (la : Option Addr) (ln lc : Nat) (x sz : Int) (ta : Option Addr) (tn tc : Nat) (na : Option Addr) (nn nc : Nat) (w : World) (hL : LC w) (hnn : nn ≤ 9223372036854775807) :
    Calls Tryd.prog 16 #[.agg #[.int .i64 W, .int .i64 H, .slice a n c, .slice la ln lc, .int .i64 x, .int .i64 sz, .slice ta tn tc, .slice na nn nc]] w fun e w' => e = .returned (.bool true) ∧ Below w.heap.size w w' := by
  have info_b : (Tryd.prog.info? 5).map (fun i => (i.zero, i.size, i.bytes)) = some (some (.int .u8 0), 1, 1) := by kernel_rfl
  obtain ⟨i0, hi, hz0, hz1, hz2⟩ := info_parts info_b
  clear info_b
  have HWB : Hk (Below w.heap.size w (w.alloc (.cells #[.int .i64 W, .int .i64 H, .slice a n c, .slice la ln lc, .int .i64 x, .int .i64 sz, .slice ta tn tc, .slice na nn nc] 66))) := ⟨(Below.refl _ _).alloc (Nat.le_refl _) _⟩
  have hNW : w.heap.size + 1 ≤ (w.alloc (.cells #[.int .i64 W, .int .i64 H, .slice a n c, .slice la ln lc, .int .i64 x, .int .i64 sz, .slice ta tn tc, .slice na nn nc] 66)).heap.size := by simp
  have HB : Hk (Below (w.heap.size + 1) (w.alloc (.cells #[.int .i64 W, .int .i64 H, .slice a n c, .slice la ln lc, .int .i64 x, .int .i64 sz, .slice ta tn tc, .slice na nn nc] 66)) (w.alloc (.cells #[.int .i64 W, .int .i64 H, .slice a n c, .slice la ln lc, .int .i64 x, .int .i64 sz, .slice ta tn tc, .slice na nn nc] 66))) := ⟨Below.refl _ _⟩
  have HTR : Hk (∀ X, Below (w.heap.size + 1) (w.alloc (.cells #[.int .i64 W, .int .i64 H, .slice a n c, .slice la ln lc, .int .i64 x, .int .i64 sz, .slice ta tn tc, .slice na nn nc] 66)) X → Below w.heap.size w X) := ⟨fun X hX => HWB.out.trans (hX.mono (by omega))⟩
  have HLF := Hk.mk (fun (X : World) (hX : Below (w.heap.size + 1) (w.alloc (.cells #[.int .i64 W, .int .i64 H, .slice a n c, .slice la ln lc, .int .i64 x, .int .i64 sz, .slice ta tn tc, .slice na nn nc] 66)) X) => hL.below (HTR.out X hX) (Nat.le_refl _))
  have hgs : (w.alloc (.cells #[.int .i64 W, .int .i64 H, .slice a n c, .slice la ln lc, .int .i64 x, .int .i64 sz, .slice ta tn tc, .slice na nn nc] 66)).heap.size = w.heap.size + 1 := by simp
  clear hL
  go_enter Tryd.func16, Tryd.ntmps16
  go_wp2_with (at_make; go_must (refine wpList_make_full _ rfl _ _ 22 rfl (w.heap.size + 1) 5 i0 (.int .u8 0) 1 Tryd.underlying22 hi hz0 hz1 .i64 .i64 _ _ 625 rfl rfl rfl rfl (by rw [hz2]; omega) (by unfold maxLen; omega) (kw_size HB.out hNW) ?_); intro z1 hown hgrow; have HA := Hk.mk (Arr.made hown rfl (z := .int .u8 0)); have HZ1 := Hk.mk (HB.out.trans ((below_grown hgrow).mono (kw_size HB.out hNW))); have HGP := Hk.mk HA.out.lt; clear hown hgrow)
  have HA5 : Hk (Arr (z1.alloc (.cells #[.int .i64 25, .int .i64 25, .slice (some ⟨w.heap.size + 1, 0, none⟩) 625 625] 24)) (w.heap.size + 1) 625 5 (fun _ => .int .u8 0)) := ⟨by have := HA.out.alloc (.cells #[.int .i64 25, .int .i64 25, .slice (some ⟨w.heap.size + 1, 0, none⟩) 625 625] 24); rw [hgs] at this; exact this⟩
  have HV : Hk (Below (w.heap.size + 1) (w.alloc (.cells #[.int .i64 W, .int .i64 H, .slice a n c, .slice la ln lc, .int .i64 x, .int .i64 sz, .slice ta tn tc, .slice na nn nc] 66)) (z1.alloc (.cells #[.int .i64 25, .int .i64 25, .slice (some ⟨w.heap.size + 1, 0, none⟩) 625 625] 24))) := ⟨HZ1.out.alloc (kw_size HZ1.out hNW) _⟩
  have D0 : (z1.alloc (.cells #[.int .i64 25, .int .i64 25, .slice (some ⟨w.heap.size + 1, 0, none⟩) 625 625] 24)).cell? ⟨z1.heap.size, 0, none⟩ = some (.int .i64 25) := by go_simp
  have D1 : (z1.alloc (.cells #[.int .i64 25, .int .i64 25, .slice (some ⟨w.heap.size + 1, 0, none⟩) 625 625] 24)).cell? ⟨z1.heap.size, 1, none⟩ = some (.int .i64 25) := by go_simp
  have D2 : (z1.alloc (.cells #[.int .i64 25, .int .i64 25, .slice (some ⟨w.heap.size + 1, 0, none⟩) 625 625] 24)).cell? ⟨z1.heap.size, 2, none⟩ = some (.slice (some ⟨w.heap.size + 1, 0, none⟩) 625 625) := by go_simp
  have D3 : z1.heap.size < (z1.alloc (.cells #[.int .i64 25, .int .i64 25, .slice (some ⟨w.heap.size + 1, 0, none⟩) 625 625] 24)).heap.size := by simp
  have D4 : w.heap.size < (z1.alloc (.cells #[.int .i64 25, .int .i64 25, .slice (some ⟨w.heap.size + 1, 0, none⟩) 625 625] 24)).heap.size := by have := kw_size HV.out hNW; omega
  have D5 : (z1.alloc (.cells #[.int .i64 25, .int .i64 25, .slice (some ⟨w.heap.size + 1, 0, none⟩) 625 625] 24)).cell? ⟨w.heap.size, 7, none⟩ = some (.slice na nn nc) := by
    rw [HV.out.cell (by show w.heap.size < _; omega)]
    go_simp
  clear HB HA HZ1 HGP
  generalize (z1.alloc (.cells #[.int .i64 25, .int .i64 25, .slice (some ⟨w.heap.size + 1, 0, none⟩) 625 625] 24)) = V at *
  generalize z1.heap.size = P at *
  generalize hG : w.heap.size + 1 = G at *
  have HBV : Hk (∀ X, Below V.heap.size V X → By X V.heap.size (some ⟨G, 0, none⟩) 625 (List.replicate 625 0)) := ⟨fun X hX => pl20_by (HA5.out.later hX) HA5.out.lt⟩
  have HLX : Hk (∀ X, Below V.heap.size V X → LC X) := ⟨fun X hX => HLF.out _ (HV.out.trans (hX.mono (kw_size HV.out hNW)))⟩
  have HFI : Hk (∀ X, Below V.heap.size V X → Below w.heap.size w X) := ⟨fun X hX => HTR.out _ (HV.out.trans (hX.mono (kw_size HV.out hNW)))⟩
  clear HA5 HLF HTR HWB HV hNW hgs
  go_loopw [4] (fun i wr => ∃ k : Nat, i = .int .i64 k ∧ k ≤ 2 ∧ Hk (Below V.heap.size V wr)) (fun i _ => (2 - intOf i).toNat)
  case atStart => exact ⟨0, rfl, by omega, ⟨Below.refl _ _⟩⟩
  case round =>
    obtain ⟨k, rfl, hk2, HC⟩ := hrel
    obtain ⟨hc, hf, hl, hn', hm⟩ := kw_rules HC.out (Nat.le_refl _)
    by_cases hk : k < 2
    · have bk : decide ((k : Int) ≤ 1) = true := by simp; omega
      obtain ⟨R, hR, hlen, h00, hprop⟩ := ring25 k hk
      have HRR := Hk.mk hR
      have HRL := Hk.mk hlen
      have HPR := Hk.mk hprop
      have HR0 := Hk.mk h00
      clear hR hlen hprop h00
      go_wp2_with (first
        | (go_at_call 46; (with_reducible refine (sfind_plain 25 25 (some ⟨G, 0, none⟩) 625 625 k 312 25 k 312 25 R _ ?_ ?_ (by omega) (by omega) (by omega) (by omega) (by omega) (by omega) (by omega) (by omega) ⟨rfl⟩ ⟨rfl⟩ ⟨rfl⟩ HRR).mono ?_); (exact HLX.out _ HC.out); (exact (HBV.out _ HC.out).mono HC.out.size); rintro e z2 ⟨v, rfl, hv, hb⟩; rw [HRL.out] at hv; obtain ⟨J, cJ, rfl, hJl⟩ := own_form25 hv; have HCE := Hk.mk (own_at25 hv HRL.out); have c0 : z2.cell? ⟨J, 0, none⟩ = some (.int .i64 312) := (by have q := HCE.out 0 (by omega); rw [HR0.out] at q; exact q); have HJL := Hk.mk hJl; replace HC := Hk.mk (kw_step HC.out (Nat.le_refl _) hb); clear hv hb hJl; clear hc hf hl hn' hm; obtain ⟨hc, hf, hl, hn', hm⟩ := kw_rules HC.out (Nat.le_refl _))
        | (go_at_call 47; (with_reducible refine (num20_any _ _).mono ?_); rintro e z ⟨rfl, rfl⟩))
      have HC := HC
      have HCE := HCE
      have HJL := HJL
      clear hc hf hl hn' hm
      obtain ⟨zz, rfl⟩ : ∃ zz : World, zz = z2 := ⟨z2, rfl⟩
      have hJz := HJL.out
      have HCZ : Hk (∀ X, Below zz.heap.size zz X → Below V.heap.size V X) := ⟨fun X hX => HC.out.trans (hX.mono HC.out.size)⟩
      obtain ⟨gp, hgp⟩ : ∃ q, 2 * (k : Int) + 1 = q := ⟨_, rfl⟩
      have HGP := Hk.mk hgp
      have gb : 1 ≤ gp ∧ gp ≤ 3 := by omega
      have gp0 : ¬ gp = 0 := by omega
      have wg1 : IntKind.i64.wrap (2 * (k : Int)) = 2 * (k : Int) := by rw [IntKind.wrap_i64]; omega
      have wg2 : IntKind.i64.wrap gp = gp := by rw [IntKind.wrap_i64]; omega
      have wg3 : IntKind.i64.wrap (2 * gp) = 2 * gp := by rw [IntKind.wrap_i64]; omega
      clear HC c0
      go_loopw [8] (fun i wr => ∃ i' : Nat, i = .int .i64 i' ∧ i' ≤ 25 ∧ Hk (Below zz.heap.size zz wr)) (fun i _ => (25 - intOf i).toNat)
      case atStart => exact ⟨0, rfl, by omega, ⟨Below.refl _ _⟩⟩
      case round =>
        obtain ⟨i, rfl, hi25, HC⟩ := hrel
        obtain ⟨hc, hf, hl, hn', hm⟩ := kw_rules HC.out (Nat.le_refl _)
        by_cases hi' : i < 25
        · have i0 : (0 : Int) ≤ (i : Int) := by omega
          have i1 : (i : Int) < 25 := by omega
          have ct := HCE.out i hi'
          obtain ⟨p1, p2, p3, p4⟩ := HPR.out i hi'
          rw [HGP.out] at p2 p3 p4
          generalize R.getD i 0 = t at *
          have t0 : (0 : Int) ≤ (t : Int) := by omega
          have tm : (t : Int).tmod 25 = (t : Int) % 25 := Int.tmod_eq_emod_of_nonneg (by omega)
          have td : (t : Int).tdiv 25 = (t : Int) / 25 := Int.tdiv_eq_ediv_of_nonneg (by omega)
          have bx : 0 ≤ (t : Int) % 25 ∧ (t : Int) % 25 ≤ 24 := by omega
          have by' : 0 ≤ (t : Int) / 25 ∧ (t : Int) / 25 ≤ 24 := by omega
          generalize (t : Int) % 25 = tx at *
          generalize (t : Int) / 25 = ty at *
          obtain ⟨X, hX⟩ : ∃ q, tx - 12 = q := ⟨_, rfl⟩
          obtain ⟨Y, hY⟩ : ∃ q, ty - 12 = q := ⟨_, rfl⟩
          rw [hX, hY] at p2
          rw [hX] at p3
          rw [hY] at p4
          have bX : -12 ≤ X ∧ X ≤ 12 := by omega
          have bY : -12 ≤ Y ∧ Y ≤ 12 := by omega
          have hxm : X.tmod gp = 0 := tmod21.2 p3
          have hym : Y.tmod gp = 0 := tmod21.2 p4
          obtain ⟨M1, mA⟩ : ∃ A', (if X < -X then -X else X) = A' := ⟨_, rfl⟩
          obtain ⟨M2, mB⟩ : ∃ A', (if Y < -Y then -Y else Y) = A' := ⟨_, rfl⟩
          have r1 := mx21 mA
          have r2 := mx21 mB
          rw [← r1, ← r2] at p2
          have r3 : (if M1 < M2 then M2 else M1) = max M1 M2 := by split <;> omega
          clear p3 p4 r1 r2
          rcases (show i = 0 ∨ (1 ≤ i ∧ i < 9) ∨ 9 ≤ i by omega) with e | ⟨e1, e2⟩ | e
          · subst e
            rw [if_pos (by omega), Int.zero_mul] at p2
            rw [p2] at r3
            as_aux_lemma =>
              go_upto_region 12 with fail
              go_quiet (fail)
              go_wp2_with fail
              exact ⟨⟨1, by go_num, by omega, ⟨below_drewN HC.out _⟩⟩, by simp [intOf]⟩
          · rw [if_neg (by omega), if_pos e2, Int.one_mul] at p2
            rw [p2] at r3
            have d1 : decide (1 ≤ (i : Int)) = true := by simp; omega
            have d2 : decide (9 ≤ (i : Int)) = false := by simp; omega
            have d1n : decide (1 ≤ i) = true := by simp; omega
            have d2n : decide (9 ≤ i) = false := by simp; omega
            clear e1 e2
            as_aux_lemma =>
              go_upto_region 12 with fail
              go_quiet (fail)
              go_wp2_with fail
              exact ⟨⟨i + 1, by go_num, by omega, ⟨below_drewN HC.out _⟩⟩, by simp [intOf]; omega⟩
          · rw [if_neg (by omega), if_neg (by omega)] at p2
            rw [p2] at r3
            have d1 : decide (1 ≤ (i : Int)) = true := by simp; omega
            have d2 : decide (9 ≤ (i : Int)) = true := by simp; omega
            have d1n : decide (1 ≤ i) = true := by simp; omega
            have d2n : decide (9 ≤ i) = true := by simp; omega
            clear e
            as_aux_lemma =>
              go_upto_region 12 with fail
              go_quiet (fail)
              go_wp2_with fail
              exact ⟨⟨i + 1, by go_num, by omega, ⟨below_drewN HC.out _⟩⟩, by simp [intOf]; omega⟩
        · obtain rfl : i = 25 := by omega
          clear hi'
          as_aux_lemma =>
            go_wp2_with fail
            exact ⟨⟨k + 1, by go_num, by omega, ⟨HCZ.out _ HC.out⟩⟩, by simp [intOf]; omega⟩
    · obtain rfl : k = 2 := by omega
      clear hk
      as_aux_lemma =>
        go_wp2_with (first
          | (go_at_call 46; (with_reducible refine (sfind_plain 25 25 (some ⟨G, 0, none⟩) 625 625 0 0 0 0 0 0 [] _ ?_ ?_ (by omega) (by omega) (by omega) (by omega) (by omega) (by omega) (by omega) (by omega) ⟨rfl⟩ ⟨rfl⟩ ⟨rfl⟩ ⟨by unfold slA; rw [List.take_zero]⟩).mono ?_); (exact HLX.out _ HC.out); (exact (HBV.out _ HC.out).mono HC.out.size); rintro e z2 ⟨v, rfl, hv, hb⟩; obtain ⟨v0a, v0c, rfl, _⟩ := own_form20 hv; replace HC := Hk.mk (kw_step HC.out (Nat.le_refl _) hb); clear hv hb; clear hc hf hl hn' hm; obtain ⟨hc, hf, hl, hn', hm⟩ := kw_rules HC.out (Nat.le_refl _))
          | (go_at_call 47; (with_reducible refine (num20_any _ _).mono ?_); rintro e z ⟨rfl, rfl⟩)
          | (go_at_call 48; (with_reducible refine (wakes20_any _ (HLX.out _ HC.out)).mono ?_); rintro e z ⟨rfl, hb⟩; replace HC := Hk.mk (kw_step HC.out (Nat.le_refl _) hb); clear hb; clear hc hf hl hn' hm; obtain ⟨hc, hf, hl, hn', hm⟩ := kw_rules HC.out (Nat.le_refl _)))
        go_ret
        exact ⟨rfl, HFI.out _ HC.out⟩
theorem slotsRings_walk (v : Value) (w : World) (hL : LC w) (rows : Asks20 w v) :
    Calls Tryd.prog 16 #[v] w fun e w' => e = .returned (.bool true) ∧ Below w.heap.size w w' := by
  obtain ⟨W, H, a, n, c, xs, la, ln, lc, bs, x, sz, ta, tn, tc, ts, na, nn, nc, ns, rfl, hn, hln, htn, hnn, hlc, hW, hH, hx, hsz, hby, hbq, hnq, hnq2⟩ := rows
  exact slotsRings_go W H a n c la ln lc x sz ta tn tc na nn nc w hL hnn

theorem slotsRings_own : ownKnob Tryd.prog.godebug = none := by kernel_rfl
theorem slotsRings_laidOut : laidOutB Tryd.prog = true := by kernel_rfl
theorem slotsRings_door (os : Os) (args : Array Value) : laidMetH Tryd.prog [("throng/kind.costs", Rows.laid_throng_kind_costs)] ((World.doorLaid Tryd.prog 400 os).forCall (fun _ _ => 0) ⟨#[], args, []⟩).memory :=
  laidMetH_of_parts3 (fuel := 8) (laidMet_of_run' 8 (by kernel_rfl) (by kernel_rfl)) (by kernel_rfl) (by kernel_rfl)
set_option maxRecDepth 100000 in
theorem slotsRings_lifted (os : Os) (started : os.Started) (H : Type) (enc : TypeId × Value → H) :
    ReturnsInHanded {} Tryd.checked os 16 .any (fun w args => (Rows.slotsRingsSpec.pre enc Tryd.prog Tryd.f16 [] false w args ∧ laidMetH Tryd.prog [("throng/kind.costs", Rows.laid_throng_kind_costs)] w) ∧ sizedMet enc Tryd.prog Tryd.f16 (OpenSpec.ofChange Rows.slotsRingsSpec) false w args)
      (Rows.slotsRingsSpec.post enc Tryd.prog Tryd.f16 false true false false) := by
  refine returnsInHanded_of_change_and (C := Tryd.checked) (X := fun w _ => laidMetH Tryd.prog [("throng/kind.costs", Rows.laid_throng_kind_costs)] w) (fun _ _ _ hh h => h.of_heap hh) slotsRings_own started (by kernel_rfl) Tryd.func16
    (ChangeSpec.witness_shaped (enc := enc) (C := Tryd.checked) (os := os) (X := fun w _ => laidMetH Tryd.prog [("throng/kind.costs", Rows.laid_throng_kind_costs)] w) false (World.doorLaid Tryd.prog 400 os) #[.agg #[.int .i64 0, .int .i64 0, .slice none 0 0, .slice none 0 0, .int .i64 0, .int .i64 0, .slice none 0 0, .slice none 0 0]] 8 rfl (World.shaped_of_RefB (by kernel_rfl) (by kernel_rfl)) (by kernel_rfl) (by kernel_rfl) (by kernel_rfl) (slotsRings_door os _)) ?_
  intro W base args ds gs before hval0 hW _ _ hL _
  have hval : ∀ (j : Nat) t v, Tryd.f16.params[j]? = some t → args[j]? = some v → Value.okWide Tryd.prog W .any base t v := hval0
  have hW' := hW
  obtain ⟨p, q, hA0, hV, rfl, hfz, hnd⟩ := hW
  have hA : DataW.TrodAll enc Tryd.prog W 0 (fun _ => true) true Tryd.f16.params.toList args.toList ds p := hA0
  rw [Tryd.params16] at hA hval
  obtain ⟨v0, vs0, d0, ds0, p0, q0, hargs, rfl, rfl, h0, r0⟩ := trodAll_cons hA
  obtain ⟨rfl, rfl, rfl⟩ := trodAll_nil r0
  obtain rfl : args = #[v0] := by cases args; simp_all
  obtain ⟨rfl, rfl⟩ := trodVars_none hV
  obtain ⟨cs0, rfl, hcs0⟩ := okWide_struct Tryd.underlying66 (hval 0 66 v0 rfl rfl)
  have k0 := h0
  have lt0 : ∀ x ∈ p0, x.block < W.heap.size := by obtain ⟨m, hm⟩ := k0; exact DataW.trod_lt m _ _ _ hm
  have rows : Asks20 W (.agg cs0) := by obtain ⟨fuel, hf⟩ := h0; exact asks20_of hcs0 hf
  clear hA0 hval0
  refine (slotsRings_walk (.agg cs0) W (of_laidC hL) rows).mono fun e W' ⟨he, bel⟩ => ?_
  subst he
  exact ⟨_, rfl, _, _, _, [], _, [], hW', trodAll_mk1 (shut_bool Tryd.underlying4 _), (trodAll_cons_mk (Below.trod slotsRings_laidOut (by kernel_rfl) (of_decide_eq_true (by kernel_rfl)) k0 bel lt0) trodAll_mk0), rfl, bel.frame _, fun h => by cases h⟩
theorem slotsRings_over : Rows.SlotsRingsSaid :=
  OpenClaim.holds_of_wide 16 Tryd.f16 rfl rfl rfl rfl rfl rfl rfl ⟨rfl, rfl, rfl, rfl, rfl⟩ rfl rfl rfl rfl rfl (by kernel_rfl) Tryd.func16 (by kernel_rfl)
    (of_decide_eq_true (by kernel_rfl)) (by unfold Func.isWrapper; first | (rw [if_pos (by decide +kernel)]; kernel_rfl) | (rw [if_neg (by decide +kernel)]; exact ⟨rfl, rfl⟩))
    (fun os started H enc _ => slotsRings_lifted os started H enc)
/-- The given card of SlotsRings. -/
theorem slotsRings_card : Rows.SlotsRingsCardSaid :=
  Claim7.holds_tied_plain_at .later [] [.data] true (true, "90ed51393f35b406bdee0705b6f0a8d051456ef454f3ffd6e600d1670cebcd34") false
    slotsRings_over (fun _ h => by cases h) (by kernel_rfl) (fun _ h => by cases h) slotsRings_row_tie rfl ⟨rfl, rfl⟩ (by kernel_rfl) rfl
    (fun f fn hf hfn => by
      obtain rfl : f = 16 := Option.some.inj ((show Tryd.prog.funcNamed "throng/thronglaw20.SlotsRings" = some 16 by kernel_rfl).symm.trans hf) |>.symm
      obtain rfl : fn = Tryd.f16 := (Option.some.inj (Tryd.func16.symm.trans hfn)).symm
      exact ⟨by kernel_rfl, fun j t ht => by
        rw [Tryd.params16] at ht
        have hm : t ∈ [66] := by simpa using Array.mem_of_getElem? ht
        have hall : ([66].all fun u => !Tryd.prog.wantsStandIn u) = true := by kernel_rfl
        exact (show Tryd.prog.wantsStandIn t = false by simpa using List.all_eq_true.1 hall t hm)⟩)
    (by kernel_rfl)
end Go.Proofs.YthabjihpjdlmoaaDoor

