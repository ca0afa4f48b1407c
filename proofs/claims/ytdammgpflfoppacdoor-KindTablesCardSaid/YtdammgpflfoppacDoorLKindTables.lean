/- For every list, KindTables answers true and leaves its argument as it was: what a kind has, and what a tile costs, is the page's or refused. No condition; the tables of package kind are tied to the program's text. -/
import Derived.Test.YtdammgpflfoppacDoorKnc
import Derived.Test.YtdammgpflfoppacDoorKnd
import Derived.Test.YtdammgpflfoppacDoorCards
import Derived.Test.YtdammgpflfoppacDoorTie
import Derived.SevenTiedAt
import Derived.ProofKit
import Derived.LaidMore
import Derived.OpenShut
import Derived.Stop.Joined
namespace Go.Proofs.YtdammgpflfoppacDoor
open Go.ChangeShapes Go.WideShapes Go.ChangeAt Go.RowKit
set_option linter.unusedVariables false
theorem rcost_as (c t : Nat) (x y r : Int) (w : World) (hc : c < 3) (ht : t < 6) (hx : Hk (x = c)) (hy : Hk (y = t)) (hr : Hk (costS c t = r)) : Calls Tryd.prog 11 #[.int .i64 x, .int .u8 y] w fun e w' => e = .returned (.int .i64 r) ∧ Below w.heap.size w w' := by
  rw [hx.out, hy.out, ← hr.out]; exact rcost_any c t w hc ht
set_option maxRecDepth 100000 in
set_option maxHeartbeats 3200000 in
theorem kindTables_walk (a : Option Addr) (len cap : Nat) (w : World) (hk : LK w) (rows : RowsN w a len cap) :
    Calls Tryd.prog 3 #[.slice a len cap] w fun e w' => e = .returned (.bool true) ∧ Below w.heap.size w w' := by
  obtain ⟨i0, hi, hz0, hz1, hz2⟩ := info_parts info_i64
  obtain ⟨xs, hlen, hnu⟩ := rows
  have HW := Hk.mk hk
  have HN := Hk.mk hnu
  clear hk hnu
  go_enter Tryd.func3, Tryd.ntmps3
  go_wp2
  go_loopw [3, 4] (fun m i wr => ∃ (k : Nat) (ys : List Int), k ≤ 20 ∧ k ≤ len ∧ i = .int .i64 k ∧ Hk (wr.ownsRow w.heap.size 3 1 m (8 + k) (ys.map (Value.int .i64))) ∧ Hk (Below w.heap.size w wr)) (fun _ i _ => 20 - (intOf i).toNat)
  case atStart => exact ⟨0, [-1, 0, 1, 2, 3, 4, 1099511627776, -9223372036854775808], by omega, by omega, rfl, ⟨own_lit w [-1, 0, 1, 2, 3, 4, 1099511627776, -9223372036854775808] 8 rfl (by omega)⟩, ⟨(Below.refl _ _).alloc (Nat.le_refl _) _⟩⟩
  case round =>
    obtain ⟨k, ys, hk20, hkl, rfl, HO, HB⟩ := hrel
    by_cases hlt : k < len ∧ k < 20
    · obtain ⟨hlt1, hlt2⟩ := hlt
      obtain ⟨b, off, rfl, hbl, hc⟩ := HN.out.rd (by omega)
      have hcx := (HB.out.cell (p := ⟨b, off + k, none⟩) hbl).trans (hc k hlt1)
      have hsz := HB.out.size
      have hown := HO.out
      clear hc
      generalize xs.getD k 0 = X at *
      go_wp2_with (at_builtin; refine wpList_append_own _ rfl _ _ 22 rfl w.heap.size 3 i0 (.int .i64 0) 1 8 Tryd.underlying22 hi hz0 hz1 hz2 rfl (by decide) _ _ _ rfl (hown.alloc _) ⟨wr.heap.size, 0, none⟩ 1 1 [.int .i64 X] rfl rfl ?c1 ?c2 ?c3 ?c4 ?c5 ?_)
      case c1 =>
        intro j u hj
        match j, hj with
        | 0, hj => simp at hj; subst hj; simp [Addr.add]
      case c2 => intro u hu; simp at hu; subst hu; rfl
      case c3 => unfold maxLen; omega
      case c4 => omega
      case c5 => simp; omega
      · intro v' w1 hown' hgrow _
        have HO2 : Hk (w1.ownsRow w.heap.size 3 1 v' (8 + (k + 1)) ((ys ++ [X]).map (Value.int .i64))) := ⟨by rw [List.map_append]; exact hown'⟩
        have HB2 := Hk.mk ((HB.out.alloc hsz (.cells #[.int .i64 X] 3)).grown hgrow (by simp; omega) (fun g hg => (hown.lt g hg).1))
        clear hown' hgrow hown HO HB hcx
        go_wp2
        go_roundw
        case rel => exact ⟨k + 1, _, by omega, by omega, by go_num, HO2, HB2⟩
        case measure => simp [intOf]; omega
    · obtain ⟨A, C, rfl, hnc, hnu⟩ := own_nums HO.out
      have HNU := Hk.mk hnu
      clear hnu
      have hh : ¬ k < len ∨ (k < len ∧ ¬ k < 20) := by omega
      rcases hh with hh | ⟨hh0, hh⟩
      · go_wp2
        obtain ⟨wo, hwo⟩ : ∃ wo : World, wo = wr := ⟨_, rfl⟩
        go_loopw [5] (fun i wr => ∃ j : Nat, j ≤ 8 + k ∧ i = .int .i64 j ∧ Hk (Below wo.heap.size wo wr)) (fun i _ => 8 + k - (intOf i).toNat)
        case atStart => exact ⟨0, by omega, rfl, ⟨by rw [hwo]; exact Below.refl _ _⟩⟩
        case round =>
          obtain ⟨j, hj, rfl, HB3⟩ := hrel
          have HB0 : Hk (Below w.heap.size w wo) := ⟨by rw [hwo]; exact HB.out⟩
          have HNU0 : Hk (Nu wo A (8 + k) ys) := ⟨by rw [hwo]; exact HNU.out⟩
          clear HB HNU HO hwo hnc
          have HLK : Hk (LK wr) := ⟨(HW.out.below HB0.out (Nat.le_refl _)).below HB3.out (Nat.le_refl _)⟩
          by_cases hlt : j < 8 + k
          · obtain ⟨b, off, rfl, hbl, hc⟩ := HNU0.out.rd (by omega)
            have hc0 := hc j hlt
            have hsz := HB3.out.size
            clear hc
            generalize ys.getD j 0 = n at *
            have hcx := (HB3.out.cell (p := ⟨b, off + j, none⟩) hbl).trans hc0
            have hcases : n = 0 ∨ n = 1 ∨ n = 2 ∨ n = 3 ∨ (n < 0 ∨ 3 < n) := by omega
            rcases hcases with rfl | rfl | rfl | rfl | hno
            · go_wp2_with (first | (go_at_call 6; (with_reducible refine (of0 _ HLK.out).mono ?_); rintro e w1 ⟨rfl, bel1⟩; have e1 := (bel1.cell (p := ⟨b, off + j, none⟩) (Nat.lt_of_lt_of_le hbl hsz)).trans hcx; have e2 : (w1.alloc (.cells #[.int .i64 24576, .int .i64 16384, .int .i64 0, .int .i64 0, .int .i64 0] 24)).cell? ⟨b, off + j, none⟩ = some (.int .i64 0) := (((Below.refl _ _).alloc (Nat.le_refl _) _).cell (p := ⟨b, off + j, none⟩) (by have := bel1.size; show b < w1.heap.size; omega)).trans e1) | (go_at_call 7; (with_reducible refine (rof0 _).mono ?_); rintro e w2 ⟨rfl, bel2⟩; have f0 : w2.cell? ⟨w1.heap.size, 0, none⟩ = some (.int .i64 24576) := (bel2.cell (p := ⟨w1.heap.size, 0, none⟩) (by simp)).trans (by rw [World.cell?_alloc_mark]; simp); have g0 : (w2.alloc (.cells #[.int .i64 24576, .int .i64 16384, .int .i64 0, .int .i64 0, .int .i64 0] 24)).cell? ⟨w1.heap.size, 0, none⟩ = some (.int .i64 24576) := (((Below.refl _ _).alloc (Nat.le_refl _) _).cell (p := ⟨w1.heap.size, 0, none⟩) (by have := bel2.size; simp at this; show w1.heap.size < w2.heap.size; omega)).trans f0; have f1 : w2.cell? ⟨w1.heap.size, 1, none⟩ = some (.int .i64 16384) := (bel2.cell (p := ⟨w1.heap.size, 1, none⟩) (by simp)).trans (by rw [World.cell?_alloc_mark]; simp); have g1 : (w2.alloc (.cells #[.int .i64 24576, .int .i64 16384, .int .i64 0, .int .i64 0, .int .i64 0] 24)).cell? ⟨w1.heap.size, 1, none⟩ = some (.int .i64 16384) := (((Below.refl _ _).alloc (Nat.le_refl _) _).cell (p := ⟨w1.heap.size, 1, none⟩) (by have := bel2.size; simp at this; show w1.heap.size < w2.heap.size; omega)).trans f1; have f2 : w2.cell? ⟨w1.heap.size, 2, none⟩ = some (.int .i64 0) := (bel2.cell (p := ⟨w1.heap.size, 2, none⟩) (by simp)).trans (by rw [World.cell?_alloc_mark]; simp); have g2 : (w2.alloc (.cells #[.int .i64 24576, .int .i64 16384, .int .i64 0, .int .i64 0, .int .i64 0] 24)).cell? ⟨w1.heap.size, 2, none⟩ = some (.int .i64 0) := (((Below.refl _ _).alloc (Nat.le_refl _) _).cell (p := ⟨w1.heap.size, 2, none⟩) (by have := bel2.size; simp at this; show w1.heap.size < w2.heap.size; omega)).trans f2; have f3 : w2.cell? ⟨w1.heap.size, 3, none⟩ = some (.int .i64 0) := (bel2.cell (p := ⟨w1.heap.size, 3, none⟩) (by simp)).trans (by rw [World.cell?_alloc_mark]; simp); have g3 : (w2.alloc (.cells #[.int .i64 24576, .int .i64 16384, .int .i64 0, .int .i64 0, .int .i64 0] 24)).cell? ⟨w1.heap.size, 3, none⟩ = some (.int .i64 0) := (((Below.refl _ _).alloc (Nat.le_refl _) _).cell (p := ⟨w1.heap.size, 3, none⟩) (by have := bel2.size; simp at this; show w1.heap.size < w2.heap.size; omega)).trans f3; have f4 : w2.cell? ⟨w1.heap.size, 4, none⟩ = some (.int .i64 0) := (bel2.cell (p := ⟨w1.heap.size, 4, none⟩) (by simp)).trans (by rw [World.cell?_alloc_mark]; simp); have g4 : (w2.alloc (.cells #[.int .i64 24576, .int .i64 16384, .int .i64 0, .int .i64 0, .int .i64 0] 24)).cell? ⟨w1.heap.size, 4, none⟩ = some (.int .i64 0) := (((Below.refl _ _).alloc (Nat.le_refl _) _).cell (p := ⟨w1.heap.size, 4, none⟩) (by have := bel2.size; simp at this; show w1.heap.size < w2.heap.size; omega)).trans f4) | (go_at_call 8; (with_reducible refine (num5_any _ _).mono ?_); rintro e w' ⟨rfl, rfl⟩))
              have HB4 : Hk (Below wo.heap.size wo (w2.alloc (.cells #[.int .i64 24576, .int .i64 16384, .int .i64 0, .int .i64 0, .int .i64 0] 24))) := ⟨by have s1 := bel1.size; have s2 := bel2.size; simp at s2; exact (((HB3.out.trans (bel1.mono hsz)).alloc (by omega) _).trans (bel2.mono (by simp; omega))).alloc (by omega) _⟩
              go_loopw [10] (fun i wr => ∃ t : Int, 0 ≤ t ∧ t ≤ 300 ∧ i = .int .i64 t ∧ Hk (Below wo.heap.size wo wr)) (fun i _ => 300 - (intOf i).toNat)
              case atStart => exact ⟨0, by omega, by omega, rfl, HB4⟩
              case round =>
                obtain ⟨t, ht0, ht3, rfl, HB5⟩ := hrel
                have HLK : Hk (LK wr) := ⟨(HW.out.below HB0.out (Nat.le_refl _)).below HB5.out (Nat.le_refl _)⟩
                have hcx5 := (HB5.out.cell (p := ⟨b, off + j, none⟩) hbl).trans hc0
                by_cases h256 : t < 256
                · by_cases h5 : t ≤ 5
                  · have htc : t = 0 ∨ t = 1 ∨ t = 2 ∨ t = 3 ∨ t = 4 ∨ t = 5 := by omega
                    clear h5 h256 ht0 ht3
                    rcases htc with rfl | rfl | rfl | rfl | rfl | rfl
                    · go_wp2_with (first | (go_at_call 9; (refine (cost_as 0 0 _ _ 2 _ HLK.out (by omega) (by omega) ⟨by omega⟩ ⟨by omega⟩ ⟨by decide⟩).mono ?_); rintro e w' ⟨rfl, rfl⟩) | (go_at_call 10; (with_reducible refine (rclass_yes _ (by omega) (by omega) _).mono ?_); rintro e w' ⟨rfl, rfl⟩) | (go_at_call 11; (refine (rcost_as 0 0 _ _ 2 _ (by omega) (by omega) ⟨by omega⟩ ⟨by omega⟩ ⟨by decide⟩).mono ?_); rintro e w3 ⟨rfl, bel3⟩) | (go_at_call 8; (with_reducible refine (num5_any _ _).mono ?_); rintro e w' ⟨rfl, rfl⟩))
                      go_roundw
                      case rel => exact ⟨_, by omega, by omega, rfl, ⟨HB5.out.trans (bel3.mono HB5.out.size)⟩⟩
                      case measure => simp [intOf]
                    · go_wp2_with (first | (go_at_call 9; (refine (cost_as 0 1 _ _ 1 _ HLK.out (by omega) (by omega) ⟨by omega⟩ ⟨by omega⟩ ⟨by decide⟩).mono ?_); rintro e w' ⟨rfl, rfl⟩) | (go_at_call 10; (with_reducible refine (rclass_yes _ (by omega) (by omega) _).mono ?_); rintro e w' ⟨rfl, rfl⟩) | (go_at_call 11; (refine (rcost_as 0 1 _ _ 1 _ (by omega) (by omega) ⟨by omega⟩ ⟨by omega⟩ ⟨by decide⟩).mono ?_); rintro e w3 ⟨rfl, bel3⟩) | (go_at_call 8; (with_reducible refine (num5_any _ _).mono ?_); rintro e w' ⟨rfl, rfl⟩))
                      go_roundw
                      case rel => exact ⟨_, by omega, by omega, rfl, ⟨HB5.out.trans (bel3.mono HB5.out.size)⟩⟩
                      case measure => simp [intOf]
                    · go_wp2_with (first | (go_at_call 9; (refine (cost_as 0 2 _ _ 3 _ HLK.out (by omega) (by omega) ⟨by omega⟩ ⟨by omega⟩ ⟨by decide⟩).mono ?_); rintro e w' ⟨rfl, rfl⟩) | (go_at_call 10; (with_reducible refine (rclass_yes _ (by omega) (by omega) _).mono ?_); rintro e w' ⟨rfl, rfl⟩) | (go_at_call 11; (refine (rcost_as 0 2 _ _ 3 _ (by omega) (by omega) ⟨by omega⟩ ⟨by omega⟩ ⟨by decide⟩).mono ?_); rintro e w3 ⟨rfl, bel3⟩) | (go_at_call 8; (with_reducible refine (num5_any _ _).mono ?_); rintro e w' ⟨rfl, rfl⟩))
                      go_roundw
                      case rel => exact ⟨_, by omega, by omega, rfl, ⟨HB5.out.trans (bel3.mono HB5.out.size)⟩⟩
                      case measure => simp [intOf]
                    · go_wp2_with (first | (go_at_call 9; (refine (cost_as 0 3 _ _ 5 _ HLK.out (by omega) (by omega) ⟨by omega⟩ ⟨by omega⟩ ⟨by decide⟩).mono ?_); rintro e w' ⟨rfl, rfl⟩) | (go_at_call 10; (with_reducible refine (rclass_yes _ (by omega) (by omega) _).mono ?_); rintro e w' ⟨rfl, rfl⟩) | (go_at_call 11; (refine (rcost_as 0 3 _ _ 5 _ (by omega) (by omega) ⟨by omega⟩ ⟨by omega⟩ ⟨by decide⟩).mono ?_); rintro e w3 ⟨rfl, bel3⟩) | (go_at_call 8; (with_reducible refine (num5_any _ _).mono ?_); rintro e w' ⟨rfl, rfl⟩))
                      go_roundw
                      case rel => exact ⟨_, by omega, by omega, rfl, ⟨HB5.out.trans (bel3.mono HB5.out.size)⟩⟩
                      case measure => simp [intOf]
                    · go_wp2_with (first | (go_at_call 9; (refine (cost_as 0 4 _ _ 0 _ HLK.out (by omega) (by omega) ⟨by omega⟩ ⟨by omega⟩ ⟨by decide⟩).mono ?_); rintro e w' ⟨rfl, rfl⟩) | (go_at_call 10; (with_reducible refine (rclass_yes _ (by omega) (by omega) _).mono ?_); rintro e w' ⟨rfl, rfl⟩) | (go_at_call 11; (refine (rcost_as 0 4 _ _ 0 _ (by omega) (by omega) ⟨by omega⟩ ⟨by omega⟩ ⟨by decide⟩).mono ?_); rintro e w3 ⟨rfl, bel3⟩) | (go_at_call 8; (with_reducible refine (num5_any _ _).mono ?_); rintro e w' ⟨rfl, rfl⟩))
                      go_roundw
                      case rel => exact ⟨_, by omega, by omega, rfl, ⟨HB5.out.trans (bel3.mono HB5.out.size)⟩⟩
                      case measure => simp [intOf]
                    · go_wp2_with (first | (go_at_call 9; (refine (cost_as 0 5 _ _ 0 _ HLK.out (by omega) (by omega) ⟨by omega⟩ ⟨by omega⟩ ⟨by decide⟩).mono ?_); rintro e w' ⟨rfl, rfl⟩) | (go_at_call 10; (with_reducible refine (rclass_yes _ (by omega) (by omega) _).mono ?_); rintro e w' ⟨rfl, rfl⟩) | (go_at_call 11; (refine (rcost_as 0 5 _ _ 0 _ (by omega) (by omega) ⟨by omega⟩ ⟨by omega⟩ ⟨by decide⟩).mono ?_); rintro e w3 ⟨rfl, bel3⟩) | (go_at_call 8; (with_reducible refine (num5_any _ _).mono ?_); rintro e w' ⟨rfl, rfl⟩))
                      go_roundw
                      case rel => exact ⟨_, by omega, by omega, rfl, ⟨HB5.out.trans (bel3.mono HB5.out.size)⟩⟩
                      case measure => simp [intOf]
                  · have hb : t % 256 = t := by omega
                    have hq8 : t.tdiv 8 = t / 8 := Int.tdiv_eq_ediv_of_nonneg ht0
                    go_wp2_with (first | (go_at_call 9; (with_reducible refine (cost_no _ _ (by omega) _).mono ?_); rintro e w' ⟨rfl, rfl⟩) | (go_at_call 10; (with_reducible refine (rclass_yes _ (by omega) (by omega) _).mono ?_); rintro e w' ⟨rfl, rfl⟩) | (go_at_call 8; (with_reducible refine (num5_any _ _).mono ?_); rintro e w' ⟨rfl, rfl⟩))
                    go_roundw
                    case rel => refine ⟨_, ?_, ?_, rfl, HB5⟩ <;> omega
                    case measure => (simp [intOf]; omega)
                · go_wp2
                  go_roundw
                  case rel => exact ⟨j + 1, by omega, by go_num, HB5⟩
                  case measure => simp [intOf]; omega
            · go_wp2_with (first | (go_at_call 6; (with_reducible refine (of1 _ HLK.out).mono ?_); rintro e w1 ⟨rfl, bel1⟩; have e1 := (bel1.cell (p := ⟨b, off + j, none⟩) (Nat.lt_of_lt_of_le hbl hsz)).trans hcx; have e2 : (w1.alloc (.cells #[.int .i64 32768, .int .i64 24576, .int .i64 1, .int .i64 0, .int .i64 0] 24)).cell? ⟨b, off + j, none⟩ = some (.int .i64 1) := (((Below.refl _ _).alloc (Nat.le_refl _) _).cell (p := ⟨b, off + j, none⟩) (by have := bel1.size; show b < w1.heap.size; omega)).trans e1) | (go_at_call 7; (with_reducible refine (rof1 _).mono ?_); rintro e w2 ⟨rfl, bel2⟩; have f0 : w2.cell? ⟨w1.heap.size, 0, none⟩ = some (.int .i64 32768) := (bel2.cell (p := ⟨w1.heap.size, 0, none⟩) (by simp)).trans (by rw [World.cell?_alloc_mark]; simp); have g0 : (w2.alloc (.cells #[.int .i64 32768, .int .i64 24576, .int .i64 1, .int .i64 0, .int .i64 0] 24)).cell? ⟨w1.heap.size, 0, none⟩ = some (.int .i64 32768) := (((Below.refl _ _).alloc (Nat.le_refl _) _).cell (p := ⟨w1.heap.size, 0, none⟩) (by have := bel2.size; simp at this; show w1.heap.size < w2.heap.size; omega)).trans f0; have f1 : w2.cell? ⟨w1.heap.size, 1, none⟩ = some (.int .i64 24576) := (bel2.cell (p := ⟨w1.heap.size, 1, none⟩) (by simp)).trans (by rw [World.cell?_alloc_mark]; simp); have g1 : (w2.alloc (.cells #[.int .i64 32768, .int .i64 24576, .int .i64 1, .int .i64 0, .int .i64 0] 24)).cell? ⟨w1.heap.size, 1, none⟩ = some (.int .i64 24576) := (((Below.refl _ _).alloc (Nat.le_refl _) _).cell (p := ⟨w1.heap.size, 1, none⟩) (by have := bel2.size; simp at this; show w1.heap.size < w2.heap.size; omega)).trans f1; have f2 : w2.cell? ⟨w1.heap.size, 2, none⟩ = some (.int .i64 1) := (bel2.cell (p := ⟨w1.heap.size, 2, none⟩) (by simp)).trans (by rw [World.cell?_alloc_mark]; simp); have g2 : (w2.alloc (.cells #[.int .i64 32768, .int .i64 24576, .int .i64 1, .int .i64 0, .int .i64 0] 24)).cell? ⟨w1.heap.size, 2, none⟩ = some (.int .i64 1) := (((Below.refl _ _).alloc (Nat.le_refl _) _).cell (p := ⟨w1.heap.size, 2, none⟩) (by have := bel2.size; simp at this; show w1.heap.size < w2.heap.size; omega)).trans f2; have f3 : w2.cell? ⟨w1.heap.size, 3, none⟩ = some (.int .i64 0) := (bel2.cell (p := ⟨w1.heap.size, 3, none⟩) (by simp)).trans (by rw [World.cell?_alloc_mark]; simp); have g3 : (w2.alloc (.cells #[.int .i64 32768, .int .i64 24576, .int .i64 1, .int .i64 0, .int .i64 0] 24)).cell? ⟨w1.heap.size, 3, none⟩ = some (.int .i64 0) := (((Below.refl _ _).alloc (Nat.le_refl _) _).cell (p := ⟨w1.heap.size, 3, none⟩) (by have := bel2.size; simp at this; show w1.heap.size < w2.heap.size; omega)).trans f3; have f4 : w2.cell? ⟨w1.heap.size, 4, none⟩ = some (.int .i64 0) := (bel2.cell (p := ⟨w1.heap.size, 4, none⟩) (by simp)).trans (by rw [World.cell?_alloc_mark]; simp); have g4 : (w2.alloc (.cells #[.int .i64 32768, .int .i64 24576, .int .i64 1, .int .i64 0, .int .i64 0] 24)).cell? ⟨w1.heap.size, 4, none⟩ = some (.int .i64 0) := (((Below.refl _ _).alloc (Nat.le_refl _) _).cell (p := ⟨w1.heap.size, 4, none⟩) (by have := bel2.size; simp at this; show w1.heap.size < w2.heap.size; omega)).trans f4) | (go_at_call 8; (with_reducible refine (num5_any _ _).mono ?_); rintro e w' ⟨rfl, rfl⟩))
              have HB4 : Hk (Below wo.heap.size wo (w2.alloc (.cells #[.int .i64 32768, .int .i64 24576, .int .i64 1, .int .i64 0, .int .i64 0] 24))) := ⟨by have s1 := bel1.size; have s2 := bel2.size; simp at s2; exact (((HB3.out.trans (bel1.mono hsz)).alloc (by omega) _).trans (bel2.mono (by simp; omega))).alloc (by omega) _⟩
              go_loopw [10] (fun i wr => ∃ t : Int, 0 ≤ t ∧ t ≤ 300 ∧ i = .int .i64 t ∧ Hk (Below wo.heap.size wo wr)) (fun i _ => 300 - (intOf i).toNat)
              case atStart => exact ⟨0, by omega, by omega, rfl, HB4⟩
              case round =>
                obtain ⟨t, ht0, ht3, rfl, HB5⟩ := hrel
                have HLK : Hk (LK wr) := ⟨(HW.out.below HB0.out (Nat.le_refl _)).below HB5.out (Nat.le_refl _)⟩
                have hcx5 := (HB5.out.cell (p := ⟨b, off + j, none⟩) hbl).trans hc0
                by_cases h256 : t < 256
                · by_cases h5 : t ≤ 5
                  · have htc : t = 0 ∨ t = 1 ∨ t = 2 ∨ t = 3 ∨ t = 4 ∨ t = 5 := by omega
                    clear h5 h256 ht0 ht3
                    rcases htc with rfl | rfl | rfl | rfl | rfl | rfl
                    · go_wp2_with (first | (go_at_call 9; (refine (cost_as 1 0 _ _ 2 _ HLK.out (by omega) (by omega) ⟨by omega⟩ ⟨by omega⟩ ⟨by decide⟩).mono ?_); rintro e w' ⟨rfl, rfl⟩) | (go_at_call 10; (with_reducible refine (rclass_yes _ (by omega) (by omega) _).mono ?_); rintro e w' ⟨rfl, rfl⟩) | (go_at_call 11; (refine (rcost_as 1 0 _ _ 2 _ (by omega) (by omega) ⟨by omega⟩ ⟨by omega⟩ ⟨by decide⟩).mono ?_); rintro e w3 ⟨rfl, bel3⟩) | (go_at_call 8; (with_reducible refine (num5_any _ _).mono ?_); rintro e w' ⟨rfl, rfl⟩))
                      go_roundw
                      case rel => exact ⟨_, by omega, by omega, rfl, ⟨HB5.out.trans (bel3.mono HB5.out.size)⟩⟩
                      case measure => simp [intOf]
                    · go_wp2_with (first | (go_at_call 9; (refine (cost_as 1 1 _ _ 1 _ HLK.out (by omega) (by omega) ⟨by omega⟩ ⟨by omega⟩ ⟨by decide⟩).mono ?_); rintro e w' ⟨rfl, rfl⟩) | (go_at_call 10; (with_reducible refine (rclass_yes _ (by omega) (by omega) _).mono ?_); rintro e w' ⟨rfl, rfl⟩) | (go_at_call 11; (refine (rcost_as 1 1 _ _ 1 _ (by omega) (by omega) ⟨by omega⟩ ⟨by omega⟩ ⟨by decide⟩).mono ?_); rintro e w3 ⟨rfl, bel3⟩) | (go_at_call 8; (with_reducible refine (num5_any _ _).mono ?_); rintro e w' ⟨rfl, rfl⟩))
                      go_roundw
                      case rel => exact ⟨_, by omega, by omega, rfl, ⟨HB5.out.trans (bel3.mono HB5.out.size)⟩⟩
                      case measure => simp [intOf]
                    · go_wp2_with (first | (go_at_call 9; (refine (cost_as 1 2 _ _ 6 _ HLK.out (by omega) (by omega) ⟨by omega⟩ ⟨by omega⟩ ⟨by decide⟩).mono ?_); rintro e w' ⟨rfl, rfl⟩) | (go_at_call 10; (with_reducible refine (rclass_yes _ (by omega) (by omega) _).mono ?_); rintro e w' ⟨rfl, rfl⟩) | (go_at_call 11; (refine (rcost_as 1 2 _ _ 6 _ (by omega) (by omega) ⟨by omega⟩ ⟨by omega⟩ ⟨by decide⟩).mono ?_); rintro e w3 ⟨rfl, bel3⟩) | (go_at_call 8; (with_reducible refine (num5_any _ _).mono ?_); rintro e w' ⟨rfl, rfl⟩))
                      go_roundw
                      case rel => exact ⟨_, by omega, by omega, rfl, ⟨HB5.out.trans (bel3.mono HB5.out.size)⟩⟩
                      case measure => simp [intOf]
                    · go_wp2_with (first | (go_at_call 9; (refine (cost_as 1 3 _ _ 0 _ HLK.out (by omega) (by omega) ⟨by omega⟩ ⟨by omega⟩ ⟨by decide⟩).mono ?_); rintro e w' ⟨rfl, rfl⟩) | (go_at_call 10; (with_reducible refine (rclass_yes _ (by omega) (by omega) _).mono ?_); rintro e w' ⟨rfl, rfl⟩) | (go_at_call 11; (refine (rcost_as 1 3 _ _ 0 _ (by omega) (by omega) ⟨by omega⟩ ⟨by omega⟩ ⟨by decide⟩).mono ?_); rintro e w3 ⟨rfl, bel3⟩) | (go_at_call 8; (with_reducible refine (num5_any _ _).mono ?_); rintro e w' ⟨rfl, rfl⟩))
                      go_roundw
                      case rel => exact ⟨_, by omega, by omega, rfl, ⟨HB5.out.trans (bel3.mono HB5.out.size)⟩⟩
                      case measure => simp [intOf]
                    · go_wp2_with (first | (go_at_call 9; (refine (cost_as 1 4 _ _ 0 _ HLK.out (by omega) (by omega) ⟨by omega⟩ ⟨by omega⟩ ⟨by decide⟩).mono ?_); rintro e w' ⟨rfl, rfl⟩) | (go_at_call 10; (with_reducible refine (rclass_yes _ (by omega) (by omega) _).mono ?_); rintro e w' ⟨rfl, rfl⟩) | (go_at_call 11; (refine (rcost_as 1 4 _ _ 0 _ (by omega) (by omega) ⟨by omega⟩ ⟨by omega⟩ ⟨by decide⟩).mono ?_); rintro e w3 ⟨rfl, bel3⟩) | (go_at_call 8; (with_reducible refine (num5_any _ _).mono ?_); rintro e w' ⟨rfl, rfl⟩))
                      go_roundw
                      case rel => exact ⟨_, by omega, by omega, rfl, ⟨HB5.out.trans (bel3.mono HB5.out.size)⟩⟩
                      case measure => simp [intOf]
                    · go_wp2_with (first | (go_at_call 9; (refine (cost_as 1 5 _ _ 0 _ HLK.out (by omega) (by omega) ⟨by omega⟩ ⟨by omega⟩ ⟨by decide⟩).mono ?_); rintro e w' ⟨rfl, rfl⟩) | (go_at_call 10; (with_reducible refine (rclass_yes _ (by omega) (by omega) _).mono ?_); rintro e w' ⟨rfl, rfl⟩) | (go_at_call 11; (refine (rcost_as 1 5 _ _ 0 _ (by omega) (by omega) ⟨by omega⟩ ⟨by omega⟩ ⟨by decide⟩).mono ?_); rintro e w3 ⟨rfl, bel3⟩) | (go_at_call 8; (with_reducible refine (num5_any _ _).mono ?_); rintro e w' ⟨rfl, rfl⟩))
                      go_roundw
                      case rel => exact ⟨_, by omega, by omega, rfl, ⟨HB5.out.trans (bel3.mono HB5.out.size)⟩⟩
                      case measure => simp [intOf]
                  · have hb : t % 256 = t := by omega
                    have hq8 : t.tdiv 8 = t / 8 := Int.tdiv_eq_ediv_of_nonneg ht0
                    go_wp2_with (first | (go_at_call 9; (with_reducible refine (cost_no _ _ (by omega) _).mono ?_); rintro e w' ⟨rfl, rfl⟩) | (go_at_call 10; (with_reducible refine (rclass_yes _ (by omega) (by omega) _).mono ?_); rintro e w' ⟨rfl, rfl⟩) | (go_at_call 8; (with_reducible refine (num5_any _ _).mono ?_); rintro e w' ⟨rfl, rfl⟩))
                    go_roundw
                    case rel => refine ⟨_, ?_, ?_, rfl, HB5⟩ <;> omega
                    case measure => (simp [intOf]; omega)
                · go_wp2
                  go_roundw
                  case rel => exact ⟨j + 1, by omega, by go_num, HB5⟩
                  case measure => simp [intOf]; omega
            · go_wp2_with (first | (go_at_call 6; (with_reducible refine (of2 _ HLK.out).mono ?_); rintro e w1 ⟨rfl, bel1⟩; have e1 := (bel1.cell (p := ⟨b, off + j, none⟩) (Nat.lt_of_lt_of_le hbl hsz)).trans hcx; have e2 : (w1.alloc (.cells #[.int .i64 81920, .int .i64 8192, .int .i64 0, .int .i64 1, .int .i64 0] 24)).cell? ⟨b, off + j, none⟩ = some (.int .i64 2) := (((Below.refl _ _).alloc (Nat.le_refl _) _).cell (p := ⟨b, off + j, none⟩) (by have := bel1.size; show b < w1.heap.size; omega)).trans e1) | (go_at_call 7; (with_reducible refine (rof2 _).mono ?_); rintro e w2 ⟨rfl, bel2⟩; have f0 : w2.cell? ⟨w1.heap.size, 0, none⟩ = some (.int .i64 81920) := (bel2.cell (p := ⟨w1.heap.size, 0, none⟩) (by simp)).trans (by rw [World.cell?_alloc_mark]; simp); have g0 : (w2.alloc (.cells #[.int .i64 81920, .int .i64 8192, .int .i64 0, .int .i64 1, .int .i64 0] 24)).cell? ⟨w1.heap.size, 0, none⟩ = some (.int .i64 81920) := (((Below.refl _ _).alloc (Nat.le_refl _) _).cell (p := ⟨w1.heap.size, 0, none⟩) (by have := bel2.size; simp at this; show w1.heap.size < w2.heap.size; omega)).trans f0; have f1 : w2.cell? ⟨w1.heap.size, 1, none⟩ = some (.int .i64 8192) := (bel2.cell (p := ⟨w1.heap.size, 1, none⟩) (by simp)).trans (by rw [World.cell?_alloc_mark]; simp); have g1 : (w2.alloc (.cells #[.int .i64 81920, .int .i64 8192, .int .i64 0, .int .i64 1, .int .i64 0] 24)).cell? ⟨w1.heap.size, 1, none⟩ = some (.int .i64 8192) := (((Below.refl _ _).alloc (Nat.le_refl _) _).cell (p := ⟨w1.heap.size, 1, none⟩) (by have := bel2.size; simp at this; show w1.heap.size < w2.heap.size; omega)).trans f1; have f2 : w2.cell? ⟨w1.heap.size, 2, none⟩ = some (.int .i64 0) := (bel2.cell (p := ⟨w1.heap.size, 2, none⟩) (by simp)).trans (by rw [World.cell?_alloc_mark]; simp); have g2 : (w2.alloc (.cells #[.int .i64 81920, .int .i64 8192, .int .i64 0, .int .i64 1, .int .i64 0] 24)).cell? ⟨w1.heap.size, 2, none⟩ = some (.int .i64 0) := (((Below.refl _ _).alloc (Nat.le_refl _) _).cell (p := ⟨w1.heap.size, 2, none⟩) (by have := bel2.size; simp at this; show w1.heap.size < w2.heap.size; omega)).trans f2; have f3 : w2.cell? ⟨w1.heap.size, 3, none⟩ = some (.int .i64 1) := (bel2.cell (p := ⟨w1.heap.size, 3, none⟩) (by simp)).trans (by rw [World.cell?_alloc_mark]; simp); have g3 : (w2.alloc (.cells #[.int .i64 81920, .int .i64 8192, .int .i64 0, .int .i64 1, .int .i64 0] 24)).cell? ⟨w1.heap.size, 3, none⟩ = some (.int .i64 1) := (((Below.refl _ _).alloc (Nat.le_refl _) _).cell (p := ⟨w1.heap.size, 3, none⟩) (by have := bel2.size; simp at this; show w1.heap.size < w2.heap.size; omega)).trans f3; have f4 : w2.cell? ⟨w1.heap.size, 4, none⟩ = some (.int .i64 0) := (bel2.cell (p := ⟨w1.heap.size, 4, none⟩) (by simp)).trans (by rw [World.cell?_alloc_mark]; simp); have g4 : (w2.alloc (.cells #[.int .i64 81920, .int .i64 8192, .int .i64 0, .int .i64 1, .int .i64 0] 24)).cell? ⟨w1.heap.size, 4, none⟩ = some (.int .i64 0) := (((Below.refl _ _).alloc (Nat.le_refl _) _).cell (p := ⟨w1.heap.size, 4, none⟩) (by have := bel2.size; simp at this; show w1.heap.size < w2.heap.size; omega)).trans f4) | (go_at_call 8; (with_reducible refine (num5_any _ _).mono ?_); rintro e w' ⟨rfl, rfl⟩))
              have HB4 : Hk (Below wo.heap.size wo (w2.alloc (.cells #[.int .i64 81920, .int .i64 8192, .int .i64 0, .int .i64 1, .int .i64 0] 24))) := ⟨by have s1 := bel1.size; have s2 := bel2.size; simp at s2; exact (((HB3.out.trans (bel1.mono hsz)).alloc (by omega) _).trans (bel2.mono (by simp; omega))).alloc (by omega) _⟩
              go_loopw [10] (fun i wr => ∃ t : Int, 0 ≤ t ∧ t ≤ 300 ∧ i = .int .i64 t ∧ Hk (Below wo.heap.size wo wr)) (fun i _ => 300 - (intOf i).toNat)
              case atStart => exact ⟨0, by omega, by omega, rfl, HB4⟩
              case round =>
                obtain ⟨t, ht0, ht3, rfl, HB5⟩ := hrel
                have HLK : Hk (LK wr) := ⟨(HW.out.below HB0.out (Nat.le_refl _)).below HB5.out (Nat.le_refl _)⟩
                have hcx5 := (HB5.out.cell (p := ⟨b, off + j, none⟩) hbl).trans hc0
                by_cases h256 : t < 256
                · by_cases h5 : t ≤ 5
                  · have htc : t = 0 ∨ t = 1 ∨ t = 2 ∨ t = 3 ∨ t = 4 ∨ t = 5 := by omega
                    clear h5 h256 ht0 ht3
                    rcases htc with rfl | rfl | rfl | rfl | rfl | rfl
                    · go_wp2_with (first | (go_at_call 9; (refine (cost_as 2 0 _ _ 2 _ HLK.out (by omega) (by omega) ⟨by omega⟩ ⟨by omega⟩ ⟨by decide⟩).mono ?_); rintro e w' ⟨rfl, rfl⟩) | (go_at_call 10; (with_reducible refine (rclass_yes _ (by omega) (by omega) _).mono ?_); rintro e w' ⟨rfl, rfl⟩) | (go_at_call 11; (refine (rcost_as 2 0 _ _ 2 _ (by omega) (by omega) ⟨by omega⟩ ⟨by omega⟩ ⟨by decide⟩).mono ?_); rintro e w3 ⟨rfl, bel3⟩) | (go_at_call 8; (with_reducible refine (num5_any _ _).mono ?_); rintro e w' ⟨rfl, rfl⟩))
                      go_roundw
                      case rel => exact ⟨_, by omega, by omega, rfl, ⟨HB5.out.trans (bel3.mono HB5.out.size)⟩⟩
                      case measure => simp [intOf]
                    · go_wp2_with (first | (go_at_call 9; (refine (cost_as 2 1 _ _ 1 _ HLK.out (by omega) (by omega) ⟨by omega⟩ ⟨by omega⟩ ⟨by decide⟩).mono ?_); rintro e w' ⟨rfl, rfl⟩) | (go_at_call 10; (with_reducible refine (rclass_yes _ (by omega) (by omega) _).mono ?_); rintro e w' ⟨rfl, rfl⟩) | (go_at_call 11; (refine (rcost_as 2 1 _ _ 1 _ (by omega) (by omega) ⟨by omega⟩ ⟨by omega⟩ ⟨by decide⟩).mono ?_); rintro e w3 ⟨rfl, bel3⟩) | (go_at_call 8; (with_reducible refine (num5_any _ _).mono ?_); rintro e w' ⟨rfl, rfl⟩))
                      go_roundw
                      case rel => exact ⟨_, by omega, by omega, rfl, ⟨HB5.out.trans (bel3.mono HB5.out.size)⟩⟩
                      case measure => simp [intOf]
                    · go_wp2_with (first | (go_at_call 9; (refine (cost_as 2 2 _ _ 0 _ HLK.out (by omega) (by omega) ⟨by omega⟩ ⟨by omega⟩ ⟨by decide⟩).mono ?_); rintro e w' ⟨rfl, rfl⟩) | (go_at_call 10; (with_reducible refine (rclass_yes _ (by omega) (by omega) _).mono ?_); rintro e w' ⟨rfl, rfl⟩) | (go_at_call 11; (refine (rcost_as 2 2 _ _ 0 _ (by omega) (by omega) ⟨by omega⟩ ⟨by omega⟩ ⟨by decide⟩).mono ?_); rintro e w3 ⟨rfl, bel3⟩) | (go_at_call 8; (with_reducible refine (num5_any _ _).mono ?_); rintro e w' ⟨rfl, rfl⟩))
                      go_roundw
                      case rel => exact ⟨_, by omega, by omega, rfl, ⟨HB5.out.trans (bel3.mono HB5.out.size)⟩⟩
                      case measure => simp [intOf]
                    · go_wp2_with (first | (go_at_call 9; (refine (cost_as 2 3 _ _ 3 _ HLK.out (by omega) (by omega) ⟨by omega⟩ ⟨by omega⟩ ⟨by decide⟩).mono ?_); rintro e w' ⟨rfl, rfl⟩) | (go_at_call 10; (with_reducible refine (rclass_yes _ (by omega) (by omega) _).mono ?_); rintro e w' ⟨rfl, rfl⟩) | (go_at_call 11; (refine (rcost_as 2 3 _ _ 3 _ (by omega) (by omega) ⟨by omega⟩ ⟨by omega⟩ ⟨by decide⟩).mono ?_); rintro e w3 ⟨rfl, bel3⟩) | (go_at_call 8; (with_reducible refine (num5_any _ _).mono ?_); rintro e w' ⟨rfl, rfl⟩))
                      go_roundw
                      case rel => exact ⟨_, by omega, by omega, rfl, ⟨HB5.out.trans (bel3.mono HB5.out.size)⟩⟩
                      case measure => simp [intOf]
                    · go_wp2_with (first | (go_at_call 9; (refine (cost_as 2 4 _ _ 2 _ HLK.out (by omega) (by omega) ⟨by omega⟩ ⟨by omega⟩ ⟨by decide⟩).mono ?_); rintro e w' ⟨rfl, rfl⟩) | (go_at_call 10; (with_reducible refine (rclass_yes _ (by omega) (by omega) _).mono ?_); rintro e w' ⟨rfl, rfl⟩) | (go_at_call 11; (refine (rcost_as 2 4 _ _ 2 _ (by omega) (by omega) ⟨by omega⟩ ⟨by omega⟩ ⟨by decide⟩).mono ?_); rintro e w3 ⟨rfl, bel3⟩) | (go_at_call 8; (with_reducible refine (num5_any _ _).mono ?_); rintro e w' ⟨rfl, rfl⟩))
                      go_roundw
                      case rel => exact ⟨_, by omega, by omega, rfl, ⟨HB5.out.trans (bel3.mono HB5.out.size)⟩⟩
                      case measure => simp [intOf]
                    · go_wp2_with (first | (go_at_call 9; (refine (cost_as 2 5 _ _ 0 _ HLK.out (by omega) (by omega) ⟨by omega⟩ ⟨by omega⟩ ⟨by decide⟩).mono ?_); rintro e w' ⟨rfl, rfl⟩) | (go_at_call 10; (with_reducible refine (rclass_yes _ (by omega) (by omega) _).mono ?_); rintro e w' ⟨rfl, rfl⟩) | (go_at_call 11; (refine (rcost_as 2 5 _ _ 0 _ (by omega) (by omega) ⟨by omega⟩ ⟨by omega⟩ ⟨by decide⟩).mono ?_); rintro e w3 ⟨rfl, bel3⟩) | (go_at_call 8; (with_reducible refine (num5_any _ _).mono ?_); rintro e w' ⟨rfl, rfl⟩))
                      go_roundw
                      case rel => exact ⟨_, by omega, by omega, rfl, ⟨HB5.out.trans (bel3.mono HB5.out.size)⟩⟩
                      case measure => simp [intOf]
                  · have hb : t % 256 = t := by omega
                    have hq8 : t.tdiv 8 = t / 8 := Int.tdiv_eq_ediv_of_nonneg ht0
                    go_wp2_with (first | (go_at_call 9; (with_reducible refine (cost_no _ _ (by omega) _).mono ?_); rintro e w' ⟨rfl, rfl⟩) | (go_at_call 10; (with_reducible refine (rclass_yes _ (by omega) (by omega) _).mono ?_); rintro e w' ⟨rfl, rfl⟩) | (go_at_call 8; (with_reducible refine (num5_any _ _).mono ?_); rintro e w' ⟨rfl, rfl⟩))
                    go_roundw
                    case rel => refine ⟨_, ?_, ?_, rfl, HB5⟩ <;> omega
                    case measure => (simp [intOf]; omega)
                · go_wp2
                  go_roundw
                  case rel => exact ⟨j + 1, by omega, by go_num, HB5⟩
                  case measure => simp [intOf]; omega
            · go_wp2_with (first | (go_at_call 6; (with_reducible refine (of3 _ HLK.out).mono ?_); rintro e w1 ⟨rfl, bel1⟩; have e1 := (bel1.cell (p := ⟨b, off + j, none⟩) (Nat.lt_of_lt_of_le hbl hsz)).trans hcx; have e2 : (w1.alloc (.cells #[.int .i64 32768, .int .i64 16384, .int .i64 2, .int .i64 0, .int .i64 4] 24)).cell? ⟨b, off + j, none⟩ = some (.int .i64 3) := (((Below.refl _ _).alloc (Nat.le_refl _) _).cell (p := ⟨b, off + j, none⟩) (by have := bel1.size; show b < w1.heap.size; omega)).trans e1) | (go_at_call 7; (with_reducible refine (rof3 _).mono ?_); rintro e w2 ⟨rfl, bel2⟩; have f0 : w2.cell? ⟨w1.heap.size, 0, none⟩ = some (.int .i64 32768) := (bel2.cell (p := ⟨w1.heap.size, 0, none⟩) (by simp)).trans (by rw [World.cell?_alloc_mark]; simp); have g0 : (w2.alloc (.cells #[.int .i64 32768, .int .i64 16384, .int .i64 2, .int .i64 0, .int .i64 4] 24)).cell? ⟨w1.heap.size, 0, none⟩ = some (.int .i64 32768) := (((Below.refl _ _).alloc (Nat.le_refl _) _).cell (p := ⟨w1.heap.size, 0, none⟩) (by have := bel2.size; simp at this; show w1.heap.size < w2.heap.size; omega)).trans f0; have f1 : w2.cell? ⟨w1.heap.size, 1, none⟩ = some (.int .i64 16384) := (bel2.cell (p := ⟨w1.heap.size, 1, none⟩) (by simp)).trans (by rw [World.cell?_alloc_mark]; simp); have g1 : (w2.alloc (.cells #[.int .i64 32768, .int .i64 16384, .int .i64 2, .int .i64 0, .int .i64 4] 24)).cell? ⟨w1.heap.size, 1, none⟩ = some (.int .i64 16384) := (((Below.refl _ _).alloc (Nat.le_refl _) _).cell (p := ⟨w1.heap.size, 1, none⟩) (by have := bel2.size; simp at this; show w1.heap.size < w2.heap.size; omega)).trans f1; have f2 : w2.cell? ⟨w1.heap.size, 2, none⟩ = some (.int .i64 2) := (bel2.cell (p := ⟨w1.heap.size, 2, none⟩) (by simp)).trans (by rw [World.cell?_alloc_mark]; simp); have g2 : (w2.alloc (.cells #[.int .i64 32768, .int .i64 16384, .int .i64 2, .int .i64 0, .int .i64 4] 24)).cell? ⟨w1.heap.size, 2, none⟩ = some (.int .i64 2) := (((Below.refl _ _).alloc (Nat.le_refl _) _).cell (p := ⟨w1.heap.size, 2, none⟩) (by have := bel2.size; simp at this; show w1.heap.size < w2.heap.size; omega)).trans f2; have f3 : w2.cell? ⟨w1.heap.size, 3, none⟩ = some (.int .i64 0) := (bel2.cell (p := ⟨w1.heap.size, 3, none⟩) (by simp)).trans (by rw [World.cell?_alloc_mark]; simp); have g3 : (w2.alloc (.cells #[.int .i64 32768, .int .i64 16384, .int .i64 2, .int .i64 0, .int .i64 4] 24)).cell? ⟨w1.heap.size, 3, none⟩ = some (.int .i64 0) := (((Below.refl _ _).alloc (Nat.le_refl _) _).cell (p := ⟨w1.heap.size, 3, none⟩) (by have := bel2.size; simp at this; show w1.heap.size < w2.heap.size; omega)).trans f3; have f4 : w2.cell? ⟨w1.heap.size, 4, none⟩ = some (.int .i64 4) := (bel2.cell (p := ⟨w1.heap.size, 4, none⟩) (by simp)).trans (by rw [World.cell?_alloc_mark]; simp); have g4 : (w2.alloc (.cells #[.int .i64 32768, .int .i64 16384, .int .i64 2, .int .i64 0, .int .i64 4] 24)).cell? ⟨w1.heap.size, 4, none⟩ = some (.int .i64 4) := (((Below.refl _ _).alloc (Nat.le_refl _) _).cell (p := ⟨w1.heap.size, 4, none⟩) (by have := bel2.size; simp at this; show w1.heap.size < w2.heap.size; omega)).trans f4) | (go_at_call 8; (with_reducible refine (num5_any _ _).mono ?_); rintro e w' ⟨rfl, rfl⟩))
              have HB4 : Hk (Below wo.heap.size wo (w2.alloc (.cells #[.int .i64 32768, .int .i64 16384, .int .i64 2, .int .i64 0, .int .i64 4] 24))) := ⟨by have s1 := bel1.size; have s2 := bel2.size; simp at s2; exact (((HB3.out.trans (bel1.mono hsz)).alloc (by omega) _).trans (bel2.mono (by simp; omega))).alloc (by omega) _⟩
              go_loopw [10] (fun i wr => ∃ t : Int, 0 ≤ t ∧ t ≤ 300 ∧ i = .int .i64 t ∧ Hk (Below wo.heap.size wo wr)) (fun i _ => 300 - (intOf i).toNat)
              case atStart => exact ⟨0, by omega, by omega, rfl, HB4⟩
              case round =>
                obtain ⟨t, ht0, ht3, rfl, HB5⟩ := hrel
                have HLK : Hk (LK wr) := ⟨(HW.out.below HB0.out (Nat.le_refl _)).below HB5.out (Nat.le_refl _)⟩
                have hcx5 := (HB5.out.cell (p := ⟨b, off + j, none⟩) hbl).trans hc0
                by_cases h256 : t < 256
                · have hb : t % 256 = t := by omega
                  have hq8 : t.tdiv 8 = t / 8 := Int.tdiv_eq_ediv_of_nonneg ht0
                  go_wp2_with (first | (go_at_call 9; (with_reducible refine (cost_no _ _ (by omega) _).mono ?_); rintro e w' ⟨rfl, rfl⟩) | (go_at_call 10; (with_reducible refine (rclass_no _ (by omega) _).mono ?_); rintro e w' ⟨rfl, rfl⟩) | (go_at_call 8; (with_reducible refine (num5_any _ _).mono ?_); rintro e w' ⟨rfl, rfl⟩))
                  go_roundw
                  case rel => refine ⟨_, ?_, ?_, rfl, HB5⟩ <;> omega
                  case measure => (simp [intOf]; omega)
                · go_wp2
                  go_roundw
                  case rel => exact ⟨j + 1, by omega, by go_num, HB5⟩
                  case measure => simp [intOf]; omega
            · go_wp2_with (first | (go_at_call 6; (with_reducible refine (of_no _ hno _).mono ?_); rintro e w1 ⟨rfl, bel1⟩; have e1 := (bel1.cell (p := ⟨b, off + j, none⟩) (Nat.lt_of_lt_of_le hbl hsz)).trans hcx; have e2 : (w1.alloc (.cells #[.int .i64 0, .int .i64 0, .int .i64 0, .int .i64 0, .int .i64 0] 24)).cell? ⟨b, off + j, none⟩ = some (.int .i64 n) := (((Below.refl _ _).alloc (Nat.le_refl _) _).cell (p := ⟨b, off + j, none⟩) (by have := bel1.size; show b < w1.heap.size; omega)).trans e1) | (go_at_call 7; (with_reducible refine (rof_no _ hno _).mono ?_); rintro e w2 ⟨rfl, bel2⟩; have f0 : w2.cell? ⟨w1.heap.size, 0, none⟩ = some (.int .i64 0) := (bel2.cell (p := ⟨w1.heap.size, 0, none⟩) (by simp)).trans (by rw [World.cell?_alloc_mark]; simp); have g0 : (w2.alloc (.cells #[.int .i64 0, .int .i64 0, .int .i64 0, .int .i64 0, .int .i64 0] 24)).cell? ⟨w1.heap.size, 0, none⟩ = some (.int .i64 0) := (((Below.refl _ _).alloc (Nat.le_refl _) _).cell (p := ⟨w1.heap.size, 0, none⟩) (by have := bel2.size; simp at this; show w1.heap.size < w2.heap.size; omega)).trans f0; have f1 : w2.cell? ⟨w1.heap.size, 1, none⟩ = some (.int .i64 0) := (bel2.cell (p := ⟨w1.heap.size, 1, none⟩) (by simp)).trans (by rw [World.cell?_alloc_mark]; simp); have g1 : (w2.alloc (.cells #[.int .i64 0, .int .i64 0, .int .i64 0, .int .i64 0, .int .i64 0] 24)).cell? ⟨w1.heap.size, 1, none⟩ = some (.int .i64 0) := (((Below.refl _ _).alloc (Nat.le_refl _) _).cell (p := ⟨w1.heap.size, 1, none⟩) (by have := bel2.size; simp at this; show w1.heap.size < w2.heap.size; omega)).trans f1; have f2 : w2.cell? ⟨w1.heap.size, 2, none⟩ = some (.int .i64 0) := (bel2.cell (p := ⟨w1.heap.size, 2, none⟩) (by simp)).trans (by rw [World.cell?_alloc_mark]; simp); have g2 : (w2.alloc (.cells #[.int .i64 0, .int .i64 0, .int .i64 0, .int .i64 0, .int .i64 0] 24)).cell? ⟨w1.heap.size, 2, none⟩ = some (.int .i64 0) := (((Below.refl _ _).alloc (Nat.le_refl _) _).cell (p := ⟨w1.heap.size, 2, none⟩) (by have := bel2.size; simp at this; show w1.heap.size < w2.heap.size; omega)).trans f2; have f3 : w2.cell? ⟨w1.heap.size, 3, none⟩ = some (.int .i64 0) := (bel2.cell (p := ⟨w1.heap.size, 3, none⟩) (by simp)).trans (by rw [World.cell?_alloc_mark]; simp); have g3 : (w2.alloc (.cells #[.int .i64 0, .int .i64 0, .int .i64 0, .int .i64 0, .int .i64 0] 24)).cell? ⟨w1.heap.size, 3, none⟩ = some (.int .i64 0) := (((Below.refl _ _).alloc (Nat.le_refl _) _).cell (p := ⟨w1.heap.size, 3, none⟩) (by have := bel2.size; simp at this; show w1.heap.size < w2.heap.size; omega)).trans f3; have f4 : w2.cell? ⟨w1.heap.size, 4, none⟩ = some (.int .i64 0) := (bel2.cell (p := ⟨w1.heap.size, 4, none⟩) (by simp)).trans (by rw [World.cell?_alloc_mark]; simp); have g4 : (w2.alloc (.cells #[.int .i64 0, .int .i64 0, .int .i64 0, .int .i64 0, .int .i64 0] 24)).cell? ⟨w1.heap.size, 4, none⟩ = some (.int .i64 0) := (((Below.refl _ _).alloc (Nat.le_refl _) _).cell (p := ⟨w1.heap.size, 4, none⟩) (by have := bel2.size; simp at this; show w1.heap.size < w2.heap.size; omega)).trans f4) | (go_at_call 8; (with_reducible refine (num5_any _ _).mono ?_); rintro e w' ⟨rfl, rfl⟩))
              have HB4 : Hk (Below wo.heap.size wo (w2.alloc (.cells #[.int .i64 0, .int .i64 0, .int .i64 0, .int .i64 0, .int .i64 0] 24))) := ⟨by have s1 := bel1.size; have s2 := bel2.size; simp at s2; exact (((HB3.out.trans (bel1.mono hsz)).alloc (by omega) _).trans (bel2.mono (by simp; omega))).alloc (by omega) _⟩
              go_loopw [10] (fun i wr => ∃ t : Int, 0 ≤ t ∧ t ≤ 300 ∧ i = .int .i64 t ∧ Hk (Below wo.heap.size wo wr)) (fun i _ => 300 - (intOf i).toNat)
              case atStart => exact ⟨0, by omega, by omega, rfl, HB4⟩
              case round =>
                obtain ⟨t, ht0, ht3, rfl, HB5⟩ := hrel
                have HLK : Hk (LK wr) := ⟨(HW.out.below HB0.out (Nat.le_refl _)).below HB5.out (Nat.le_refl _)⟩
                have hcx5 := (HB5.out.cell (p := ⟨b, off + j, none⟩) hbl).trans hc0
                by_cases h256 : t < 256
                · have hb : t % 256 = t := by omega
                  have hq8 : t.tdiv 8 = t / 8 := Int.tdiv_eq_ediv_of_nonneg ht0
                  go_wp2_with (first | (go_at_call 9; (with_reducible refine (cost_no _ _ (by omega) _).mono ?_); rintro e w' ⟨rfl, rfl⟩) | (go_at_call 10; (with_reducible refine (rclass_no _ (by omega) _).mono ?_); rintro e w' ⟨rfl, rfl⟩) | (go_at_call 8; (with_reducible refine (num5_any _ _).mono ?_); rintro e w' ⟨rfl, rfl⟩))
                  go_roundw
                  case rel => refine ⟨_, ?_, ?_, rfl, HB5⟩ <;> omega
                  case measure => (simp [intOf]; omega)
                · go_wp2
                  go_roundw
                  case rel => exact ⟨j + 1, by omega, by go_num, HB5⟩
                  case measure => simp [intOf]; omega
          · obtain rfl : j = 8 + k := by omega
            go_wp2_with (first | (go_at_call 12; (with_reducible refine (wakes5_any _ HLK.out).mono ?_); rintro e w' ⟨rfl, rfl⟩))
            go_ret
            exact ⟨rfl, HB0.out.trans (HB3.out.mono HB0.out.size)⟩
      · have hq : decide ((k : Int) < 20) = false := by simp; omega
        go_wp2
        obtain ⟨wo, hwo⟩ : ∃ wo : World, wo = wr := ⟨_, rfl⟩
        go_loopw [5] (fun i wr => ∃ j : Nat, j ≤ 8 + k ∧ i = .int .i64 j ∧ Hk (Below wo.heap.size wo wr)) (fun i _ => 8 + k - (intOf i).toNat)
        case atStart => exact ⟨0, by omega, rfl, ⟨by rw [hwo]; exact Below.refl _ _⟩⟩
        case round =>
          obtain ⟨j, hj, rfl, HB3⟩ := hrel
          have HB0 : Hk (Below w.heap.size w wo) := ⟨by rw [hwo]; exact HB.out⟩
          have HNU0 : Hk (Nu wo A (8 + k) ys) := ⟨by rw [hwo]; exact HNU.out⟩
          clear HB HNU HO hwo hnc
          have HLK : Hk (LK wr) := ⟨(HW.out.below HB0.out (Nat.le_refl _)).below HB3.out (Nat.le_refl _)⟩
          by_cases hlt : j < 8 + k
          · obtain ⟨b, off, rfl, hbl, hc⟩ := HNU0.out.rd (by omega)
            have hc0 := hc j hlt
            have hsz := HB3.out.size
            clear hc
            generalize ys.getD j 0 = n at *
            have hcx := (HB3.out.cell (p := ⟨b, off + j, none⟩) hbl).trans hc0
            have hcases : n = 0 ∨ n = 1 ∨ n = 2 ∨ n = 3 ∨ (n < 0 ∨ 3 < n) := by omega
            rcases hcases with rfl | rfl | rfl | rfl | hno
            · go_wp2_with (first | (go_at_call 6; (with_reducible refine (of0 _ HLK.out).mono ?_); rintro e w1 ⟨rfl, bel1⟩; have e1 := (bel1.cell (p := ⟨b, off + j, none⟩) (Nat.lt_of_lt_of_le hbl hsz)).trans hcx; have e2 : (w1.alloc (.cells #[.int .i64 24576, .int .i64 16384, .int .i64 0, .int .i64 0, .int .i64 0] 24)).cell? ⟨b, off + j, none⟩ = some (.int .i64 0) := (((Below.refl _ _).alloc (Nat.le_refl _) _).cell (p := ⟨b, off + j, none⟩) (by have := bel1.size; show b < w1.heap.size; omega)).trans e1) | (go_at_call 7; (with_reducible refine (rof0 _).mono ?_); rintro e w2 ⟨rfl, bel2⟩; have f0 : w2.cell? ⟨w1.heap.size, 0, none⟩ = some (.int .i64 24576) := (bel2.cell (p := ⟨w1.heap.size, 0, none⟩) (by simp)).trans (by rw [World.cell?_alloc_mark]; simp); have g0 : (w2.alloc (.cells #[.int .i64 24576, .int .i64 16384, .int .i64 0, .int .i64 0, .int .i64 0] 24)).cell? ⟨w1.heap.size, 0, none⟩ = some (.int .i64 24576) := (((Below.refl _ _).alloc (Nat.le_refl _) _).cell (p := ⟨w1.heap.size, 0, none⟩) (by have := bel2.size; simp at this; show w1.heap.size < w2.heap.size; omega)).trans f0; have f1 : w2.cell? ⟨w1.heap.size, 1, none⟩ = some (.int .i64 16384) := (bel2.cell (p := ⟨w1.heap.size, 1, none⟩) (by simp)).trans (by rw [World.cell?_alloc_mark]; simp); have g1 : (w2.alloc (.cells #[.int .i64 24576, .int .i64 16384, .int .i64 0, .int .i64 0, .int .i64 0] 24)).cell? ⟨w1.heap.size, 1, none⟩ = some (.int .i64 16384) := (((Below.refl _ _).alloc (Nat.le_refl _) _).cell (p := ⟨w1.heap.size, 1, none⟩) (by have := bel2.size; simp at this; show w1.heap.size < w2.heap.size; omega)).trans f1; have f2 : w2.cell? ⟨w1.heap.size, 2, none⟩ = some (.int .i64 0) := (bel2.cell (p := ⟨w1.heap.size, 2, none⟩) (by simp)).trans (by rw [World.cell?_alloc_mark]; simp); have g2 : (w2.alloc (.cells #[.int .i64 24576, .int .i64 16384, .int .i64 0, .int .i64 0, .int .i64 0] 24)).cell? ⟨w1.heap.size, 2, none⟩ = some (.int .i64 0) := (((Below.refl _ _).alloc (Nat.le_refl _) _).cell (p := ⟨w1.heap.size, 2, none⟩) (by have := bel2.size; simp at this; show w1.heap.size < w2.heap.size; omega)).trans f2; have f3 : w2.cell? ⟨w1.heap.size, 3, none⟩ = some (.int .i64 0) := (bel2.cell (p := ⟨w1.heap.size, 3, none⟩) (by simp)).trans (by rw [World.cell?_alloc_mark]; simp); have g3 : (w2.alloc (.cells #[.int .i64 24576, .int .i64 16384, .int .i64 0, .int .i64 0, .int .i64 0] 24)).cell? ⟨w1.heap.size, 3, none⟩ = some (.int .i64 0) := (((Below.refl _ _).alloc (Nat.le_refl _) _).cell (p := ⟨w1.heap.size, 3, none⟩) (by have := bel2.size; simp at this; show w1.heap.size < w2.heap.size; omega)).trans f3; have f4 : w2.cell? ⟨w1.heap.size, 4, none⟩ = some (.int .i64 0) := (bel2.cell (p := ⟨w1.heap.size, 4, none⟩) (by simp)).trans (by rw [World.cell?_alloc_mark]; simp); have g4 : (w2.alloc (.cells #[.int .i64 24576, .int .i64 16384, .int .i64 0, .int .i64 0, .int .i64 0] 24)).cell? ⟨w1.heap.size, 4, none⟩ = some (.int .i64 0) := (((Below.refl _ _).alloc (Nat.le_refl _) _).cell (p := ⟨w1.heap.size, 4, none⟩) (by have := bel2.size; simp at this; show w1.heap.size < w2.heap.size; omega)).trans f4) | (go_at_call 8; (with_reducible refine (num5_any _ _).mono ?_); rintro e w' ⟨rfl, rfl⟩))
              have HB4 : Hk (Below wo.heap.size wo (w2.alloc (.cells #[.int .i64 24576, .int .i64 16384, .int .i64 0, .int .i64 0, .int .i64 0] 24))) := ⟨by have s1 := bel1.size; have s2 := bel2.size; simp at s2; exact (((HB3.out.trans (bel1.mono hsz)).alloc (by omega) _).trans (bel2.mono (by simp; omega))).alloc (by omega) _⟩
              go_loopw [10] (fun i wr => ∃ t : Int, 0 ≤ t ∧ t ≤ 300 ∧ i = .int .i64 t ∧ Hk (Below wo.heap.size wo wr)) (fun i _ => 300 - (intOf i).toNat)
              case atStart => exact ⟨0, by omega, by omega, rfl, HB4⟩
              case round =>
                obtain ⟨t, ht0, ht3, rfl, HB5⟩ := hrel
                have HLK : Hk (LK wr) := ⟨(HW.out.below HB0.out (Nat.le_refl _)).below HB5.out (Nat.le_refl _)⟩
                have hcx5 := (HB5.out.cell (p := ⟨b, off + j, none⟩) hbl).trans hc0
                by_cases h256 : t < 256
                · by_cases h5 : t ≤ 5
                  · have htc : t = 0 ∨ t = 1 ∨ t = 2 ∨ t = 3 ∨ t = 4 ∨ t = 5 := by omega
                    clear h5 h256 ht0 ht3
                    rcases htc with rfl | rfl | rfl | rfl | rfl | rfl
                    · go_wp2_with (first | (go_at_call 9; (refine (cost_as 0 0 _ _ 2 _ HLK.out (by omega) (by omega) ⟨by omega⟩ ⟨by omega⟩ ⟨by decide⟩).mono ?_); rintro e w' ⟨rfl, rfl⟩) | (go_at_call 10; (with_reducible refine (rclass_yes _ (by omega) (by omega) _).mono ?_); rintro e w' ⟨rfl, rfl⟩) | (go_at_call 11; (refine (rcost_as 0 0 _ _ 2 _ (by omega) (by omega) ⟨by omega⟩ ⟨by omega⟩ ⟨by decide⟩).mono ?_); rintro e w3 ⟨rfl, bel3⟩) | (go_at_call 8; (with_reducible refine (num5_any _ _).mono ?_); rintro e w' ⟨rfl, rfl⟩))
                      go_roundw
                      case rel => exact ⟨_, by omega, by omega, rfl, ⟨HB5.out.trans (bel3.mono HB5.out.size)⟩⟩
                      case measure => simp [intOf]
                    · go_wp2_with (first | (go_at_call 9; (refine (cost_as 0 1 _ _ 1 _ HLK.out (by omega) (by omega) ⟨by omega⟩ ⟨by omega⟩ ⟨by decide⟩).mono ?_); rintro e w' ⟨rfl, rfl⟩) | (go_at_call 10; (with_reducible refine (rclass_yes _ (by omega) (by omega) _).mono ?_); rintro e w' ⟨rfl, rfl⟩) | (go_at_call 11; (refine (rcost_as 0 1 _ _ 1 _ (by omega) (by omega) ⟨by omega⟩ ⟨by omega⟩ ⟨by decide⟩).mono ?_); rintro e w3 ⟨rfl, bel3⟩) | (go_at_call 8; (with_reducible refine (num5_any _ _).mono ?_); rintro e w' ⟨rfl, rfl⟩))
                      go_roundw
                      case rel => exact ⟨_, by omega, by omega, rfl, ⟨HB5.out.trans (bel3.mono HB5.out.size)⟩⟩
                      case measure => simp [intOf]
                    · go_wp2_with (first | (go_at_call 9; (refine (cost_as 0 2 _ _ 3 _ HLK.out (by omega) (by omega) ⟨by omega⟩ ⟨by omega⟩ ⟨by decide⟩).mono ?_); rintro e w' ⟨rfl, rfl⟩) | (go_at_call 10; (with_reducible refine (rclass_yes _ (by omega) (by omega) _).mono ?_); rintro e w' ⟨rfl, rfl⟩) | (go_at_call 11; (refine (rcost_as 0 2 _ _ 3 _ (by omega) (by omega) ⟨by omega⟩ ⟨by omega⟩ ⟨by decide⟩).mono ?_); rintro e w3 ⟨rfl, bel3⟩) | (go_at_call 8; (with_reducible refine (num5_any _ _).mono ?_); rintro e w' ⟨rfl, rfl⟩))
                      go_roundw
                      case rel => exact ⟨_, by omega, by omega, rfl, ⟨HB5.out.trans (bel3.mono HB5.out.size)⟩⟩
                      case measure => simp [intOf]
                    · go_wp2_with (first | (go_at_call 9; (refine (cost_as 0 3 _ _ 5 _ HLK.out (by omega) (by omega) ⟨by omega⟩ ⟨by omega⟩ ⟨by decide⟩).mono ?_); rintro e w' ⟨rfl, rfl⟩) | (go_at_call 10; (with_reducible refine (rclass_yes _ (by omega) (by omega) _).mono ?_); rintro e w' ⟨rfl, rfl⟩) | (go_at_call 11; (refine (rcost_as 0 3 _ _ 5 _ (by omega) (by omega) ⟨by omega⟩ ⟨by omega⟩ ⟨by decide⟩).mono ?_); rintro e w3 ⟨rfl, bel3⟩) | (go_at_call 8; (with_reducible refine (num5_any _ _).mono ?_); rintro e w' ⟨rfl, rfl⟩))
                      go_roundw
                      case rel => exact ⟨_, by omega, by omega, rfl, ⟨HB5.out.trans (bel3.mono HB5.out.size)⟩⟩
                      case measure => simp [intOf]
                    · go_wp2_with (first | (go_at_call 9; (refine (cost_as 0 4 _ _ 0 _ HLK.out (by omega) (by omega) ⟨by omega⟩ ⟨by omega⟩ ⟨by decide⟩).mono ?_); rintro e w' ⟨rfl, rfl⟩) | (go_at_call 10; (with_reducible refine (rclass_yes _ (by omega) (by omega) _).mono ?_); rintro e w' ⟨rfl, rfl⟩) | (go_at_call 11; (refine (rcost_as 0 4 _ _ 0 _ (by omega) (by omega) ⟨by omega⟩ ⟨by omega⟩ ⟨by decide⟩).mono ?_); rintro e w3 ⟨rfl, bel3⟩) | (go_at_call 8; (with_reducible refine (num5_any _ _).mono ?_); rintro e w' ⟨rfl, rfl⟩))
                      go_roundw
                      case rel => exact ⟨_, by omega, by omega, rfl, ⟨HB5.out.trans (bel3.mono HB5.out.size)⟩⟩
                      case measure => simp [intOf]
                    · go_wp2_with (first | (go_at_call 9; (refine (cost_as 0 5 _ _ 0 _ HLK.out (by omega) (by omega) ⟨by omega⟩ ⟨by omega⟩ ⟨by decide⟩).mono ?_); rintro e w' ⟨rfl, rfl⟩) | (go_at_call 10; (with_reducible refine (rclass_yes _ (by omega) (by omega) _).mono ?_); rintro e w' ⟨rfl, rfl⟩) | (go_at_call 11; (refine (rcost_as 0 5 _ _ 0 _ (by omega) (by omega) ⟨by omega⟩ ⟨by omega⟩ ⟨by decide⟩).mono ?_); rintro e w3 ⟨rfl, bel3⟩) | (go_at_call 8; (with_reducible refine (num5_any _ _).mono ?_); rintro e w' ⟨rfl, rfl⟩))
                      go_roundw
                      case rel => exact ⟨_, by omega, by omega, rfl, ⟨HB5.out.trans (bel3.mono HB5.out.size)⟩⟩
                      case measure => simp [intOf]
                  · have hb : t % 256 = t := by omega
                    have hq8 : t.tdiv 8 = t / 8 := Int.tdiv_eq_ediv_of_nonneg ht0
                    go_wp2_with (first | (go_at_call 9; (with_reducible refine (cost_no _ _ (by omega) _).mono ?_); rintro e w' ⟨rfl, rfl⟩) | (go_at_call 10; (with_reducible refine (rclass_yes _ (by omega) (by omega) _).mono ?_); rintro e w' ⟨rfl, rfl⟩) | (go_at_call 8; (with_reducible refine (num5_any _ _).mono ?_); rintro e w' ⟨rfl, rfl⟩))
                    go_roundw
                    case rel => refine ⟨_, ?_, ?_, rfl, HB5⟩ <;> omega
                    case measure => (simp [intOf]; omega)
                · go_wp2
                  go_roundw
                  case rel => exact ⟨j + 1, by omega, by go_num, HB5⟩
                  case measure => simp [intOf]; omega
            · go_wp2_with (first | (go_at_call 6; (with_reducible refine (of1 _ HLK.out).mono ?_); rintro e w1 ⟨rfl, bel1⟩; have e1 := (bel1.cell (p := ⟨b, off + j, none⟩) (Nat.lt_of_lt_of_le hbl hsz)).trans hcx; have e2 : (w1.alloc (.cells #[.int .i64 32768, .int .i64 24576, .int .i64 1, .int .i64 0, .int .i64 0] 24)).cell? ⟨b, off + j, none⟩ = some (.int .i64 1) := (((Below.refl _ _).alloc (Nat.le_refl _) _).cell (p := ⟨b, off + j, none⟩) (by have := bel1.size; show b < w1.heap.size; omega)).trans e1) | (go_at_call 7; (with_reducible refine (rof1 _).mono ?_); rintro e w2 ⟨rfl, bel2⟩; have f0 : w2.cell? ⟨w1.heap.size, 0, none⟩ = some (.int .i64 32768) := (bel2.cell (p := ⟨w1.heap.size, 0, none⟩) (by simp)).trans (by rw [World.cell?_alloc_mark]; simp); have g0 : (w2.alloc (.cells #[.int .i64 32768, .int .i64 24576, .int .i64 1, .int .i64 0, .int .i64 0] 24)).cell? ⟨w1.heap.size, 0, none⟩ = some (.int .i64 32768) := (((Below.refl _ _).alloc (Nat.le_refl _) _).cell (p := ⟨w1.heap.size, 0, none⟩) (by have := bel2.size; simp at this; show w1.heap.size < w2.heap.size; omega)).trans f0; have f1 : w2.cell? ⟨w1.heap.size, 1, none⟩ = some (.int .i64 24576) := (bel2.cell (p := ⟨w1.heap.size, 1, none⟩) (by simp)).trans (by rw [World.cell?_alloc_mark]; simp); have g1 : (w2.alloc (.cells #[.int .i64 32768, .int .i64 24576, .int .i64 1, .int .i64 0, .int .i64 0] 24)).cell? ⟨w1.heap.size, 1, none⟩ = some (.int .i64 24576) := (((Below.refl _ _).alloc (Nat.le_refl _) _).cell (p := ⟨w1.heap.size, 1, none⟩) (by have := bel2.size; simp at this; show w1.heap.size < w2.heap.size; omega)).trans f1; have f2 : w2.cell? ⟨w1.heap.size, 2, none⟩ = some (.int .i64 1) := (bel2.cell (p := ⟨w1.heap.size, 2, none⟩) (by simp)).trans (by rw [World.cell?_alloc_mark]; simp); have g2 : (w2.alloc (.cells #[.int .i64 32768, .int .i64 24576, .int .i64 1, .int .i64 0, .int .i64 0] 24)).cell? ⟨w1.heap.size, 2, none⟩ = some (.int .i64 1) := (((Below.refl _ _).alloc (Nat.le_refl _) _).cell (p := ⟨w1.heap.size, 2, none⟩) (by have := bel2.size; simp at this; show w1.heap.size < w2.heap.size; omega)).trans f2; have f3 : w2.cell? ⟨w1.heap.size, 3, none⟩ = some (.int .i64 0) := (bel2.cell (p := ⟨w1.heap.size, 3, none⟩) (by simp)).trans (by rw [World.cell?_alloc_mark]; simp); have g3 : (w2.alloc (.cells #[.int .i64 32768, .int .i64 24576, .int .i64 1, .int .i64 0, .int .i64 0] 24)).cell? ⟨w1.heap.size, 3, none⟩ = some (.int .i64 0) := (((Below.refl _ _).alloc (Nat.le_refl _) _).cell (p := ⟨w1.heap.size, 3, none⟩) (by have := bel2.size; simp at this; show w1.heap.size < w2.heap.size; omega)).trans f3; have f4 : w2.cell? ⟨w1.heap.size, 4, none⟩ = some (.int .i64 0) := (bel2.cell (p := ⟨w1.heap.size, 4, none⟩) (by simp)).trans (by rw [World.cell?_alloc_mark]; simp); have g4 : (w2.alloc (.cells #[.int .i64 32768, .int .i64 24576, .int .i64 1, .int .i64 0, .int .i64 0] 24)).cell? ⟨w1.heap.size, 4, none⟩ = some (.int .i64 0) := (((Below.refl _ _).alloc (Nat.le_refl _) _).cell (p := ⟨w1.heap.size, 4, none⟩) (by have := bel2.size; simp at this; show w1.heap.size < w2.heap.size; omega)).trans f4) | (go_at_call 8; (with_reducible refine (num5_any _ _).mono ?_); rintro e w' ⟨rfl, rfl⟩))
              have HB4 : Hk (Below wo.heap.size wo (w2.alloc (.cells #[.int .i64 32768, .int .i64 24576, .int .i64 1, .int .i64 0, .int .i64 0] 24))) := ⟨by have s1 := bel1.size; have s2 := bel2.size; simp at s2; exact (((HB3.out.trans (bel1.mono hsz)).alloc (by omega) _).trans (bel2.mono (by simp; omega))).alloc (by omega) _⟩
              go_loopw [10] (fun i wr => ∃ t : Int, 0 ≤ t ∧ t ≤ 300 ∧ i = .int .i64 t ∧ Hk (Below wo.heap.size wo wr)) (fun i _ => 300 - (intOf i).toNat)
              case atStart => exact ⟨0, by omega, by omega, rfl, HB4⟩
              case round =>
                obtain ⟨t, ht0, ht3, rfl, HB5⟩ := hrel
                have HLK : Hk (LK wr) := ⟨(HW.out.below HB0.out (Nat.le_refl _)).below HB5.out (Nat.le_refl _)⟩
                have hcx5 := (HB5.out.cell (p := ⟨b, off + j, none⟩) hbl).trans hc0
                by_cases h256 : t < 256
                · by_cases h5 : t ≤ 5
                  · have htc : t = 0 ∨ t = 1 ∨ t = 2 ∨ t = 3 ∨ t = 4 ∨ t = 5 := by omega
                    clear h5 h256 ht0 ht3
                    rcases htc with rfl | rfl | rfl | rfl | rfl | rfl
                    · go_wp2_with (first | (go_at_call 9; (refine (cost_as 1 0 _ _ 2 _ HLK.out (by omega) (by omega) ⟨by omega⟩ ⟨by omega⟩ ⟨by decide⟩).mono ?_); rintro e w' ⟨rfl, rfl⟩) | (go_at_call 10; (with_reducible refine (rclass_yes _ (by omega) (by omega) _).mono ?_); rintro e w' ⟨rfl, rfl⟩) | (go_at_call 11; (refine (rcost_as 1 0 _ _ 2 _ (by omega) (by omega) ⟨by omega⟩ ⟨by omega⟩ ⟨by decide⟩).mono ?_); rintro e w3 ⟨rfl, bel3⟩) | (go_at_call 8; (with_reducible refine (num5_any _ _).mono ?_); rintro e w' ⟨rfl, rfl⟩))
                      go_roundw
                      case rel => exact ⟨_, by omega, by omega, rfl, ⟨HB5.out.trans (bel3.mono HB5.out.size)⟩⟩
                      case measure => simp [intOf]
                    · go_wp2_with (first | (go_at_call 9; (refine (cost_as 1 1 _ _ 1 _ HLK.out (by omega) (by omega) ⟨by omega⟩ ⟨by omega⟩ ⟨by decide⟩).mono ?_); rintro e w' ⟨rfl, rfl⟩) | (go_at_call 10; (with_reducible refine (rclass_yes _ (by omega) (by omega) _).mono ?_); rintro e w' ⟨rfl, rfl⟩) | (go_at_call 11; (refine (rcost_as 1 1 _ _ 1 _ (by omega) (by omega) ⟨by omega⟩ ⟨by omega⟩ ⟨by decide⟩).mono ?_); rintro e w3 ⟨rfl, bel3⟩) | (go_at_call 8; (with_reducible refine (num5_any _ _).mono ?_); rintro e w' ⟨rfl, rfl⟩))
                      go_roundw
                      case rel => exact ⟨_, by omega, by omega, rfl, ⟨HB5.out.trans (bel3.mono HB5.out.size)⟩⟩
                      case measure => simp [intOf]
                    · go_wp2_with (first | (go_at_call 9; (refine (cost_as 1 2 _ _ 6 _ HLK.out (by omega) (by omega) ⟨by omega⟩ ⟨by omega⟩ ⟨by decide⟩).mono ?_); rintro e w' ⟨rfl, rfl⟩) | (go_at_call 10; (with_reducible refine (rclass_yes _ (by omega) (by omega) _).mono ?_); rintro e w' ⟨rfl, rfl⟩) | (go_at_call 11; (refine (rcost_as 1 2 _ _ 6 _ (by omega) (by omega) ⟨by omega⟩ ⟨by omega⟩ ⟨by decide⟩).mono ?_); rintro e w3 ⟨rfl, bel3⟩) | (go_at_call 8; (with_reducible refine (num5_any _ _).mono ?_); rintro e w' ⟨rfl, rfl⟩))
                      go_roundw
                      case rel => exact ⟨_, by omega, by omega, rfl, ⟨HB5.out.trans (bel3.mono HB5.out.size)⟩⟩
                      case measure => simp [intOf]
                    · go_wp2_with (first | (go_at_call 9; (refine (cost_as 1 3 _ _ 0 _ HLK.out (by omega) (by omega) ⟨by omega⟩ ⟨by omega⟩ ⟨by decide⟩).mono ?_); rintro e w' ⟨rfl, rfl⟩) | (go_at_call 10; (with_reducible refine (rclass_yes _ (by omega) (by omega) _).mono ?_); rintro e w' ⟨rfl, rfl⟩) | (go_at_call 11; (refine (rcost_as 1 3 _ _ 0 _ (by omega) (by omega) ⟨by omega⟩ ⟨by omega⟩ ⟨by decide⟩).mono ?_); rintro e w3 ⟨rfl, bel3⟩) | (go_at_call 8; (with_reducible refine (num5_any _ _).mono ?_); rintro e w' ⟨rfl, rfl⟩))
                      go_roundw
                      case rel => exact ⟨_, by omega, by omega, rfl, ⟨HB5.out.trans (bel3.mono HB5.out.size)⟩⟩
                      case measure => simp [intOf]
                    · go_wp2_with (first | (go_at_call 9; (refine (cost_as 1 4 _ _ 0 _ HLK.out (by omega) (by omega) ⟨by omega⟩ ⟨by omega⟩ ⟨by decide⟩).mono ?_); rintro e w' ⟨rfl, rfl⟩) | (go_at_call 10; (with_reducible refine (rclass_yes _ (by omega) (by omega) _).mono ?_); rintro e w' ⟨rfl, rfl⟩) | (go_at_call 11; (refine (rcost_as 1 4 _ _ 0 _ (by omega) (by omega) ⟨by omega⟩ ⟨by omega⟩ ⟨by decide⟩).mono ?_); rintro e w3 ⟨rfl, bel3⟩) | (go_at_call 8; (with_reducible refine (num5_any _ _).mono ?_); rintro e w' ⟨rfl, rfl⟩))
                      go_roundw
                      case rel => exact ⟨_, by omega, by omega, rfl, ⟨HB5.out.trans (bel3.mono HB5.out.size)⟩⟩
                      case measure => simp [intOf]
                    · go_wp2_with (first | (go_at_call 9; (refine (cost_as 1 5 _ _ 0 _ HLK.out (by omega) (by omega) ⟨by omega⟩ ⟨by omega⟩ ⟨by decide⟩).mono ?_); rintro e w' ⟨rfl, rfl⟩) | (go_at_call 10; (with_reducible refine (rclass_yes _ (by omega) (by omega) _).mono ?_); rintro e w' ⟨rfl, rfl⟩) | (go_at_call 11; (refine (rcost_as 1 5 _ _ 0 _ (by omega) (by omega) ⟨by omega⟩ ⟨by omega⟩ ⟨by decide⟩).mono ?_); rintro e w3 ⟨rfl, bel3⟩) | (go_at_call 8; (with_reducible refine (num5_any _ _).mono ?_); rintro e w' ⟨rfl, rfl⟩))
                      go_roundw
                      case rel => exact ⟨_, by omega, by omega, rfl, ⟨HB5.out.trans (bel3.mono HB5.out.size)⟩⟩
                      case measure => simp [intOf]
                  · have hb : t % 256 = t := by omega
                    have hq8 : t.tdiv 8 = t / 8 := Int.tdiv_eq_ediv_of_nonneg ht0
                    go_wp2_with (first | (go_at_call 9; (with_reducible refine (cost_no _ _ (by omega) _).mono ?_); rintro e w' ⟨rfl, rfl⟩) | (go_at_call 10; (with_reducible refine (rclass_yes _ (by omega) (by omega) _).mono ?_); rintro e w' ⟨rfl, rfl⟩) | (go_at_call 8; (with_reducible refine (num5_any _ _).mono ?_); rintro e w' ⟨rfl, rfl⟩))
                    go_roundw
                    case rel => refine ⟨_, ?_, ?_, rfl, HB5⟩ <;> omega
                    case measure => (simp [intOf]; omega)
                · go_wp2
                  go_roundw
                  case rel => exact ⟨j + 1, by omega, by go_num, HB5⟩
                  case measure => simp [intOf]; omega
            · go_wp2_with (first | (go_at_call 6; (with_reducible refine (of2 _ HLK.out).mono ?_); rintro e w1 ⟨rfl, bel1⟩; have e1 := (bel1.cell (p := ⟨b, off + j, none⟩) (Nat.lt_of_lt_of_le hbl hsz)).trans hcx; have e2 : (w1.alloc (.cells #[.int .i64 81920, .int .i64 8192, .int .i64 0, .int .i64 1, .int .i64 0] 24)).cell? ⟨b, off + j, none⟩ = some (.int .i64 2) := (((Below.refl _ _).alloc (Nat.le_refl _) _).cell (p := ⟨b, off + j, none⟩) (by have := bel1.size; show b < w1.heap.size; omega)).trans e1) | (go_at_call 7; (with_reducible refine (rof2 _).mono ?_); rintro e w2 ⟨rfl, bel2⟩; have f0 : w2.cell? ⟨w1.heap.size, 0, none⟩ = some (.int .i64 81920) := (bel2.cell (p := ⟨w1.heap.size, 0, none⟩) (by simp)).trans (by rw [World.cell?_alloc_mark]; simp); have g0 : (w2.alloc (.cells #[.int .i64 81920, .int .i64 8192, .int .i64 0, .int .i64 1, .int .i64 0] 24)).cell? ⟨w1.heap.size, 0, none⟩ = some (.int .i64 81920) := (((Below.refl _ _).alloc (Nat.le_refl _) _).cell (p := ⟨w1.heap.size, 0, none⟩) (by have := bel2.size; simp at this; show w1.heap.size < w2.heap.size; omega)).trans f0; have f1 : w2.cell? ⟨w1.heap.size, 1, none⟩ = some (.int .i64 8192) := (bel2.cell (p := ⟨w1.heap.size, 1, none⟩) (by simp)).trans (by rw [World.cell?_alloc_mark]; simp); have g1 : (w2.alloc (.cells #[.int .i64 81920, .int .i64 8192, .int .i64 0, .int .i64 1, .int .i64 0] 24)).cell? ⟨w1.heap.size, 1, none⟩ = some (.int .i64 8192) := (((Below.refl _ _).alloc (Nat.le_refl _) _).cell (p := ⟨w1.heap.size, 1, none⟩) (by have := bel2.size; simp at this; show w1.heap.size < w2.heap.size; omega)).trans f1; have f2 : w2.cell? ⟨w1.heap.size, 2, none⟩ = some (.int .i64 0) := (bel2.cell (p := ⟨w1.heap.size, 2, none⟩) (by simp)).trans (by rw [World.cell?_alloc_mark]; simp); have g2 : (w2.alloc (.cells #[.int .i64 81920, .int .i64 8192, .int .i64 0, .int .i64 1, .int .i64 0] 24)).cell? ⟨w1.heap.size, 2, none⟩ = some (.int .i64 0) := (((Below.refl _ _).alloc (Nat.le_refl _) _).cell (p := ⟨w1.heap.size, 2, none⟩) (by have := bel2.size; simp at this; show w1.heap.size < w2.heap.size; omega)).trans f2; have f3 : w2.cell? ⟨w1.heap.size, 3, none⟩ = some (.int .i64 1) := (bel2.cell (p := ⟨w1.heap.size, 3, none⟩) (by simp)).trans (by rw [World.cell?_alloc_mark]; simp); have g3 : (w2.alloc (.cells #[.int .i64 81920, .int .i64 8192, .int .i64 0, .int .i64 1, .int .i64 0] 24)).cell? ⟨w1.heap.size, 3, none⟩ = some (.int .i64 1) := (((Below.refl _ _).alloc (Nat.le_refl _) _).cell (p := ⟨w1.heap.size, 3, none⟩) (by have := bel2.size; simp at this; show w1.heap.size < w2.heap.size; omega)).trans f3; have f4 : w2.cell? ⟨w1.heap.size, 4, none⟩ = some (.int .i64 0) := (bel2.cell (p := ⟨w1.heap.size, 4, none⟩) (by simp)).trans (by rw [World.cell?_alloc_mark]; simp); have g4 : (w2.alloc (.cells #[.int .i64 81920, .int .i64 8192, .int .i64 0, .int .i64 1, .int .i64 0] 24)).cell? ⟨w1.heap.size, 4, none⟩ = some (.int .i64 0) := (((Below.refl _ _).alloc (Nat.le_refl _) _).cell (p := ⟨w1.heap.size, 4, none⟩) (by have := bel2.size; simp at this; show w1.heap.size < w2.heap.size; omega)).trans f4) | (go_at_call 8; (with_reducible refine (num5_any _ _).mono ?_); rintro e w' ⟨rfl, rfl⟩))
              have HB4 : Hk (Below wo.heap.size wo (w2.alloc (.cells #[.int .i64 81920, .int .i64 8192, .int .i64 0, .int .i64 1, .int .i64 0] 24))) := ⟨by have s1 := bel1.size; have s2 := bel2.size; simp at s2; exact (((HB3.out.trans (bel1.mono hsz)).alloc (by omega) _).trans (bel2.mono (by simp; omega))).alloc (by omega) _⟩
              go_loopw [10] (fun i wr => ∃ t : Int, 0 ≤ t ∧ t ≤ 300 ∧ i = .int .i64 t ∧ Hk (Below wo.heap.size wo wr)) (fun i _ => 300 - (intOf i).toNat)
              case atStart => exact ⟨0, by omega, by omega, rfl, HB4⟩
              case round =>
                obtain ⟨t, ht0, ht3, rfl, HB5⟩ := hrel
                have HLK : Hk (LK wr) := ⟨(HW.out.below HB0.out (Nat.le_refl _)).below HB5.out (Nat.le_refl _)⟩
                have hcx5 := (HB5.out.cell (p := ⟨b, off + j, none⟩) hbl).trans hc0
                by_cases h256 : t < 256
                · by_cases h5 : t ≤ 5
                  · have htc : t = 0 ∨ t = 1 ∨ t = 2 ∨ t = 3 ∨ t = 4 ∨ t = 5 := by omega
                    clear h5 h256 ht0 ht3
                    rcases htc with rfl | rfl | rfl | rfl | rfl | rfl
                    · go_wp2_with (first | (go_at_call 9; (refine (cost_as 2 0 _ _ 2 _ HLK.out (by omega) (by omega) ⟨by omega⟩ ⟨by omega⟩ ⟨by decide⟩).mono ?_); rintro e w' ⟨rfl, rfl⟩) | (go_at_call 10; (with_reducible refine (rclass_yes _ (by omega) (by omega) _).mono ?_); rintro e w' ⟨rfl, rfl⟩) | (go_at_call 11; (refine (rcost_as 2 0 _ _ 2 _ (by omega) (by omega) ⟨by omega⟩ ⟨by omega⟩ ⟨by decide⟩).mono ?_); rintro e w3 ⟨rfl, bel3⟩) | (go_at_call 8; (with_reducible refine (num5_any _ _).mono ?_); rintro e w' ⟨rfl, rfl⟩))
                      go_roundw
                      case rel => exact ⟨_, by omega, by omega, rfl, ⟨HB5.out.trans (bel3.mono HB5.out.size)⟩⟩
                      case measure => simp [intOf]
                    · go_wp2_with (first | (go_at_call 9; (refine (cost_as 2 1 _ _ 1 _ HLK.out (by omega) (by omega) ⟨by omega⟩ ⟨by omega⟩ ⟨by decide⟩).mono ?_); rintro e w' ⟨rfl, rfl⟩) | (go_at_call 10; (with_reducible refine (rclass_yes _ (by omega) (by omega) _).mono ?_); rintro e w' ⟨rfl, rfl⟩) | (go_at_call 11; (refine (rcost_as 2 1 _ _ 1 _ (by omega) (by omega) ⟨by omega⟩ ⟨by omega⟩ ⟨by decide⟩).mono ?_); rintro e w3 ⟨rfl, bel3⟩) | (go_at_call 8; (with_reducible refine (num5_any _ _).mono ?_); rintro e w' ⟨rfl, rfl⟩))
                      go_roundw
                      case rel => exact ⟨_, by omega, by omega, rfl, ⟨HB5.out.trans (bel3.mono HB5.out.size)⟩⟩
                      case measure => simp [intOf]
                    · go_wp2_with (first | (go_at_call 9; (refine (cost_as 2 2 _ _ 0 _ HLK.out (by omega) (by omega) ⟨by omega⟩ ⟨by omega⟩ ⟨by decide⟩).mono ?_); rintro e w' ⟨rfl, rfl⟩) | (go_at_call 10; (with_reducible refine (rclass_yes _ (by omega) (by omega) _).mono ?_); rintro e w' ⟨rfl, rfl⟩) | (go_at_call 11; (refine (rcost_as 2 2 _ _ 0 _ (by omega) (by omega) ⟨by omega⟩ ⟨by omega⟩ ⟨by decide⟩).mono ?_); rintro e w3 ⟨rfl, bel3⟩) | (go_at_call 8; (with_reducible refine (num5_any _ _).mono ?_); rintro e w' ⟨rfl, rfl⟩))
                      go_roundw
                      case rel => exact ⟨_, by omega, by omega, rfl, ⟨HB5.out.trans (bel3.mono HB5.out.size)⟩⟩
                      case measure => simp [intOf]
                    · go_wp2_with (first | (go_at_call 9; (refine (cost_as 2 3 _ _ 3 _ HLK.out (by omega) (by omega) ⟨by omega⟩ ⟨by omega⟩ ⟨by decide⟩).mono ?_); rintro e w' ⟨rfl, rfl⟩) | (go_at_call 10; (with_reducible refine (rclass_yes _ (by omega) (by omega) _).mono ?_); rintro e w' ⟨rfl, rfl⟩) | (go_at_call 11; (refine (rcost_as 2 3 _ _ 3 _ (by omega) (by omega) ⟨by omega⟩ ⟨by omega⟩ ⟨by decide⟩).mono ?_); rintro e w3 ⟨rfl, bel3⟩) | (go_at_call 8; (with_reducible refine (num5_any _ _).mono ?_); rintro e w' ⟨rfl, rfl⟩))
                      go_roundw
                      case rel => exact ⟨_, by omega, by omega, rfl, ⟨HB5.out.trans (bel3.mono HB5.out.size)⟩⟩
                      case measure => simp [intOf]
                    · go_wp2_with (first | (go_at_call 9; (refine (cost_as 2 4 _ _ 2 _ HLK.out (by omega) (by omega) ⟨by omega⟩ ⟨by omega⟩ ⟨by decide⟩).mono ?_); rintro e w' ⟨rfl, rfl⟩) | (go_at_call 10; (with_reducible refine (rclass_yes _ (by omega) (by omega) _).mono ?_); rintro e w' ⟨rfl, rfl⟩) | (go_at_call 11; (refine (rcost_as 2 4 _ _ 2 _ (by omega) (by omega) ⟨by omega⟩ ⟨by omega⟩ ⟨by decide⟩).mono ?_); rintro e w3 ⟨rfl, bel3⟩) | (go_at_call 8; (with_reducible refine (num5_any _ _).mono ?_); rintro e w' ⟨rfl, rfl⟩))
                      go_roundw
                      case rel => exact ⟨_, by omega, by omega, rfl, ⟨HB5.out.trans (bel3.mono HB5.out.size)⟩⟩
                      case measure => simp [intOf]
                    · go_wp2_with (first | (go_at_call 9; (refine (cost_as 2 5 _ _ 0 _ HLK.out (by omega) (by omega) ⟨by omega⟩ ⟨by omega⟩ ⟨by decide⟩).mono ?_); rintro e w' ⟨rfl, rfl⟩) | (go_at_call 10; (with_reducible refine (rclass_yes _ (by omega) (by omega) _).mono ?_); rintro e w' ⟨rfl, rfl⟩) | (go_at_call 11; (refine (rcost_as 2 5 _ _ 0 _ (by omega) (by omega) ⟨by omega⟩ ⟨by omega⟩ ⟨by decide⟩).mono ?_); rintro e w3 ⟨rfl, bel3⟩) | (go_at_call 8; (with_reducible refine (num5_any _ _).mono ?_); rintro e w' ⟨rfl, rfl⟩))
                      go_roundw
                      case rel => exact ⟨_, by omega, by omega, rfl, ⟨HB5.out.trans (bel3.mono HB5.out.size)⟩⟩
                      case measure => simp [intOf]
                  · have hb : t % 256 = t := by omega
                    have hq8 : t.tdiv 8 = t / 8 := Int.tdiv_eq_ediv_of_nonneg ht0
                    go_wp2_with (first | (go_at_call 9; (with_reducible refine (cost_no _ _ (by omega) _).mono ?_); rintro e w' ⟨rfl, rfl⟩) | (go_at_call 10; (with_reducible refine (rclass_yes _ (by omega) (by omega) _).mono ?_); rintro e w' ⟨rfl, rfl⟩) | (go_at_call 8; (with_reducible refine (num5_any _ _).mono ?_); rintro e w' ⟨rfl, rfl⟩))
                    go_roundw
                    case rel => refine ⟨_, ?_, ?_, rfl, HB5⟩ <;> omega
                    case measure => (simp [intOf]; omega)
                · go_wp2
                  go_roundw
                  case rel => exact ⟨j + 1, by omega, by go_num, HB5⟩
                  case measure => simp [intOf]; omega
            · go_wp2_with (first | (go_at_call 6; (with_reducible refine (of3 _ HLK.out).mono ?_); rintro e w1 ⟨rfl, bel1⟩; have e1 := (bel1.cell (p := ⟨b, off + j, none⟩) (Nat.lt_of_lt_of_le hbl hsz)).trans hcx; have e2 : (w1.alloc (.cells #[.int .i64 32768, .int .i64 16384, .int .i64 2, .int .i64 0, .int .i64 4] 24)).cell? ⟨b, off + j, none⟩ = some (.int .i64 3) := (((Below.refl _ _).alloc (Nat.le_refl _) _).cell (p := ⟨b, off + j, none⟩) (by have := bel1.size; show b < w1.heap.size; omega)).trans e1) | (go_at_call 7; (with_reducible refine (rof3 _).mono ?_); rintro e w2 ⟨rfl, bel2⟩; have f0 : w2.cell? ⟨w1.heap.size, 0, none⟩ = some (.int .i64 32768) := (bel2.cell (p := ⟨w1.heap.size, 0, none⟩) (by simp)).trans (by rw [World.cell?_alloc_mark]; simp); have g0 : (w2.alloc (.cells #[.int .i64 32768, .int .i64 16384, .int .i64 2, .int .i64 0, .int .i64 4] 24)).cell? ⟨w1.heap.size, 0, none⟩ = some (.int .i64 32768) := (((Below.refl _ _).alloc (Nat.le_refl _) _).cell (p := ⟨w1.heap.size, 0, none⟩) (by have := bel2.size; simp at this; show w1.heap.size < w2.heap.size; omega)).trans f0; have f1 : w2.cell? ⟨w1.heap.size, 1, none⟩ = some (.int .i64 16384) := (bel2.cell (p := ⟨w1.heap.size, 1, none⟩) (by simp)).trans (by rw [World.cell?_alloc_mark]; simp); have g1 : (w2.alloc (.cells #[.int .i64 32768, .int .i64 16384, .int .i64 2, .int .i64 0, .int .i64 4] 24)).cell? ⟨w1.heap.size, 1, none⟩ = some (.int .i64 16384) := (((Below.refl _ _).alloc (Nat.le_refl _) _).cell (p := ⟨w1.heap.size, 1, none⟩) (by have := bel2.size; simp at this; show w1.heap.size < w2.heap.size; omega)).trans f1; have f2 : w2.cell? ⟨w1.heap.size, 2, none⟩ = some (.int .i64 2) := (bel2.cell (p := ⟨w1.heap.size, 2, none⟩) (by simp)).trans (by rw [World.cell?_alloc_mark]; simp); have g2 : (w2.alloc (.cells #[.int .i64 32768, .int .i64 16384, .int .i64 2, .int .i64 0, .int .i64 4] 24)).cell? ⟨w1.heap.size, 2, none⟩ = some (.int .i64 2) := (((Below.refl _ _).alloc (Nat.le_refl _) _).cell (p := ⟨w1.heap.size, 2, none⟩) (by have := bel2.size; simp at this; show w1.heap.size < w2.heap.size; omega)).trans f2; have f3 : w2.cell? ⟨w1.heap.size, 3, none⟩ = some (.int .i64 0) := (bel2.cell (p := ⟨w1.heap.size, 3, none⟩) (by simp)).trans (by rw [World.cell?_alloc_mark]; simp); have g3 : (w2.alloc (.cells #[.int .i64 32768, .int .i64 16384, .int .i64 2, .int .i64 0, .int .i64 4] 24)).cell? ⟨w1.heap.size, 3, none⟩ = some (.int .i64 0) := (((Below.refl _ _).alloc (Nat.le_refl _) _).cell (p := ⟨w1.heap.size, 3, none⟩) (by have := bel2.size; simp at this; show w1.heap.size < w2.heap.size; omega)).trans f3; have f4 : w2.cell? ⟨w1.heap.size, 4, none⟩ = some (.int .i64 4) := (bel2.cell (p := ⟨w1.heap.size, 4, none⟩) (by simp)).trans (by rw [World.cell?_alloc_mark]; simp); have g4 : (w2.alloc (.cells #[.int .i64 32768, .int .i64 16384, .int .i64 2, .int .i64 0, .int .i64 4] 24)).cell? ⟨w1.heap.size, 4, none⟩ = some (.int .i64 4) := (((Below.refl _ _).alloc (Nat.le_refl _) _).cell (p := ⟨w1.heap.size, 4, none⟩) (by have := bel2.size; simp at this; show w1.heap.size < w2.heap.size; omega)).trans f4) | (go_at_call 8; (with_reducible refine (num5_any _ _).mono ?_); rintro e w' ⟨rfl, rfl⟩))
              have HB4 : Hk (Below wo.heap.size wo (w2.alloc (.cells #[.int .i64 32768, .int .i64 16384, .int .i64 2, .int .i64 0, .int .i64 4] 24))) := ⟨by have s1 := bel1.size; have s2 := bel2.size; simp at s2; exact (((HB3.out.trans (bel1.mono hsz)).alloc (by omega) _).trans (bel2.mono (by simp; omega))).alloc (by omega) _⟩
              go_loopw [10] (fun i wr => ∃ t : Int, 0 ≤ t ∧ t ≤ 300 ∧ i = .int .i64 t ∧ Hk (Below wo.heap.size wo wr)) (fun i _ => 300 - (intOf i).toNat)
              case atStart => exact ⟨0, by omega, by omega, rfl, HB4⟩
              case round =>
                obtain ⟨t, ht0, ht3, rfl, HB5⟩ := hrel
                have HLK : Hk (LK wr) := ⟨(HW.out.below HB0.out (Nat.le_refl _)).below HB5.out (Nat.le_refl _)⟩
                have hcx5 := (HB5.out.cell (p := ⟨b, off + j, none⟩) hbl).trans hc0
                by_cases h256 : t < 256
                · have hb : t % 256 = t := by omega
                  have hq8 : t.tdiv 8 = t / 8 := Int.tdiv_eq_ediv_of_nonneg ht0
                  go_wp2_with (first | (go_at_call 9; (with_reducible refine (cost_no _ _ (by omega) _).mono ?_); rintro e w' ⟨rfl, rfl⟩) | (go_at_call 10; (with_reducible refine (rclass_no _ (by omega) _).mono ?_); rintro e w' ⟨rfl, rfl⟩) | (go_at_call 8; (with_reducible refine (num5_any _ _).mono ?_); rintro e w' ⟨rfl, rfl⟩))
                  go_roundw
                  case rel => refine ⟨_, ?_, ?_, rfl, HB5⟩ <;> omega
                  case measure => (simp [intOf]; omega)
                · go_wp2
                  go_roundw
                  case rel => exact ⟨j + 1, by omega, by go_num, HB5⟩
                  case measure => simp [intOf]; omega
            · go_wp2_with (first | (go_at_call 6; (with_reducible refine (of_no _ hno _).mono ?_); rintro e w1 ⟨rfl, bel1⟩; have e1 := (bel1.cell (p := ⟨b, off + j, none⟩) (Nat.lt_of_lt_of_le hbl hsz)).trans hcx; have e2 : (w1.alloc (.cells #[.int .i64 0, .int .i64 0, .int .i64 0, .int .i64 0, .int .i64 0] 24)).cell? ⟨b, off + j, none⟩ = some (.int .i64 n) := (((Below.refl _ _).alloc (Nat.le_refl _) _).cell (p := ⟨b, off + j, none⟩) (by have := bel1.size; show b < w1.heap.size; omega)).trans e1) | (go_at_call 7; (with_reducible refine (rof_no _ hno _).mono ?_); rintro e w2 ⟨rfl, bel2⟩; have f0 : w2.cell? ⟨w1.heap.size, 0, none⟩ = some (.int .i64 0) := (bel2.cell (p := ⟨w1.heap.size, 0, none⟩) (by simp)).trans (by rw [World.cell?_alloc_mark]; simp); have g0 : (w2.alloc (.cells #[.int .i64 0, .int .i64 0, .int .i64 0, .int .i64 0, .int .i64 0] 24)).cell? ⟨w1.heap.size, 0, none⟩ = some (.int .i64 0) := (((Below.refl _ _).alloc (Nat.le_refl _) _).cell (p := ⟨w1.heap.size, 0, none⟩) (by have := bel2.size; simp at this; show w1.heap.size < w2.heap.size; omega)).trans f0; have f1 : w2.cell? ⟨w1.heap.size, 1, none⟩ = some (.int .i64 0) := (bel2.cell (p := ⟨w1.heap.size, 1, none⟩) (by simp)).trans (by rw [World.cell?_alloc_mark]; simp); have g1 : (w2.alloc (.cells #[.int .i64 0, .int .i64 0, .int .i64 0, .int .i64 0, .int .i64 0] 24)).cell? ⟨w1.heap.size, 1, none⟩ = some (.int .i64 0) := (((Below.refl _ _).alloc (Nat.le_refl _) _).cell (p := ⟨w1.heap.size, 1, none⟩) (by have := bel2.size; simp at this; show w1.heap.size < w2.heap.size; omega)).trans f1; have f2 : w2.cell? ⟨w1.heap.size, 2, none⟩ = some (.int .i64 0) := (bel2.cell (p := ⟨w1.heap.size, 2, none⟩) (by simp)).trans (by rw [World.cell?_alloc_mark]; simp); have g2 : (w2.alloc (.cells #[.int .i64 0, .int .i64 0, .int .i64 0, .int .i64 0, .int .i64 0] 24)).cell? ⟨w1.heap.size, 2, none⟩ = some (.int .i64 0) := (((Below.refl _ _).alloc (Nat.le_refl _) _).cell (p := ⟨w1.heap.size, 2, none⟩) (by have := bel2.size; simp at this; show w1.heap.size < w2.heap.size; omega)).trans f2; have f3 : w2.cell? ⟨w1.heap.size, 3, none⟩ = some (.int .i64 0) := (bel2.cell (p := ⟨w1.heap.size, 3, none⟩) (by simp)).trans (by rw [World.cell?_alloc_mark]; simp); have g3 : (w2.alloc (.cells #[.int .i64 0, .int .i64 0, .int .i64 0, .int .i64 0, .int .i64 0] 24)).cell? ⟨w1.heap.size, 3, none⟩ = some (.int .i64 0) := (((Below.refl _ _).alloc (Nat.le_refl _) _).cell (p := ⟨w1.heap.size, 3, none⟩) (by have := bel2.size; simp at this; show w1.heap.size < w2.heap.size; omega)).trans f3; have f4 : w2.cell? ⟨w1.heap.size, 4, none⟩ = some (.int .i64 0) := (bel2.cell (p := ⟨w1.heap.size, 4, none⟩) (by simp)).trans (by rw [World.cell?_alloc_mark]; simp); have g4 : (w2.alloc (.cells #[.int .i64 0, .int .i64 0, .int .i64 0, .int .i64 0, .int .i64 0] 24)).cell? ⟨w1.heap.size, 4, none⟩ = some (.int .i64 0) := (((Below.refl _ _).alloc (Nat.le_refl _) _).cell (p := ⟨w1.heap.size, 4, none⟩) (by have := bel2.size; simp at this; show w1.heap.size < w2.heap.size; omega)).trans f4) | (go_at_call 8; (with_reducible refine (num5_any _ _).mono ?_); rintro e w' ⟨rfl, rfl⟩))
              have HB4 : Hk (Below wo.heap.size wo (w2.alloc (.cells #[.int .i64 0, .int .i64 0, .int .i64 0, .int .i64 0, .int .i64 0] 24))) := ⟨by have s1 := bel1.size; have s2 := bel2.size; simp at s2; exact (((HB3.out.trans (bel1.mono hsz)).alloc (by omega) _).trans (bel2.mono (by simp; omega))).alloc (by omega) _⟩
              go_loopw [10] (fun i wr => ∃ t : Int, 0 ≤ t ∧ t ≤ 300 ∧ i = .int .i64 t ∧ Hk (Below wo.heap.size wo wr)) (fun i _ => 300 - (intOf i).toNat)
              case atStart => exact ⟨0, by omega, by omega, rfl, HB4⟩
              case round =>
                obtain ⟨t, ht0, ht3, rfl, HB5⟩ := hrel
                have HLK : Hk (LK wr) := ⟨(HW.out.below HB0.out (Nat.le_refl _)).below HB5.out (Nat.le_refl _)⟩
                have hcx5 := (HB5.out.cell (p := ⟨b, off + j, none⟩) hbl).trans hc0
                by_cases h256 : t < 256
                · have hb : t % 256 = t := by omega
                  have hq8 : t.tdiv 8 = t / 8 := Int.tdiv_eq_ediv_of_nonneg ht0
                  go_wp2_with (first | (go_at_call 9; (with_reducible refine (cost_no _ _ (by omega) _).mono ?_); rintro e w' ⟨rfl, rfl⟩) | (go_at_call 10; (with_reducible refine (rclass_no _ (by omega) _).mono ?_); rintro e w' ⟨rfl, rfl⟩) | (go_at_call 8; (with_reducible refine (num5_any _ _).mono ?_); rintro e w' ⟨rfl, rfl⟩))
                  go_roundw
                  case rel => refine ⟨_, ?_, ?_, rfl, HB5⟩ <;> omega
                  case measure => (simp [intOf]; omega)
                · go_wp2
                  go_roundw
                  case rel => exact ⟨j + 1, by omega, by go_num, HB5⟩
                  case measure => simp [intOf]; omega
          · obtain rfl : j = 8 + k := by omega
            go_wp2_with (first | (go_at_call 12; (with_reducible refine (wakes5_any _ HLK.out).mono ?_); rintro e w' ⟨rfl, rfl⟩))
            go_ret
            exact ⟨rfl, HB0.out.trans (HB3.out.mono HB0.out.size)⟩

theorem kindTables_own : ownKnob Tryd.prog.godebug = none := by kernel_rfl
theorem kindTables_laidOut : laidOutB Tryd.prog = true := by kernel_rfl
theorem kindTables_door (os : Os) (args : Array Value) : laidMetH Tryd.prog [("throng/kind.kinds", Rows.laid_throng_kind_kinds), ("throng/kind.costs", Rows.laid_throng_kind_costs)] ((World.doorLaid Tryd.prog 400 os).forCall (fun _ _ => 0) ⟨#[], args, []⟩).memory :=
  laidMetH_of_parts3 (fuel := 8) (laidMet_of_run' 8 (by kernel_rfl) (by kernel_rfl)) (by kernel_rfl) (by kernel_rfl)
set_option maxRecDepth 100000 in
theorem kindTables_lifted (os : Os) (started : os.Started) (H : Type) (enc : TypeId × Value → H) :
    ReturnsInHanded {} Tryd.checked os 3 .any (fun w args => (Rows.kindTablesSpec.pre enc Tryd.prog Tryd.f3 [] false w args ∧ laidMetH Tryd.prog [("throng/kind.kinds", Rows.laid_throng_kind_kinds), ("throng/kind.costs", Rows.laid_throng_kind_costs)] w) ∧ sizedMet enc Tryd.prog Tryd.f3 (OpenSpec.ofChange Rows.kindTablesSpec) false w args)
      (Rows.kindTablesSpec.post enc Tryd.prog Tryd.f3 false true false false) := by
  refine returnsInHanded_of_change_and (C := Tryd.checked) (X := fun w _ => laidMetH Tryd.prog [("throng/kind.kinds", Rows.laid_throng_kind_kinds), ("throng/kind.costs", Rows.laid_throng_kind_costs)] w) (fun _ _ _ hh h => h.of_heap hh) kindTables_own started (by kernel_rfl) Tryd.func3
    (ChangeSpec.witness_shaped (enc := enc) (C := Tryd.checked) (os := os) (X := fun w _ => laidMetH Tryd.prog [("throng/kind.kinds", Rows.laid_throng_kind_kinds), ("throng/kind.costs", Rows.laid_throng_kind_costs)] w) false (World.doorLaid Tryd.prog 400 os) #[.slice none 0 0] 8 rfl (World.shaped_of_RefB (by kernel_rfl) (by kernel_rfl)) (by kernel_rfl) (by kernel_rfl) (by kernel_rfl) (kindTables_door os _)) ?_
  intro W base args ds gs before hval0 hW _ _ hL _
  have hval : ∀ (j : Nat) t v, Tryd.f3.params[j]? = some t → args[j]? = some v → Value.okWide Tryd.prog W .any base t v := hval0
  have hW' := hW
  obtain ⟨p, q, hA0, hV, rfl, hfz, hnd⟩ := hW
  have hA : DataW.TrodAll enc Tryd.prog W 0 (fun _ => true) true Tryd.f3.params.toList args.toList ds p := hA0
  rw [Tryd.params3] at hA hval
  obtain ⟨v0, vs0, d0, ds0, p0, q0, hargs, rfl, rfl, h0, r0⟩ := trodAll_cons hA
  obtain ⟨rfl, rfl, rfl⟩ := trodAll_nil r0
  obtain rfl : args = #[v0] := by cases args; simp_all
  obtain ⟨rfl, rfl⟩ := trodVars_none hV
  obtain ⟨a0, len0, cap0, rfl⟩ := okWide_slice Tryd.underlying22 (hval 0 22 v0 rfl rfl)
  have k0 := h0
  have lt0 : ∀ x ∈ p0, x.block < W.heap.size := by obtain ⟨m, hm⟩ := k0; exact DataW.trod_lt m _ _ _ hm
  have rows : RowsN W a0 len0 cap0 := by obtain ⟨fuel, hf⟩ := h0; exact rows_n hf
  clear hA0 hval0
  refine (kindTables_walk a0 len0 cap0 W (of_laid hL) rows).mono fun e W' ⟨he, bel⟩ => ?_
  subst he
  exact ⟨_, rfl, _, _, _, [], _, [], hW', trodAll_mk1 (shut_bool Tryd.underlying4 _), (trodAll_cons_mk (Below.trod kindTables_laidOut (by kernel_rfl) (of_decide_eq_true (by kernel_rfl)) k0 bel lt0) trodAll_mk0), rfl, bel.frame _, fun h => by cases h⟩
theorem kindTables_over : Rows.KindTablesSaid :=
  OpenClaim.holds_of_wide 3 Tryd.f3 rfl rfl rfl rfl rfl rfl rfl ⟨rfl, rfl, rfl, rfl, rfl⟩ rfl rfl rfl rfl rfl (by kernel_rfl) Tryd.func3 (by kernel_rfl)
    (of_decide_eq_true (by kernel_rfl)) (by unfold Func.isWrapper; first | (rw [if_pos (by decide +kernel)]; kernel_rfl) | (rw [if_neg (by decide +kernel)]; exact ⟨rfl, rfl⟩))
    (fun os started H enc _ => kindTables_lifted os started H enc)
/-- The given card of KindTables. -/
theorem kindTables_card : Rows.KindTablesCardSaid :=
  Claim7.holds_tied_plain_at .later [] [.data, .data] true (true, "31a5f18d96a025dd999f70b6b3645216ec008eb3fa32bc1e244dd6607278d8ba") false
    kindTables_over (fun _ h => by cases h) (by kernel_rfl) (fun _ h => by cases h) kindTables_row_tie rfl ⟨rfl, rfl⟩ (by kernel_rfl) rfl
    (fun f fn hf hfn => by
      obtain rfl : f = 3 := Option.some.inj ((show Tryd.prog.funcNamed "throng/thronglaw5.KindTables" = some 3 by kernel_rfl).symm.trans hf) |>.symm
      obtain rfl : fn = Tryd.f3 := (Option.some.inj (Tryd.func3.symm.trans hfn)).symm
      exact ⟨by kernel_rfl, fun j t ht => by
        rw [Tryd.params3] at ht
        have hm : t ∈ [22] := by simpa using Array.mem_of_getElem? ht
        have hall : ([22].all fun u => !Tryd.prog.wantsStandIn u) = true := by kernel_rfl
        exact (show Tryd.prog.wantsStandIn t = false by simpa using List.all_eq_true.1 hall t hm)⟩)
    (by kernel_rfl)
end Go.Proofs.YtdammgpflfoppacDoor
