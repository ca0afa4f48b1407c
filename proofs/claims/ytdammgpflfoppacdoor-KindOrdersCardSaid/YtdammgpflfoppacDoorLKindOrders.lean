/- For every list, KindOrders answers true and leaves its argument as it was: roads cost least, on foot and by wheel nothing floats; only what hovers goes over water; only a carrier carries. No condition; the tables of package kind are tied to the program's text. -/
import Derived.Test.YtdammgpflfoppacDoorKnb
import Derived.Test.YtdammgpflfoppacDoorCards
import Derived.Test.YtdammgpflfoppacDoorTie
import Derived.SevenTiedAt
import Derived.ProofKit
import Derived.LaidMore
import Derived.OpenShut
import Derived.Stop.Joined
namespace Go.Proofs.YtdammgpflfoppacDoor
open Go.ChangeShapes Go.WideShapes Go.ChangeAt Go.RowKit
set_option linter.unusedVariables false
set_option maxRecDepth 100000 in
set_option maxHeartbeats 3200000 in
theorem kindOrders_walk (a : Option Addr) (len cap : Nat) (w : World) (hk : LK w) :
    Calls Tryd.prog 5 #[.slice a len cap] w fun e w' => e = .returned (.bool true) ∧ Below w.heap.size w w' := by
  have HW := Hk.mk hk
  clear hk
  go_enter Tryd.func5, Tryd.ntmps5
  go_wp2
  go_loopw [3] (fun i wr => ∃ k : Int, i = .int .i64 k ∧ 0 ≤ k ∧ k ≤ 3 ∧ Hk (Below w.heap.size w wr)) (fun i _ => 3 - (intOf i).toNat)
  case atStart => exact ⟨0, rfl, by omega, by omega, ⟨Below.refl _ _⟩⟩
  case round =>
    obtain ⟨k, rfl, hk0, hk3, HB⟩ := hrel
    have HLK := Hk.mk (HW.out.below HB.out (Nat.le_refl _))
    have HLKo := HLK
    by_cases hkk : k < 3
    · have hcases : k = 0 ∨ k = 1 ∨ k = 2 := by omega
      clear hk0 hk3 hkk
      rcases hcases with rfl | rfl | rfl
      · go_wp2_with (first | (go_at_call 9; (refine (cost_as 0 1 _ _ 1 _ HLK.out (by omega) (by omega) ⟨by omega⟩ ⟨by omega⟩ ⟨by decide⟩).mono ?_); rintro e w' ⟨rfl, rfl⟩) | (go_at_call 9; (refine (cost_as 0 4 _ _ 0 _ HLK.out (by omega) (by omega) ⟨by omega⟩ ⟨by omega⟩ ⟨by decide⟩).mono ?_); rintro e w' ⟨rfl, rfl⟩) | (go_at_call 8; (with_reducible refine (num5_any _ _).mono ?_); rintro e w' ⟨rfl, rfl⟩))
        obtain ⟨wo, hwo⟩ : ∃ wo : World, wo = wr := ⟨_, rfl⟩
        go_loopw [8] (fun i wr => ∃ j : Int, i = .int .i64 j ∧ 0 ≤ j ∧ j ≤ 6 ∧ Hk (wr = wo)) (fun i _ => 6 - (intOf i).toNat)
        case atStart => exact ⟨0, rfl, by omega, by omega, ⟨hwo.symm⟩⟩
        case round =>
          obtain ⟨j, rfl, hj0, hj6, HB2⟩ := hrel
          have HLK : Hk (LK wr) := ⟨by rw [HB2.out, hwo]; exact HLKo.out⟩
          by_cases hjj : j < 6
          · have hcases : j = 0 ∨ j = 1 ∨ j = 2 ∨ j = 3 ∨ j = 4 ∨ j = 5 := by omega
            clear hj0 hj6 hjj
            rcases hcases with rfl | rfl | rfl | rfl | rfl | rfl
            · go_wp2_with (first | (go_at_call 9; (refine (cost_as 0 0 _ _ 2 _ HLK.out (by omega) (by omega) ⟨by omega⟩ ⟨by omega⟩ ⟨by decide⟩).mono ?_); rintro e w' ⟨rfl, rfl⟩) | (go_at_call 8; (with_reducible refine (num5_any _ _).mono ?_); rintro e w' ⟨rfl, rfl⟩))
              go_roundw
              case rel => exact ⟨1, rfl, by omega, by omega, HB2⟩
              case measure => simp [intOf]
            · go_wp2_with (first | (go_at_call 9; (refine (cost_as 0 1 _ _ 1 _ HLK.out (by omega) (by omega) ⟨by omega⟩ ⟨by omega⟩ ⟨by decide⟩).mono ?_); rintro e w' ⟨rfl, rfl⟩) | (go_at_call 8; (with_reducible refine (num5_any _ _).mono ?_); rintro e w' ⟨rfl, rfl⟩))
              go_roundw
              case rel => exact ⟨2, rfl, by omega, by omega, HB2⟩
              case measure => simp [intOf]
            · go_wp2_with (first | (go_at_call 9; (refine (cost_as 0 2 _ _ 3 _ HLK.out (by omega) (by omega) ⟨by omega⟩ ⟨by omega⟩ ⟨by decide⟩).mono ?_); rintro e w' ⟨rfl, rfl⟩) | (go_at_call 8; (with_reducible refine (num5_any _ _).mono ?_); rintro e w' ⟨rfl, rfl⟩))
              go_roundw
              case rel => exact ⟨3, rfl, by omega, by omega, HB2⟩
              case measure => simp [intOf]
            · go_wp2_with (first | (go_at_call 9; (refine (cost_as 0 3 _ _ 5 _ HLK.out (by omega) (by omega) ⟨by omega⟩ ⟨by omega⟩ ⟨by decide⟩).mono ?_); rintro e w' ⟨rfl, rfl⟩) | (go_at_call 8; (with_reducible refine (num5_any _ _).mono ?_); rintro e w' ⟨rfl, rfl⟩))
              go_roundw
              case rel => exact ⟨4, rfl, by omega, by omega, HB2⟩
              case measure => simp [intOf]
            · go_wp2_with (first | (go_at_call 9; (refine (cost_as 0 4 _ _ 0 _ HLK.out (by omega) (by omega) ⟨by omega⟩ ⟨by omega⟩ ⟨by decide⟩).mono ?_); rintro e w' ⟨rfl, rfl⟩) | (go_at_call 8; (with_reducible refine (num5_any _ _).mono ?_); rintro e w' ⟨rfl, rfl⟩))
              go_roundw
              case rel => exact ⟨5, rfl, by omega, by omega, HB2⟩
              case measure => simp [intOf]
            · go_wp2_with (first | (go_at_call 9; (refine (cost_as 0 5 _ _ 0 _ HLK.out (by omega) (by omega) ⟨by omega⟩ ⟨by omega⟩ ⟨by decide⟩).mono ?_); rintro e w' ⟨rfl, rfl⟩) | (go_at_call 8; (with_reducible refine (num5_any _ _).mono ?_); rintro e w' ⟨rfl, rfl⟩))
              go_roundw
              case rel => exact ⟨6, rfl, by omega, by omega, HB2⟩
              case measure => simp [intOf]
          · obtain rfl : j = 6 := by omega
            go_wp2
            go_roundw
            case rel => exact ⟨1, rfl, by omega, by omega, ⟨by rw [HB2.out, hwo]; exact HB.out⟩⟩
            case measure => simp [intOf]
      · go_wp2_with (first | (go_at_call 9; (refine (cost_as 1 1 _ _ 1 _ HLK.out (by omega) (by omega) ⟨by omega⟩ ⟨by omega⟩ ⟨by decide⟩).mono ?_); rintro e w' ⟨rfl, rfl⟩) | (go_at_call 9; (refine (cost_as 1 4 _ _ 0 _ HLK.out (by omega) (by omega) ⟨by omega⟩ ⟨by omega⟩ ⟨by decide⟩).mono ?_); rintro e w' ⟨rfl, rfl⟩) | (go_at_call 8; (with_reducible refine (num5_any _ _).mono ?_); rintro e w' ⟨rfl, rfl⟩))
        obtain ⟨wo, hwo⟩ : ∃ wo : World, wo = wr := ⟨_, rfl⟩
        go_loopw [8] (fun i wr => ∃ j : Int, i = .int .i64 j ∧ 0 ≤ j ∧ j ≤ 6 ∧ Hk (wr = wo)) (fun i _ => 6 - (intOf i).toNat)
        case atStart => exact ⟨0, rfl, by omega, by omega, ⟨hwo.symm⟩⟩
        case round =>
          obtain ⟨j, rfl, hj0, hj6, HB2⟩ := hrel
          have HLK : Hk (LK wr) := ⟨by rw [HB2.out, hwo]; exact HLKo.out⟩
          by_cases hjj : j < 6
          · have hcases : j = 0 ∨ j = 1 ∨ j = 2 ∨ j = 3 ∨ j = 4 ∨ j = 5 := by omega
            clear hj0 hj6 hjj
            rcases hcases with rfl | rfl | rfl | rfl | rfl | rfl
            · go_wp2_with (first | (go_at_call 9; (refine (cost_as 1 0 _ _ 2 _ HLK.out (by omega) (by omega) ⟨by omega⟩ ⟨by omega⟩ ⟨by decide⟩).mono ?_); rintro e w' ⟨rfl, rfl⟩) | (go_at_call 8; (with_reducible refine (num5_any _ _).mono ?_); rintro e w' ⟨rfl, rfl⟩))
              go_roundw
              case rel => exact ⟨1, rfl, by omega, by omega, HB2⟩
              case measure => simp [intOf]
            · go_wp2_with (first | (go_at_call 9; (refine (cost_as 1 1 _ _ 1 _ HLK.out (by omega) (by omega) ⟨by omega⟩ ⟨by omega⟩ ⟨by decide⟩).mono ?_); rintro e w' ⟨rfl, rfl⟩) | (go_at_call 8; (with_reducible refine (num5_any _ _).mono ?_); rintro e w' ⟨rfl, rfl⟩))
              go_roundw
              case rel => exact ⟨2, rfl, by omega, by omega, HB2⟩
              case measure => simp [intOf]
            · go_wp2_with (first | (go_at_call 9; (refine (cost_as 1 2 _ _ 6 _ HLK.out (by omega) (by omega) ⟨by omega⟩ ⟨by omega⟩ ⟨by decide⟩).mono ?_); rintro e w' ⟨rfl, rfl⟩) | (go_at_call 8; (with_reducible refine (num5_any _ _).mono ?_); rintro e w' ⟨rfl, rfl⟩))
              go_roundw
              case rel => exact ⟨3, rfl, by omega, by omega, HB2⟩
              case measure => simp [intOf]
            · go_wp2_with (first | (go_at_call 9; (refine (cost_as 1 3 _ _ 0 _ HLK.out (by omega) (by omega) ⟨by omega⟩ ⟨by omega⟩ ⟨by decide⟩).mono ?_); rintro e w' ⟨rfl, rfl⟩) | (go_at_call 8; (with_reducible refine (num5_any _ _).mono ?_); rintro e w' ⟨rfl, rfl⟩))
              go_roundw
              case rel => exact ⟨4, rfl, by omega, by omega, HB2⟩
              case measure => simp [intOf]
            · go_wp2_with (first | (go_at_call 9; (refine (cost_as 1 4 _ _ 0 _ HLK.out (by omega) (by omega) ⟨by omega⟩ ⟨by omega⟩ ⟨by decide⟩).mono ?_); rintro e w' ⟨rfl, rfl⟩) | (go_at_call 8; (with_reducible refine (num5_any _ _).mono ?_); rintro e w' ⟨rfl, rfl⟩))
              go_roundw
              case rel => exact ⟨5, rfl, by omega, by omega, HB2⟩
              case measure => simp [intOf]
            · go_wp2_with (first | (go_at_call 9; (refine (cost_as 1 5 _ _ 0 _ HLK.out (by omega) (by omega) ⟨by omega⟩ ⟨by omega⟩ ⟨by decide⟩).mono ?_); rintro e w' ⟨rfl, rfl⟩) | (go_at_call 8; (with_reducible refine (num5_any _ _).mono ?_); rintro e w' ⟨rfl, rfl⟩))
              go_roundw
              case rel => exact ⟨6, rfl, by omega, by omega, HB2⟩
              case measure => simp [intOf]
          · obtain rfl : j = 6 := by omega
            go_wp2
            go_roundw
            case rel => exact ⟨2, rfl, by omega, by omega, ⟨by rw [HB2.out, hwo]; exact HB.out⟩⟩
            case measure => simp [intOf]
      · go_wp2_with (first | (go_at_call 9; (refine (cost_as 2 1 _ _ 1 _ HLK.out (by omega) (by omega) ⟨by omega⟩ ⟨by omega⟩ ⟨by decide⟩).mono ?_); rintro e w' ⟨rfl, rfl⟩) | (go_at_call 9; (refine (cost_as 2 4 _ _ 2 _ HLK.out (by omega) (by omega) ⟨by omega⟩ ⟨by omega⟩ ⟨by decide⟩).mono ?_); rintro e w' ⟨rfl, rfl⟩) | (go_at_call 8; (with_reducible refine (num5_any _ _).mono ?_); rintro e w' ⟨rfl, rfl⟩))
        obtain ⟨wo, hwo⟩ : ∃ wo : World, wo = wr := ⟨_, rfl⟩
        go_loopw [8] (fun i wr => ∃ j : Int, i = .int .i64 j ∧ 0 ≤ j ∧ j ≤ 6 ∧ Hk (wr = wo)) (fun i _ => 6 - (intOf i).toNat)
        case atStart => exact ⟨0, rfl, by omega, by omega, ⟨hwo.symm⟩⟩
        case round =>
          obtain ⟨j, rfl, hj0, hj6, HB2⟩ := hrel
          have HLK : Hk (LK wr) := ⟨by rw [HB2.out, hwo]; exact HLKo.out⟩
          by_cases hjj : j < 6
          · have hcases : j = 0 ∨ j = 1 ∨ j = 2 ∨ j = 3 ∨ j = 4 ∨ j = 5 := by omega
            clear hj0 hj6 hjj
            rcases hcases with rfl | rfl | rfl | rfl | rfl | rfl
            · go_wp2_with (first | (go_at_call 9; (refine (cost_as 2 0 _ _ 2 _ HLK.out (by omega) (by omega) ⟨by omega⟩ ⟨by omega⟩ ⟨by decide⟩).mono ?_); rintro e w' ⟨rfl, rfl⟩) | (go_at_call 8; (with_reducible refine (num5_any _ _).mono ?_); rintro e w' ⟨rfl, rfl⟩))
              go_roundw
              case rel => exact ⟨1, rfl, by omega, by omega, HB2⟩
              case measure => simp [intOf]
            · go_wp2_with (first | (go_at_call 9; (refine (cost_as 2 1 _ _ 1 _ HLK.out (by omega) (by omega) ⟨by omega⟩ ⟨by omega⟩ ⟨by decide⟩).mono ?_); rintro e w' ⟨rfl, rfl⟩) | (go_at_call 8; (with_reducible refine (num5_any _ _).mono ?_); rintro e w' ⟨rfl, rfl⟩))
              go_roundw
              case rel => exact ⟨2, rfl, by omega, by omega, HB2⟩
              case measure => simp [intOf]
            · go_wp2_with (first | (go_at_call 9; (refine (cost_as 2 2 _ _ 0 _ HLK.out (by omega) (by omega) ⟨by omega⟩ ⟨by omega⟩ ⟨by decide⟩).mono ?_); rintro e w' ⟨rfl, rfl⟩) | (go_at_call 8; (with_reducible refine (num5_any _ _).mono ?_); rintro e w' ⟨rfl, rfl⟩))
              go_roundw
              case rel => exact ⟨3, rfl, by omega, by omega, HB2⟩
              case measure => simp [intOf]
            · go_wp2_with (first | (go_at_call 9; (refine (cost_as 2 3 _ _ 3 _ HLK.out (by omega) (by omega) ⟨by omega⟩ ⟨by omega⟩ ⟨by decide⟩).mono ?_); rintro e w' ⟨rfl, rfl⟩) | (go_at_call 8; (with_reducible refine (num5_any _ _).mono ?_); rintro e w' ⟨rfl, rfl⟩))
              go_roundw
              case rel => exact ⟨4, rfl, by omega, by omega, HB2⟩
              case measure => simp [intOf]
            · go_wp2_with (first | (go_at_call 9; (refine (cost_as 2 4 _ _ 2 _ HLK.out (by omega) (by omega) ⟨by omega⟩ ⟨by omega⟩ ⟨by decide⟩).mono ?_); rintro e w' ⟨rfl, rfl⟩) | (go_at_call 8; (with_reducible refine (num5_any _ _).mono ?_); rintro e w' ⟨rfl, rfl⟩))
              go_roundw
              case rel => exact ⟨5, rfl, by omega, by omega, HB2⟩
              case measure => simp [intOf]
            · go_wp2_with (first | (go_at_call 9; (refine (cost_as 2 5 _ _ 0 _ HLK.out (by omega) (by omega) ⟨by omega⟩ ⟨by omega⟩ ⟨by decide⟩).mono ?_); rintro e w' ⟨rfl, rfl⟩) | (go_at_call 8; (with_reducible refine (num5_any _ _).mono ?_); rintro e w' ⟨rfl, rfl⟩))
              go_roundw
              case rel => exact ⟨6, rfl, by omega, by omega, HB2⟩
              case measure => simp [intOf]
          · obtain rfl : j = 6 := by omega
            go_wp2
            go_roundw
            case rel => exact ⟨3, rfl, by omega, by omega, ⟨by rw [HB2.out, hwo]; exact HB.out⟩⟩
            case measure => simp [intOf]
    · obtain rfl : k = 3 := by omega
      go_wp2
      go_loopw [11, 12] (fun c i wr => ∃ (c' j : Int), c = .int .i64 c' ∧ i = .int .i64 j ∧ 0 ≤ j ∧ j ≤ 4 ∧ Hk (c' = (if j = 4 then 1 else 0)) ∧ Hk (Below w.heap.size w wr)) (fun _ i _ => 4 - (intOf i).toNat)
      case atStart => exact ⟨0, 0, rfl, rfl, by omega, by omega, ⟨rfl⟩, HB⟩
      case round =>
        obtain ⟨c', j, rfl, rfl, hj0, hj4, HC, HB2⟩ := hrel
        have HLK := Hk.mk (HW.out.below HB2.out (Nat.le_refl _))
        by_cases hjj : j < 4
        · have hcases : j = 0 ∨ j = 1 ∨ j = 2 ∨ j = 3 := by omega
          clear hj0 hj4 hjj
          rcases hcases with rfl | rfl | rfl | rfl
          · obtain rfl : c' = 0 := HC.out
            go_wp2_with (first | (go_at_call 6; (with_reducible refine (of0 _ HLK.out).mono ?_); rintro e w' ⟨rfl, bel⟩) | (go_at_call 8; (with_reducible refine (num5_any _ _).mono ?_); rintro e w' ⟨rfl, rfl⟩))
            go_roundw
            case rel => exact ⟨0, 1, rfl, rfl, by omega, by omega, ⟨rfl⟩, ⟨(HB2.out.trans (bel.mono HB2.out.size)).alloc (Nat.le_trans HB2.out.size bel.size) _⟩⟩
            case measure => simp [intOf]
          · obtain rfl : c' = 0 := HC.out
            go_wp2_with (first | (go_at_call 6; (with_reducible refine (of1 _ HLK.out).mono ?_); rintro e w' ⟨rfl, bel⟩) | (go_at_call 8; (with_reducible refine (num5_any _ _).mono ?_); rintro e w' ⟨rfl, rfl⟩))
            go_roundw
            case rel => exact ⟨0, 2, rfl, rfl, by omega, by omega, ⟨rfl⟩, ⟨(HB2.out.trans (bel.mono HB2.out.size)).alloc (Nat.le_trans HB2.out.size bel.size) _⟩⟩
            case measure => simp [intOf]
          · obtain rfl : c' = 0 := HC.out
            go_wp2_with (first | (go_at_call 6; (with_reducible refine (of2 _ HLK.out).mono ?_); rintro e w' ⟨rfl, bel⟩) | (go_at_call 8; (with_reducible refine (num5_any _ _).mono ?_); rintro e w' ⟨rfl, rfl⟩))
            go_roundw
            case rel => exact ⟨0, 3, rfl, rfl, by omega, by omega, ⟨rfl⟩, ⟨(HB2.out.trans (bel.mono HB2.out.size)).alloc (Nat.le_trans HB2.out.size bel.size) _⟩⟩
            case measure => simp [intOf]
          · obtain rfl : c' = 0 := HC.out
            go_wp2_with (first | (go_at_call 6; (with_reducible refine (of3 _ HLK.out).mono ?_); rintro e w' ⟨rfl, bel⟩) | (go_at_call 8; (with_reducible refine (num5_any _ _).mono ?_); rintro e w' ⟨rfl, rfl⟩))
            go_roundw
            case rel => exact ⟨1, 4, rfl, rfl, by omega, by omega, ⟨rfl⟩, ⟨(HB2.out.trans (bel.mono HB2.out.size)).alloc (Nat.le_trans HB2.out.size bel.size) _⟩⟩
            case measure => simp [intOf]
        · obtain rfl : j = 4 := by omega
          obtain rfl : c' = 1 := HC.out
          go_wp2_with (first | (go_at_call 12; (with_reducible refine (wakes5_any _ HLK.out).mono ?_); rintro e w' ⟨rfl, rfl⟩))
          go_ret
          exact ⟨rfl, HB2.out⟩

theorem kindOrders_own : ownKnob Tryd.prog.godebug = none := by kernel_rfl
theorem kindOrders_laidOut : laidOutB Tryd.prog = true := by kernel_rfl
theorem kindOrders_door (os : Os) (args : Array Value) : laidMetH Tryd.prog [("throng/kind.kinds", Rows.laid_throng_kind_kinds), ("throng/kind.costs", Rows.laid_throng_kind_costs)] ((World.doorLaid Tryd.prog 400 os).forCall (fun _ _ => 0) ⟨#[], args, []⟩).memory :=
  laidMetH_of_parts3 (fuel := 8) (laidMet_of_run' 8 (by kernel_rfl) (by kernel_rfl)) (by kernel_rfl) (by kernel_rfl)
set_option maxRecDepth 100000 in
theorem kindOrders_lifted (os : Os) (started : os.Started) (H : Type) (enc : TypeId × Value → H) :
    ReturnsInHanded {} Tryd.checked os 5 .any (fun w args => (Rows.kindOrdersSpec.pre enc Tryd.prog Tryd.f5 [] false w args ∧ laidMetH Tryd.prog [("throng/kind.kinds", Rows.laid_throng_kind_kinds), ("throng/kind.costs", Rows.laid_throng_kind_costs)] w) ∧ sizedMet enc Tryd.prog Tryd.f5 (OpenSpec.ofChange Rows.kindOrdersSpec) false w args)
      (Rows.kindOrdersSpec.post enc Tryd.prog Tryd.f5 false true false false) := by
  refine returnsInHanded_of_change_and (C := Tryd.checked) (X := fun w _ => laidMetH Tryd.prog [("throng/kind.kinds", Rows.laid_throng_kind_kinds), ("throng/kind.costs", Rows.laid_throng_kind_costs)] w) (fun _ _ _ hh h => h.of_heap hh) kindOrders_own started (by kernel_rfl) Tryd.func5
    (ChangeSpec.witness_shaped (enc := enc) (C := Tryd.checked) (os := os) (X := fun w _ => laidMetH Tryd.prog [("throng/kind.kinds", Rows.laid_throng_kind_kinds), ("throng/kind.costs", Rows.laid_throng_kind_costs)] w) false (World.doorLaid Tryd.prog 400 os) #[.slice none 0 0] 8 rfl (World.shaped_of_RefB (by kernel_rfl) (by kernel_rfl)) (by kernel_rfl) (by kernel_rfl) (by kernel_rfl) (kindOrders_door os _)) ?_
  intro W base args ds gs before hval0 hW _ _ hL _
  have hval : ∀ (j : Nat) t v, Tryd.f5.params[j]? = some t → args[j]? = some v → Value.okWide Tryd.prog W .any base t v := hval0
  have hW' := hW
  obtain ⟨p, q, hA0, hV, rfl, hfz, hnd⟩ := hW
  have hA : DataW.TrodAll enc Tryd.prog W 0 (fun _ => true) true Tryd.f5.params.toList args.toList ds p := hA0
  rw [Tryd.params5] at hA hval
  obtain ⟨v0, vs0, d0, ds0, p0, q0, hargs, rfl, rfl, h0, r0⟩ := trodAll_cons hA
  obtain ⟨rfl, rfl, rfl⟩ := trodAll_nil r0
  obtain rfl : args = #[v0] := by cases args; simp_all
  obtain ⟨rfl, rfl⟩ := trodVars_none hV
  obtain ⟨a0, len0, cap0, rfl⟩ := okWide_slice Tryd.underlying22 (hval 0 22 v0 rfl rfl)
  have k0 := h0
  have lt0 : ∀ x ∈ p0, x.block < W.heap.size := by obtain ⟨m, hm⟩ := k0; exact DataW.trod_lt m _ _ _ hm
  have rows := trivial
  clear hA0 hval0
  refine (kindOrders_walk a0 len0 cap0 W (of_laid hL)).mono fun e W' ⟨he, bel⟩ => ?_
  subst he
  exact ⟨_, rfl, _, _, _, [], _, [], hW', trodAll_mk1 (shut_bool Tryd.underlying4 _), (trodAll_cons_mk (Below.trod kindOrders_laidOut (by kernel_rfl) (of_decide_eq_true (by kernel_rfl)) k0 bel lt0) trodAll_mk0), rfl, bel.frame _, fun h => by cases h⟩
theorem kindOrders_over : Rows.KindOrdersSaid :=
  OpenClaim.holds_of_wide 5 Tryd.f5 rfl rfl rfl rfl rfl rfl rfl ⟨rfl, rfl, rfl, rfl, rfl⟩ rfl rfl rfl rfl rfl (by kernel_rfl) Tryd.func5 (by kernel_rfl)
    (of_decide_eq_true (by kernel_rfl)) (by unfold Func.isWrapper; first | (rw [if_pos (by decide +kernel)]; kernel_rfl) | (rw [if_neg (by decide +kernel)]; exact ⟨rfl, rfl⟩))
    (fun os started H enc _ => kindOrders_lifted os started H enc)
/-- The given card of KindOrders. -/
theorem kindOrders_card : Rows.KindOrdersCardSaid :=
  Claim7.holds_tied_plain_at .later [] [.data, .data] true (true, "31a5f18d96a025dd999f70b6b3645216ec008eb3fa32bc1e244dd6607278d8ba") false
    kindOrders_over (fun _ h => by cases h) (by kernel_rfl) (fun _ h => by cases h) kindOrders_row_tie rfl ⟨rfl, rfl⟩ (by kernel_rfl) rfl
    (fun f fn hf hfn => by
      obtain rfl : f = 5 := Option.some.inj ((show Tryd.prog.funcNamed "throng/thronglaw5.KindOrders" = some 5 by kernel_rfl).symm.trans hf) |>.symm
      obtain rfl : fn = Tryd.f5 := (Option.some.inj (Tryd.func5.symm.trans hfn)).symm
      exact ⟨by kernel_rfl, fun j t ht => by
        rw [Tryd.params5] at ht
        have hm : t ∈ [22] := by simpa using Array.mem_of_getElem? ht
        have hall : ([22].all fun u => !Tryd.prog.wantsStandIn u) = true := by kernel_rfl
        exact (show Tryd.prog.wantsStandIn t = false by simpa using List.all_eq_true.1 hall t hm)⟩)
    (by kernel_rfl)
end Go.Proofs.YtdammgpflfoppacDoor
