/- For every list, KindFits answers true and leaves its argument as it was: each kind's disc fits the tiles of its size, each goes somewhere and not everywhere, no step is longer than its disc and half a tile. No condition; the tables of package kind are tied to the program's text. -/
import Derived.Test.YtdammgpflfoppacDoorKnb
import Derived.Test.YtdammgpflfoppacDoorCards
import Derived.Test.YtdammgpflfoppacDoorTie
import Derived.SevenTiedAt
import Derived.ProofKit
import Derived.LaidMore
import Derived.OpenShut
import Derived.Stop.Joined
namespace Go.Proofs.YtdammgpflfoppacDoor
open Go.ChangeShapes Go.WideShapes Go.ChangeAt Go.RowKit
set_option linter.unusedVariables false
set_option maxRecDepth 100000 in
set_option maxHeartbeats 3200000 in
theorem kindFits_walk (a : Option Addr) (len cap : Nat) (w : World) (hk : LK w) :
    Calls Tryd.prog 4 #[.slice a len cap] w fun e w' => e = .returned (.bool true) ∧ Below w.heap.size w w' := by
  have HW := Hk.mk hk
  clear hk
  go_enter Tryd.func4, Tryd.ntmps4
  go_wp2
  go_loopw [3] (fun i wr => ∃ k : Int, i = .int .i64 k ∧ 0 ≤ k ∧ k ≤ 4 ∧ Hk (Below w.heap.size w wr)) (fun i _ => 4 - (intOf i).toNat)
  case atStart => exact ⟨0, rfl, by omega, by omega, ⟨Below.refl _ _⟩⟩
  case round =>
    obtain ⟨k, rfl, hk0, hk3, HB⟩ := hrel
    have HLK := Hk.mk (HW.out.below HB.out (Nat.le_refl _))
    by_cases hkk : k < 4
    · have hcases : k = 0 ∨ k = 1 ∨ k = 2 ∨ k = 3 := by omega
      clear hk0 hk3 hkk
      rcases hcases with rfl | rfl | rfl | rfl
      · go_wp2_with (first | (go_at_call 6; (with_reducible refine (of0 _ HLK.out).mono ?_); rintro e w' ⟨rfl, bel⟩) | (go_at_call 8; (with_reducible refine (num5_any _ _).mono ?_); rintro e w' ⟨rfl, rfl⟩))
        go_loopw [6, 7, 8] (fun s n i wr => ((s = .int .i64 0 ∧ n = .int .i64 0 ∧ i = .int .i64 0) ∨ (s = .int .i64 1 ∧ n = .int .i64 0 ∧ i = .int .i64 1) ∨ (s = .int .i64 2 ∧ n = .int .i64 0 ∧ i = .int .i64 2) ∨ (s = .int .i64 3 ∧ n = .int .i64 0 ∧ i = .int .i64 3) ∨ (s = .int .i64 4 ∧ n = .int .i64 0 ∧ i = .int .i64 4) ∨ (s = .int .i64 4 ∧ n = .int .i64 1 ∧ i = .int .i64 5) ∨ (s = .int .i64 4 ∧ n = .int .i64 2 ∧ i = .int .i64 6)) ∧ wr = w'.alloc (Obj.cells #[.int .i64 24576, .int .i64 16384, .int .i64 0, .int .i64 0, .int .i64 0] 24)) (fun _ _ i _ => 6 - (intOf i).toNat)
        case atStart => exact ⟨.inl ⟨rfl, rfl, rfl⟩, rfl⟩
        case round =>
          obtain ⟨hd, rfl⟩ := hrel
          have HB2 : Hk (Below w.heap.size w (w'.alloc (Obj.cells #[.int .i64 24576, .int .i64 16384, .int .i64 0, .int .i64 0, .int .i64 0] 24))) := ⟨(HB.out.trans (bel.mono HB.out.size)).alloc (Nat.le_trans HB.out.size bel.size) _⟩
          have HLK := Hk.mk (HW.out.below HB2.out (Nat.le_refl _))
          rcases hd with ⟨rfl, rfl, rfl⟩ | ⟨rfl, rfl, rfl⟩ | ⟨rfl, rfl, rfl⟩ | ⟨rfl, rfl, rfl⟩ | ⟨rfl, rfl, rfl⟩ | ⟨rfl, rfl, rfl⟩ | ⟨rfl, rfl, rfl⟩
          · go_wp2_with (first | (go_at_call 9; (refine (cost_as 0 0 _ _ 2 _ HLK.out (by omega) (by omega) ⟨by omega⟩ ⟨by omega⟩ ⟨by decide⟩).mono ?_); rintro e w' ⟨rfl, rfl⟩) | (go_at_call 8; (with_reducible refine (num5_any _ _).mono ?_); rintro e w' ⟨rfl, rfl⟩))
            go_roundw
            case rel => exact ⟨.inr (.inl ⟨rfl, rfl, rfl⟩), by first | trivial | rfl⟩
            case measure => simp [intOf]
          · go_wp2_with (first | (go_at_call 9; (refine (cost_as 0 1 _ _ 1 _ HLK.out (by omega) (by omega) ⟨by omega⟩ ⟨by omega⟩ ⟨by decide⟩).mono ?_); rintro e w' ⟨rfl, rfl⟩) | (go_at_call 8; (with_reducible refine (num5_any _ _).mono ?_); rintro e w' ⟨rfl, rfl⟩))
            go_roundw
            case rel => exact ⟨.inr (.inr (.inl ⟨rfl, rfl, rfl⟩)), by first | trivial | rfl⟩
            case measure => simp [intOf]
          · go_wp2_with (first | (go_at_call 9; (refine (cost_as 0 2 _ _ 3 _ HLK.out (by omega) (by omega) ⟨by omega⟩ ⟨by omega⟩ ⟨by decide⟩).mono ?_); rintro e w' ⟨rfl, rfl⟩) | (go_at_call 8; (with_reducible refine (num5_any _ _).mono ?_); rintro e w' ⟨rfl, rfl⟩))
            go_roundw
            case rel => exact ⟨.inr (.inr (.inr (.inl ⟨rfl, rfl, rfl⟩))), by first | trivial | rfl⟩
            case measure => simp [intOf]
          · go_wp2_with (first | (go_at_call 9; (refine (cost_as 0 3 _ _ 5 _ HLK.out (by omega) (by omega) ⟨by omega⟩ ⟨by omega⟩ ⟨by decide⟩).mono ?_); rintro e w' ⟨rfl, rfl⟩) | (go_at_call 8; (with_reducible refine (num5_any _ _).mono ?_); rintro e w' ⟨rfl, rfl⟩))
            go_roundw
            case rel => exact ⟨.inr (.inr (.inr (.inr (.inl ⟨rfl, rfl, rfl⟩)))), by first | trivial | rfl⟩
            case measure => simp [intOf]
          · go_wp2_with (first | (go_at_call 9; (refine (cost_as 0 4 _ _ 0 _ HLK.out (by omega) (by omega) ⟨by omega⟩ ⟨by omega⟩ ⟨by decide⟩).mono ?_); rintro e w' ⟨rfl, rfl⟩) | (go_at_call 8; (with_reducible refine (num5_any _ _).mono ?_); rintro e w' ⟨rfl, rfl⟩))
            go_roundw
            case rel => exact ⟨.inr (.inr (.inr (.inr (.inr (.inl ⟨rfl, rfl, rfl⟩))))), by first | trivial | rfl⟩
            case measure => simp [intOf]
          · go_wp2_with (first | (go_at_call 9; (refine (cost_as 0 5 _ _ 0 _ HLK.out (by omega) (by omega) ⟨by omega⟩ ⟨by omega⟩ ⟨by decide⟩).mono ?_); rintro e w' ⟨rfl, rfl⟩) | (go_at_call 8; (with_reducible refine (num5_any _ _).mono ?_); rintro e w' ⟨rfl, rfl⟩))
            go_roundw
            case rel => exact ⟨.inr (.inr (.inr (.inr (.inr (.inr (⟨rfl, rfl, rfl⟩)))))), by first | trivial | rfl⟩
            case measure => simp [intOf]
          · go_wp2
            go_roundw
            case rel => exact ⟨1, rfl, by omega, by omega, HB2⟩
            case measure => simp [intOf]
      · go_wp2_with (first | (go_at_call 6; (with_reducible refine (of1 _ HLK.out).mono ?_); rintro e w' ⟨rfl, bel⟩) | (go_at_call 8; (with_reducible refine (num5_any _ _).mono ?_); rintro e w' ⟨rfl, rfl⟩))
        go_loopw [6, 7, 8] (fun s n i wr => ((s = .int .i64 0 ∧ n = .int .i64 0 ∧ i = .int .i64 0) ∨ (s = .int .i64 1 ∧ n = .int .i64 0 ∧ i = .int .i64 1) ∨ (s = .int .i64 2 ∧ n = .int .i64 0 ∧ i = .int .i64 2) ∨ (s = .int .i64 3 ∧ n = .int .i64 0 ∧ i = .int .i64 3) ∨ (s = .int .i64 3 ∧ n = .int .i64 1 ∧ i = .int .i64 4) ∨ (s = .int .i64 3 ∧ n = .int .i64 2 ∧ i = .int .i64 5) ∨ (s = .int .i64 3 ∧ n = .int .i64 3 ∧ i = .int .i64 6)) ∧ wr = w'.alloc (Obj.cells #[.int .i64 32768, .int .i64 24576, .int .i64 1, .int .i64 0, .int .i64 0] 24)) (fun _ _ i _ => 6 - (intOf i).toNat)
        case atStart => exact ⟨.inl ⟨rfl, rfl, rfl⟩, rfl⟩
        case round =>
          obtain ⟨hd, rfl⟩ := hrel
          have HB2 : Hk (Below w.heap.size w (w'.alloc (Obj.cells #[.int .i64 32768, .int .i64 24576, .int .i64 1, .int .i64 0, .int .i64 0] 24))) := ⟨(HB.out.trans (bel.mono HB.out.size)).alloc (Nat.le_trans HB.out.size bel.size) _⟩
          have HLK := Hk.mk (HW.out.below HB2.out (Nat.le_refl _))
          rcases hd with ⟨rfl, rfl, rfl⟩ | ⟨rfl, rfl, rfl⟩ | ⟨rfl, rfl, rfl⟩ | ⟨rfl, rfl, rfl⟩ | ⟨rfl, rfl, rfl⟩ | ⟨rfl, rfl, rfl⟩ | ⟨rfl, rfl, rfl⟩
          · go_wp2_with (first | (go_at_call 9; (refine (cost_as 1 0 _ _ 2 _ HLK.out (by omega) (by omega) ⟨by omega⟩ ⟨by omega⟩ ⟨by decide⟩).mono ?_); rintro e w' ⟨rfl, rfl⟩) | (go_at_call 8; (with_reducible refine (num5_any _ _).mono ?_); rintro e w' ⟨rfl, rfl⟩))
            go_roundw
            case rel => exact ⟨.inr (.inl ⟨rfl, rfl, rfl⟩), by first | trivial | rfl⟩
            case measure => simp [intOf]
          · go_wp2_with (first | (go_at_call 9; (refine (cost_as 1 1 _ _ 1 _ HLK.out (by omega) (by omega) ⟨by omega⟩ ⟨by omega⟩ ⟨by decide⟩).mono ?_); rintro e w' ⟨rfl, rfl⟩) | (go_at_call 8; (with_reducible refine (num5_any _ _).mono ?_); rintro e w' ⟨rfl, rfl⟩))
            go_roundw
            case rel => exact ⟨.inr (.inr (.inl ⟨rfl, rfl, rfl⟩)), by first | trivial | rfl⟩
            case measure => simp [intOf]
          · go_wp2_with (first | (go_at_call 9; (refine (cost_as 1 2 _ _ 6 _ HLK.out (by omega) (by omega) ⟨by omega⟩ ⟨by omega⟩ ⟨by decide⟩).mono ?_); rintro e w' ⟨rfl, rfl⟩) | (go_at_call 8; (with_reducible refine (num5_any _ _).mono ?_); rintro e w' ⟨rfl, rfl⟩))
            go_roundw
            case rel => exact ⟨.inr (.inr (.inr (.inl ⟨rfl, rfl, rfl⟩))), by first | trivial | rfl⟩
            case measure => simp [intOf]
          · go_wp2_with (first | (go_at_call 9; (refine (cost_as 1 3 _ _ 0 _ HLK.out (by omega) (by omega) ⟨by omega⟩ ⟨by omega⟩ ⟨by decide⟩).mono ?_); rintro e w' ⟨rfl, rfl⟩) | (go_at_call 8; (with_reducible refine (num5_any _ _).mono ?_); rintro e w' ⟨rfl, rfl⟩))
            go_roundw
            case rel => exact ⟨.inr (.inr (.inr (.inr (.inl ⟨rfl, rfl, rfl⟩)))), by first | trivial | rfl⟩
            case measure => simp [intOf]
          · go_wp2_with (first | (go_at_call 9; (refine (cost_as 1 4 _ _ 0 _ HLK.out (by omega) (by omega) ⟨by omega⟩ ⟨by omega⟩ ⟨by decide⟩).mono ?_); rintro e w' ⟨rfl, rfl⟩) | (go_at_call 8; (with_reducible refine (num5_any _ _).mono ?_); rintro e w' ⟨rfl, rfl⟩))
            go_roundw
            case rel => exact ⟨.inr (.inr (.inr (.inr (.inr (.inl ⟨rfl, rfl, rfl⟩))))), by first | trivial | rfl⟩
            case measure => simp [intOf]
          · go_wp2_with (first | (go_at_call 9; (refine (cost_as 1 5 _ _ 0 _ HLK.out (by omega) (by omega) ⟨by omega⟩ ⟨by omega⟩ ⟨by decide⟩).mono ?_); rintro e w' ⟨rfl, rfl⟩) | (go_at_call 8; (with_reducible refine (num5_any _ _).mono ?_); rintro e w' ⟨rfl, rfl⟩))
            go_roundw
            case rel => exact ⟨.inr (.inr (.inr (.inr (.inr (.inr (⟨rfl, rfl, rfl⟩)))))), by first | trivial | rfl⟩
            case measure => simp [intOf]
          · go_wp2
            go_roundw
            case rel => exact ⟨2, rfl, by omega, by omega, HB2⟩
            case measure => simp [intOf]
      · go_wp2_with (first | (go_at_call 6; (with_reducible refine (of2 _ HLK.out).mono ?_); rintro e w' ⟨rfl, bel⟩) | (go_at_call 8; (with_reducible refine (num5_any _ _).mono ?_); rintro e w' ⟨rfl, rfl⟩))
        go_loopw [6, 7, 8] (fun s n i wr => ((s = .int .i64 0 ∧ n = .int .i64 0 ∧ i = .int .i64 0) ∨ (s = .int .i64 1 ∧ n = .int .i64 0 ∧ i = .int .i64 1) ∨ (s = .int .i64 2 ∧ n = .int .i64 0 ∧ i = .int .i64 2) ∨ (s = .int .i64 3 ∧ n = .int .i64 0 ∧ i = .int .i64 3) ∨ (s = .int .i64 4 ∧ n = .int .i64 0 ∧ i = .int .i64 4) ∨ (s = .int .i64 4 ∧ n = .int .i64 1 ∧ i = .int .i64 5) ∨ (s = .int .i64 4 ∧ n = .int .i64 2 ∧ i = .int .i64 6)) ∧ wr = w'.alloc (Obj.cells #[.int .i64 81920, .int .i64 8192, .int .i64 0, .int .i64 1, .int .i64 0] 24)) (fun _ _ i _ => 6 - (intOf i).toNat)
        case atStart => exact ⟨.inl ⟨rfl, rfl, rfl⟩, rfl⟩
        case round =>
          obtain ⟨hd, rfl⟩ := hrel
          have HB2 : Hk (Below w.heap.size w (w'.alloc (Obj.cells #[.int .i64 81920, .int .i64 8192, .int .i64 0, .int .i64 1, .int .i64 0] 24))) := ⟨(HB.out.trans (bel.mono HB.out.size)).alloc (Nat.le_trans HB.out.size bel.size) _⟩
          have HLK := Hk.mk (HW.out.below HB2.out (Nat.le_refl _))
          rcases hd with ⟨rfl, rfl, rfl⟩ | ⟨rfl, rfl, rfl⟩ | ⟨rfl, rfl, rfl⟩ | ⟨rfl, rfl, rfl⟩ | ⟨rfl, rfl, rfl⟩ | ⟨rfl, rfl, rfl⟩ | ⟨rfl, rfl, rfl⟩
          · go_wp2_with (first | (go_at_call 9; (refine (cost_as 0 0 _ _ 2 _ HLK.out (by omega) (by omega) ⟨by omega⟩ ⟨by omega⟩ ⟨by decide⟩).mono ?_); rintro e w' ⟨rfl, rfl⟩) | (go_at_call 8; (with_reducible refine (num5_any _ _).mono ?_); rintro e w' ⟨rfl, rfl⟩))
            go_roundw
            case rel => exact ⟨.inr (.inl ⟨rfl, rfl, rfl⟩), by first | trivial | rfl⟩
            case measure => simp [intOf]
          · go_wp2_with (first | (go_at_call 9; (refine (cost_as 0 1 _ _ 1 _ HLK.out (by omega) (by omega) ⟨by omega⟩ ⟨by omega⟩ ⟨by decide⟩).mono ?_); rintro e w' ⟨rfl, rfl⟩) | (go_at_call 8; (with_reducible refine (num5_any _ _).mono ?_); rintro e w' ⟨rfl, rfl⟩))
            go_roundw
            case rel => exact ⟨.inr (.inr (.inl ⟨rfl, rfl, rfl⟩)), by first | trivial | rfl⟩
            case measure => simp [intOf]
          · go_wp2_with (first | (go_at_call 9; (refine (cost_as 0 2 _ _ 3 _ HLK.out (by omega) (by omega) ⟨by omega⟩ ⟨by omega⟩ ⟨by decide⟩).mono ?_); rintro e w' ⟨rfl, rfl⟩) | (go_at_call 8; (with_reducible refine (num5_any _ _).mono ?_); rintro e w' ⟨rfl, rfl⟩))
            go_roundw
            case rel => exact ⟨.inr (.inr (.inr (.inl ⟨rfl, rfl, rfl⟩))), by first | trivial | rfl⟩
            case measure => simp [intOf]
          · go_wp2_with (first | (go_at_call 9; (refine (cost_as 0 3 _ _ 5 _ HLK.out (by omega) (by omega) ⟨by omega⟩ ⟨by omega⟩ ⟨by decide⟩).mono ?_); rintro e w' ⟨rfl, rfl⟩) | (go_at_call 8; (with_reducible refine (num5_any _ _).mono ?_); rintro e w' ⟨rfl, rfl⟩))
            go_roundw
            case rel => exact ⟨.inr (.inr (.inr (.inr (.inl ⟨rfl, rfl, rfl⟩)))), by first | trivial | rfl⟩
            case measure => simp [intOf]
          · go_wp2_with (first | (go_at_call 9; (refine (cost_as 0 4 _ _ 0 _ HLK.out (by omega) (by omega) ⟨by omega⟩ ⟨by omega⟩ ⟨by decide⟩).mono ?_); rintro e w' ⟨rfl, rfl⟩) | (go_at_call 8; (with_reducible refine (num5_any _ _).mono ?_); rintro e w' ⟨rfl, rfl⟩))
            go_roundw
            case rel => exact ⟨.inr (.inr (.inr (.inr (.inr (.inl ⟨rfl, rfl, rfl⟩))))), by first | trivial | rfl⟩
            case measure => simp [intOf]
          · go_wp2_with (first | (go_at_call 9; (refine (cost_as 0 5 _ _ 0 _ HLK.out (by omega) (by omega) ⟨by omega⟩ ⟨by omega⟩ ⟨by decide⟩).mono ?_); rintro e w' ⟨rfl, rfl⟩) | (go_at_call 8; (with_reducible refine (num5_any _ _).mono ?_); rintro e w' ⟨rfl, rfl⟩))
            go_roundw
            case rel => exact ⟨.inr (.inr (.inr (.inr (.inr (.inr (⟨rfl, rfl, rfl⟩)))))), by first | trivial | rfl⟩
            case measure => simp [intOf]
          · go_wp2
            go_roundw
            case rel => exact ⟨3, rfl, by omega, by omega, HB2⟩
            case measure => simp [intOf]
      · go_wp2_with (first | (go_at_call 6; (with_reducible refine (of3 _ HLK.out).mono ?_); rintro e w' ⟨rfl, bel⟩) | (go_at_call 8; (with_reducible refine (num5_any _ _).mono ?_); rintro e w' ⟨rfl, rfl⟩))
        go_loopw [6, 7, 8] (fun s n i wr => ((s = .int .i64 0 ∧ n = .int .i64 0 ∧ i = .int .i64 0) ∨ (s = .int .i64 1 ∧ n = .int .i64 0 ∧ i = .int .i64 1) ∨ (s = .int .i64 2 ∧ n = .int .i64 0 ∧ i = .int .i64 2) ∨ (s = .int .i64 2 ∧ n = .int .i64 1 ∧ i = .int .i64 3) ∨ (s = .int .i64 3 ∧ n = .int .i64 1 ∧ i = .int .i64 4) ∨ (s = .int .i64 4 ∧ n = .int .i64 1 ∧ i = .int .i64 5) ∨ (s = .int .i64 4 ∧ n = .int .i64 2 ∧ i = .int .i64 6)) ∧ wr = w'.alloc (Obj.cells #[.int .i64 32768, .int .i64 16384, .int .i64 2, .int .i64 0, .int .i64 4] 24)) (fun _ _ i _ => 6 - (intOf i).toNat)
        case atStart => exact ⟨.inl ⟨rfl, rfl, rfl⟩, rfl⟩
        case round =>
          obtain ⟨hd, rfl⟩ := hrel
          have HB2 : Hk (Below w.heap.size w (w'.alloc (Obj.cells #[.int .i64 32768, .int .i64 16384, .int .i64 2, .int .i64 0, .int .i64 4] 24))) := ⟨(HB.out.trans (bel.mono HB.out.size)).alloc (Nat.le_trans HB.out.size bel.size) _⟩
          have HLK := Hk.mk (HW.out.below HB2.out (Nat.le_refl _))
          rcases hd with ⟨rfl, rfl, rfl⟩ | ⟨rfl, rfl, rfl⟩ | ⟨rfl, rfl, rfl⟩ | ⟨rfl, rfl, rfl⟩ | ⟨rfl, rfl, rfl⟩ | ⟨rfl, rfl, rfl⟩ | ⟨rfl, rfl, rfl⟩
          · go_wp2_with (first | (go_at_call 9; (refine (cost_as 2 0 _ _ 2 _ HLK.out (by omega) (by omega) ⟨by omega⟩ ⟨by omega⟩ ⟨by decide⟩).mono ?_); rintro e w' ⟨rfl, rfl⟩) | (go_at_call 8; (with_reducible refine (num5_any _ _).mono ?_); rintro e w' ⟨rfl, rfl⟩))
            go_roundw
            case rel => exact ⟨.inr (.inl ⟨rfl, rfl, rfl⟩), by first | trivial | rfl⟩
            case measure => simp [intOf]
          · go_wp2_with (first | (go_at_call 9; (refine (cost_as 2 1 _ _ 1 _ HLK.out (by omega) (by omega) ⟨by omega⟩ ⟨by omega⟩ ⟨by decide⟩).mono ?_); rintro e w' ⟨rfl, rfl⟩) | (go_at_call 8; (with_reducible refine (num5_any _ _).mono ?_); rintro e w' ⟨rfl, rfl⟩))
            go_roundw
            case rel => exact ⟨.inr (.inr (.inl ⟨rfl, rfl, rfl⟩)), by first | trivial | rfl⟩
            case measure => simp [intOf]
          · go_wp2_with (first | (go_at_call 9; (refine (cost_as 2 2 _ _ 0 _ HLK.out (by omega) (by omega) ⟨by omega⟩ ⟨by omega⟩ ⟨by decide⟩).mono ?_); rintro e w' ⟨rfl, rfl⟩) | (go_at_call 8; (with_reducible refine (num5_any _ _).mono ?_); rintro e w' ⟨rfl, rfl⟩))
            go_roundw
            case rel => exact ⟨.inr (.inr (.inr (.inl ⟨rfl, rfl, rfl⟩))), by first | trivial | rfl⟩
            case measure => simp [intOf]
          · go_wp2_with (first | (go_at_call 9; (refine (cost_as 2 3 _ _ 3 _ HLK.out (by omega) (by omega) ⟨by omega⟩ ⟨by omega⟩ ⟨by decide⟩).mono ?_); rintro e w' ⟨rfl, rfl⟩) | (go_at_call 8; (with_reducible refine (num5_any _ _).mono ?_); rintro e w' ⟨rfl, rfl⟩))
            go_roundw
            case rel => exact ⟨.inr (.inr (.inr (.inr (.inl ⟨rfl, rfl, rfl⟩)))), by first | trivial | rfl⟩
            case measure => simp [intOf]
          · go_wp2_with (first | (go_at_call 9; (refine (cost_as 2 4 _ _ 2 _ HLK.out (by omega) (by omega) ⟨by omega⟩ ⟨by omega⟩ ⟨by decide⟩).mono ?_); rintro e w' ⟨rfl, rfl⟩) | (go_at_call 8; (with_reducible refine (num5_any _ _).mono ?_); rintro e w' ⟨rfl, rfl⟩))
            go_roundw
            case rel => exact ⟨.inr (.inr (.inr (.inr (.inr (.inl ⟨rfl, rfl, rfl⟩))))), by first | trivial | rfl⟩
            case measure => simp [intOf]
          · go_wp2_with (first | (go_at_call 9; (refine (cost_as 2 5 _ _ 0 _ HLK.out (by omega) (by omega) ⟨by omega⟩ ⟨by omega⟩ ⟨by decide⟩).mono ?_); rintro e w' ⟨rfl, rfl⟩) | (go_at_call 8; (with_reducible refine (num5_any _ _).mono ?_); rintro e w' ⟨rfl, rfl⟩))
            go_roundw
            case rel => exact ⟨.inr (.inr (.inr (.inr (.inr (.inr (⟨rfl, rfl, rfl⟩)))))), by first | trivial | rfl⟩
            case measure => simp [intOf]
          · go_wp2
            go_roundw
            case rel => exact ⟨4, rfl, by omega, by omega, HB2⟩
            case measure => simp [intOf]
    · obtain rfl : k = 4 := by omega
      go_wp2_with (first | (go_at_call 12; (with_reducible refine (wakes5_any _ HLK.out).mono ?_); rintro e w' ⟨rfl, rfl⟩))
      go_ret
      exact ⟨rfl, HB.out⟩

theorem kindFits_own : ownKnob Tryd.prog.godebug = none := by kernel_rfl
theorem kindFits_laidOut : laidOutB Tryd.prog = true := by kernel_rfl
theorem kindFits_door (os : Os) (args : Array Value) : laidMetH Tryd.prog [("throng/kind.kinds", Rows.laid_throng_kind_kinds), ("throng/kind.costs", Rows.laid_throng_kind_costs)] ((World.doorLaid Tryd.prog 400 os).forCall (fun _ _ => 0) ⟨#[], args, []⟩).memory :=
  laidMetH_of_parts3 (fuel := 8) (laidMet_of_run' 8 (by kernel_rfl) (by kernel_rfl)) (by kernel_rfl) (by kernel_rfl)
set_option maxRecDepth 100000 in
theorem kindFits_lifted (os : Os) (started : os.Started) (H : Type) (enc : TypeId × Value → H) :
    ReturnsInHanded {} Tryd.checked os 4 .any (fun w args => (Rows.kindFitsSpec.pre enc Tryd.prog Tryd.f4 [] false w args ∧ laidMetH Tryd.prog [("throng/kind.kinds", Rows.laid_throng_kind_kinds), ("throng/kind.costs", Rows.laid_throng_kind_costs)] w) ∧ sizedMet enc Tryd.prog Tryd.f4 (OpenSpec.ofChange Rows.kindFitsSpec) false w args)
      (Rows.kindFitsSpec.post enc Tryd.prog Tryd.f4 false true false false) := by
  refine returnsInHanded_of_change_and (C := Tryd.checked) (X := fun w _ => laidMetH Tryd.prog [("throng/kind.kinds", Rows.laid_throng_kind_kinds), ("throng/kind.costs", Rows.laid_throng_kind_costs)] w) (fun _ _ _ hh h => h.of_heap hh) kindFits_own started (by kernel_rfl) Tryd.func4
    (ChangeSpec.witness_shaped (enc := enc) (C := Tryd.checked) (os := os) (X := fun w _ => laidMetH Tryd.prog [("throng/kind.kinds", Rows.laid_throng_kind_kinds), ("throng/kind.costs", Rows.laid_throng_kind_costs)] w) false (World.doorLaid Tryd.prog 400 os) #[.slice none 0 0] 8 rfl (World.shaped_of_RefB (by kernel_rfl) (by kernel_rfl)) (by kernel_rfl) (by kernel_rfl) (by kernel_rfl) (kindFits_door os _)) ?_
  intro W base args ds gs before hval0 hW _ _ hL _
  have hval : ∀ (j : Nat) t v, Tryd.f4.params[j]? = some t → args[j]? = some v → Value.okWide Tryd.prog W .any base t v := hval0
  have hW' := hW
  obtain ⟨p, q, hA0, hV, rfl, hfz, hnd⟩ := hW
  have hA : DataW.TrodAll enc Tryd.prog W 0 (fun _ => true) true Tryd.f4.params.toList args.toList ds p := hA0
  rw [Tryd.params4] at hA hval
  obtain ⟨v0, vs0, d0, ds0, p0, q0, hargs, rfl, rfl, h0, r0⟩ := trodAll_cons hA
  obtain ⟨rfl, rfl, rfl⟩ := trodAll_nil r0
  obtain rfl : args = #[v0] := by cases args; simp_all
  obtain ⟨rfl, rfl⟩ := trodVars_none hV
  obtain ⟨a0, len0, cap0, rfl⟩ := okWide_slice Tryd.underlying22 (hval 0 22 v0 rfl rfl)
  have k0 := h0
  have lt0 : ∀ x ∈ p0, x.block < W.heap.size := by obtain ⟨m, hm⟩ := k0; exact DataW.trod_lt m _ _ _ hm
  have rows := trivial
  clear hA0 hval0
  refine (kindFits_walk a0 len0 cap0 W (of_laid hL)).mono fun e W' ⟨he, bel⟩ => ?_
  subst he
  exact ⟨_, rfl, _, _, _, [], _, [], hW', trodAll_mk1 (shut_bool Tryd.underlying4 _), (trodAll_cons_mk (Below.trod kindFits_laidOut (by kernel_rfl) (of_decide_eq_true (by kernel_rfl)) k0 bel lt0) trodAll_mk0), rfl, bel.frame _, fun h => by cases h⟩
theorem kindFits_over : Rows.KindFitsSaid :=
  OpenClaim.holds_of_wide 4 Tryd.f4 rfl rfl rfl rfl rfl rfl rfl ⟨rfl, rfl, rfl, rfl, rfl⟩ rfl rfl rfl rfl rfl (by kernel_rfl) Tryd.func4 (by kernel_rfl)
    (of_decide_eq_true (by kernel_rfl)) (by unfold Func.isWrapper; first | (rw [if_pos (by decide +kernel)]; kernel_rfl) | (rw [if_neg (by decide +kernel)]; exact ⟨rfl, rfl⟩))
    (fun os started H enc _ => kindFits_lifted os started H enc)
/-- The given card of KindFits. -/
theorem kindFits_card : Rows.KindFitsCardSaid :=
  Claim7.holds_tied_plain_at .later [] [.data, .data] true (true, "31a5f18d96a025dd999f70b6b3645216ec008eb3fa32bc1e244dd6607278d8ba") false
    kindFits_over (fun _ h => by cases h) (by kernel_rfl) (fun _ h => by cases h) kindFits_row_tie rfl ⟨rfl, rfl⟩ (by kernel_rfl) rfl
    (fun f fn hf hfn => by
      obtain rfl : f = 4 := Option.some.inj ((show Tryd.prog.funcNamed "throng/thronglaw5.KindFits" = some 4 by kernel_rfl).symm.trans hf) |>.symm
      obtain rfl : fn = Tryd.f4 := (Option.some.inj (Tryd.func4.symm.trans hfn)).symm
      exact ⟨by kernel_rfl, fun j t ht => by
        rw [Tryd.params4] at ht
        have hm : t ∈ [22] := by simpa using Array.mem_of_getElem? ht
        have hall : ([22].all fun u => !Tryd.prog.wantsStandIn u) = true := by kernel_rfl
        exact (show Tryd.prog.wantsStandIn t = false by simpa using List.all_eq_true.1 hall t hm)⟩)
    (by kernel_rfl)
end Go.Proofs.YtdammgpflfoppacDoor
