/- Layer 9: which terrains a class may enter. -/
import Derived.Test.YtjjodfdmbiebnaaDoorCst
import Derived.Test.YtjjodfdmbiebnaaDoorArr
import Derived.Deep.QuietTactic
import Derived.BigQuiet
import Derived.Deep.RegionWith
import Derived.Deep.RegionHeld3
import Derived.Deep.DeepCutAuto
import Derived.Deep.DeepFit
import Derived.Outline
namespace Go.Proofs.YtjjodfdmbiebnaaDoor
open Go.RowKit
set_option linter.unusedVariables false
set_option linter.unusedSimpArgs false
/-- May the class enter the terrain? -/
def opB (c t : Nat) : Bool := decide (0 < ctS c t)
theorem opB_iff (c t : Nat) : opB c t = decide (0 < ctS c t) := rfl
set_option maxRecDepth 100000 in
set_option maxHeartbeats 800000 in
theorem terr_any (c : Nat) (w : World) (hL : LC w) (hc3 : c < 3) :
    Calls Tryd.prog 59 #[.int .i64 c] w fun e w' => e = .returned (.agg #[.bool (opB c 0), .bool (opB c 1), .bool (opB c 2), .bool (opB c 3), .bool (opB c 4), .bool (opB c 5)]) ∧ Below w.heap.size w w' := by
  have HWB : Hk (Below w.heap.size w ((w.alloc (.cells #[.bool false, .bool false, .bool false, .bool false, .bool false, .bool false] 89)).alloc (.cells #[.bool false, .bool false, .bool false, .bool false, .bool false, .bool false] 89))) := ⟨((Below.refl _ _).alloc (Nat.le_refl _) _).alloc (by simp) _⟩
  have hNW : w.heap.size + 1 ≤ ((w.alloc (.cells #[.bool false, .bool false, .bool false, .bool false, .bool false, .bool false] 89)).alloc (.cells #[.bool false, .bool false, .bool false, .bool false, .bool false, .bool false] 89)).heap.size := by simp
  have HB : Hk (Below (w.heap.size + 1) ((w.alloc (.cells #[.bool false, .bool false, .bool false, .bool false, .bool false, .bool false] 89)).alloc (.cells #[.bool false, .bool false, .bool false, .bool false, .bool false, .bool false] 89)) ((w.alloc (.cells #[.bool false, .bool false, .bool false, .bool false, .bool false, .bool false] 89)).alloc (.cells #[.bool false, .bool false, .bool false, .bool false, .bool false, .bool false] 89))) := ⟨Below.refl _ _⟩
  have HLL : Hk (∀ X, Below (w.heap.size + 1) ((w.alloc (.cells #[.bool false, .bool false, .bool false, .bool false, .bool false, .bool false] 89)).alloc (.cells #[.bool false, .bool false, .bool false, .bool false, .bool false, .bool false] 89)) X → LC X) := ⟨fun X hX => hL.below (HWB.out.trans (hX.mono (by omega))) (Nat.le_refl _)⟩
  have HA : Hk (Arr ((w.alloc (.cells #[.bool false, .bool false, .bool false, .bool false, .bool false, .bool false] 89)).alloc (.cells #[.bool false, .bool false, .bool false, .bool false, .bool false, .bool false] 89)) (w.heap.size + 1) 6 89 (fun j => .bool (if j < 0 then opB c j else false))) := ⟨by
    have h := Arr.new (w.alloc (.cells #[.bool false, .bool false, .bool false, .bool false, .bool false, .bool false] 89)) #[.bool false, .bool false, .bool false, .bool false, .bool false, .bool false] 89 (fun j => .bool (if j < 0 then opB c j else false)) 6 rfl (fun k hk => by
      match k, hk with
      | 0, _ | 1, _ | 2, _ | 3, _ | 4, _ | 5, _ => rfl)
    simpa using h⟩
  have HZ : Hk (∀ X, Below (w.heap.size + 1) ((w.alloc (.cells #[.bool false, .bool false, .bool false, .bool false, .bool false, .bool false] 89)).alloc (.cells #[.bool false, .bool false, .bool false, .bool false, .bool false, .bool false] 89)) X → ∀ j, j < 6 → X.cell? ⟨w.heap.size, j, none⟩ = some (.bool false) ∧ X.frozen? ⟨w.heap.size, j, none⟩ = false) := ⟨fun X hX j hj => by
    rw [hX.cell (p := ⟨w.heap.size, j, none⟩) (by show w.heap.size < _; omega), hX.frozen (p := ⟨w.heap.size, j, none⟩) (by show w.heap.size < _; omega)]
    match j, hj with
    | 0, _ | 1, _ | 2, _ | 3, _ | 4, _ | 5, _ => exact ⟨by go_simp, by go_simp⟩⟩
  clear hL
  go_enter Tryd.func59, Tryd.ntmps59
  go_wp2_with fail
  go_loopw [7] (fun i wr => ∃ k : Nat, i = .int .i64 k ∧ k ≤ 6 ∧ Hk (Below (w.heap.size + 1) ((w.alloc (.cells #[.bool false, .bool false, .bool false, .bool false, .bool false, .bool false] 89)).alloc (.cells #[.bool false, .bool false, .bool false, .bool false, .bool false, .bool false] 89)) wr) ∧ Hk (Arr wr (w.heap.size + 1) 6 89 (fun j => .bool (if j < k then opB c j else false)))) (fun i _ => 6 - (intOf i).toNat)
  case atStart => exact ⟨0, rfl, by omega, HB, HA⟩
  case round =>
    clear HA HB
    obtain ⟨k, rfl, hk, HB, HA⟩ := hrel
    by_cases hk6 : k < 6
    · obtain ⟨r, hr⟩ : ∃ r, ctS c k = r := ⟨_, rfl⟩
      have HR := Hk.mk hr
      have t0 : (0 : Int) ≤ (k : Int) := by omega
      have t1 : (k : Int) < 6 := by omega
      have a0 : wr.cell? ⟨w.heap.size + 1, k, none⟩ = some (.bool false) := by rw [HA.out.cell hk6, if_neg (by omega)]
      have az := HA.out.frozen k
      clear hr
      go_wp2_with (go_at_call 78; (with_reducible refine (costC_as c k _ _ r _ (HLL.out _ HB.out) hc3 hk6 ⟨rfl⟩ ?_ HR).mono ?_); (exact ⟨by first | rfl | (simp; omega) | omega⟩); rintro e w' ⟨rfl, rfl⟩)
      exact ⟨⟨k + 1, by go_num, by omega, ⟨Below.setCell (p := ⟨w.heap.size + 1, k, none⟩) HB.out (Nat.le_refl _) _⟩, ⟨(HA.out.set hk6 (.bool (decide (0 < r)))).congr fun j hj => by
        by_cases e : j = k
        · subst e; rw [if_pos rfl, if_pos (by omega), opB_iff, HR.out]
        · rw [if_neg e]
          by_cases e2 : j < k
          · rw [if_pos e2, if_pos (by omega)]
          · rw [if_neg e2, if_neg (by omega)]⟩⟩, by simp [intOf]; omega⟩
    · have hk' : k = 6 := by omega
      subst hk'
      have c0 := HA.out.cell (show 0 < 6 by omega)
      have c1 := HA.out.cell (show 1 < 6 by omega)
      have c2 := HA.out.cell (show 2 < 6 by omega)
      have c3 := HA.out.cell (show 3 < 6 by omega)
      have c4 := HA.out.cell (show 4 < 6 by omega)
      have c5 := HA.out.cell (show 5 < 6 by omega)
      simp only [show (0 < 6) = True by simp, show (1 < 6) = True by simp, show (2 < 6) = True by simp, show (3 < 6) = True by simp, show (4 < 6) = True by simp, show (5 < 6) = True by simp, if_true] at c0 c1 c2 c3 c4 c5
      obtain ⟨z0, y0⟩ := HZ.out _ HB.out 0 (by omega)
      obtain ⟨z1, y1⟩ := HZ.out _ HB.out 1 (by omega)
      obtain ⟨z2, y2⟩ := HZ.out _ HB.out 2 (by omega)
      obtain ⟨z3, y3⟩ := HZ.out _ HB.out 3 (by omega)
      obtain ⟨z4, y4⟩ := HZ.out _ HB.out 4 (by omega)
      obtain ⟨z5, y5⟩ := HZ.out _ HB.out 5 (by omega)
      have hwl : w.heap.size < wr.heap.size := by have := HB.out.size; simp at this; omega
      obtain ⟨b0, e0⟩ : ∃ b0, opB c 0 = b0 := ⟨_, rfl⟩
      rw [e0] at c0
      have E0 := Hk.mk e0
      clear e0
      obtain ⟨b1, e1⟩ : ∃ b1, opB c 1 = b1 := ⟨_, rfl⟩
      rw [e1] at c1
      have E1 := Hk.mk e1
      clear e1
      obtain ⟨b2, e2⟩ : ∃ b2, opB c 2 = b2 := ⟨_, rfl⟩
      rw [e2] at c2
      have E2 := Hk.mk e2
      clear e2
      obtain ⟨b3, e3⟩ : ∃ b3, opB c 3 = b3 := ⟨_, rfl⟩
      rw [e3] at c3
      have E3 := Hk.mk e3
      clear e3
      obtain ⟨b4, e4⟩ : ∃ b4, opB c 4 = b4 := ⟨_, rfl⟩
      rw [e4] at c4
      have E4 := Hk.mk e4
      clear e4
      obtain ⟨b5, e5⟩ : ∃ b5, opB c 5 = b5 := ⟨_, rfl⟩
      rw [e5] at c5
      have E5 := Hk.mk e5
      clear e5
      go_wp2
      refine bodyPost_ret (v := .agg #[.bool b0, .bool b1, .bool b2, .bool b3, .bool b4, .bool b5]) (by simp [results, Tryd.results59, go_sem, *]) rfl ⟨by rw [E0.out, E1.out, E2.out, E3.out, E4.out, E5.out], ?_⟩
      exact bset (bset (bset (bset (bset (bset (HWB.out.trans (HB.out.mono (by omega))) 0 (Nat.le_refl _) _) 1 (Nat.le_refl _) _) 2 (Nat.le_refl _) _) 3 (Nat.le_refl _) _) 4 (Nat.le_refl _) _) 5 (Nat.le_refl _) _
end Go.Proofs.YtjjodfdmbiebnaaDoor
