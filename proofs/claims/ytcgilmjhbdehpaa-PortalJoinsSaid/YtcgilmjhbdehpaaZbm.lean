import Derived.Shelf.SlSortCmp.WholeK
import Derived.Deep.QuietTactic
import Derived.BigQuiet
import Derived.Deep.RegionWith
import Derived.Deep.RegionHeld3
import Derived.Deep.DeepCutAuto
import Derived.Deep.DeepFit
import Derived.Outline
import Derived.Test.YtcgilmjhbdehpaaZbl
import Derived.Test.YtcgilmjhbdehpaaProg
import Derived.ArgAppend
import Derived.Test.YtcgilmjhbdehpaaZbj
import Derived.LoopN
/- Package portal: which of two comes first. -/
namespace Go.Proofs.Ytcgilmjhbdehpaa
open Go.ChangeShapes Go.WideShapes Go.ChangeAt Go.RowKit Go.Deep
set_option linter.unusedVariables false
set_option linter.unusedSimpArgs false
def cmpI (x y : Int) : Int := if x < y then -1 else if y < x then 1 else 0
theorem isnan_any (x : Int) (w : World) : Calls Try.prog 49 #[.int .i64 x] w fun e w' => e = .returned (.bool false) ∧ w' = w := by
  go_enter Try.func49, Try.ntmps49
  go_wp2
  go_ret
  simp
theorem cmpint_any (x y : Int) (w : World) : Calls Try.prog 33 #[.int .i64 x, .int .i64 y] w fun e w' => e = .returned (.int .i64 (cmpI x y)) ∧ w' = w := by
  have hn := fun z W => isnan_any z W
  by_cases h1 : x < y
  · have d1 : decide (x < y) = true := decide_eq_true h1
    have hc : cmpI x y = -1 := if_pos h1
    rw [hc]
    clear hc
    go_enter Try.func33, Try.ntmps33
    go_wp2_with (go_at_call 49; (with_reducible refine (isnan_any _ _).mono ?_); rintro e z ⟨rfl, hz⟩; rw [hz]; clear hz z)
    go_ret
    exact ⟨rfl, rfl⟩
  · have d1 : decide (x < y) = false := decide_eq_false h1
    by_cases h2 : y < x
    · have d2 : decide (y < x) = true := decide_eq_true h2
      have hc : cmpI x y = 1 := by unfold cmpI; rw [if_neg h1, if_pos h2]
      rw [hc]
      clear hc
      go_enter Try.func33, Try.ntmps33
      go_wp2_with (go_at_call 49; (with_reducible refine (isnan_any _ _).mono ?_); rintro e z ⟨rfl, hz⟩; rw [hz]; clear hz z)
      go_ret
      exact ⟨rfl, rfl⟩
    · have d2 : decide (y < x) = false := decide_eq_false h2
      have hc : cmpI x y = 0 := by unfold cmpI; rw [if_neg h1, if_neg h2]
      rw [hc]
      clear hc
      go_enter Try.func33, Try.ntmps33
      go_wp2_with (go_at_call 49; (with_reducible refine (isnan_any _ _).mono ?_); rintro e z ⟨rfl, hz⟩; rw [hz]; clear hz z)
      go_ret
      exact ⟨rfl, rfl⟩
def orI (x y : Int) : Int := if x = 0 then y else x
theorem or_any (b : Nat) (x y : Int) (w : World) (c0 : w.cell? ⟨b, 0, none⟩ = some (.int .i64 x)) (c1 : w.cell? ⟨b, 1, none⟩ = some (.int .i64 y)) :
    Calls Try.prog 32 #[.slice (some ⟨b, 0, none⟩) 2 2] w fun e w' => e = .returned (.int .i64 (orI x y)) ∧ w' = w := by
  by_cases h1 : x = 0
  · subst h1
    by_cases h2 : y = 0
    · subst h2
      go_enter Try.func32, Try.ntmps32
      go_wp2
      refine wp_loop_rounds 3 ?_
      rw [rounds_succ]
      go_wp2
      rw [rounds_succ]
      go_wp2
      (try rw [rounds_succ])
      (try go_wp2)
      go_ret
      exact ⟨rfl, rfl⟩
    · have hc : orI 0 y = y := if_pos rfl
      rw [hc]
      clear hc
      go_enter Try.func32, Try.ntmps32
      go_wp2
      refine wp_loop_rounds 3 ?_
      rw [rounds_succ]
      go_wp2
      rw [rounds_succ]
      go_wp2
      (try rw [rounds_succ])
      (try go_wp2)
      go_ret
      exact ⟨rfl, rfl⟩
  · have hc : orI x y = x := if_neg h1
    rw [hc]
    clear hc
    go_enter Try.func32, Try.ntmps32
    go_wp2
    refine wp_loop_rounds 3 ?_
    rw [rounds_succ]
    go_wp2
    go_ret
    exact ⟨rfl, rfl⟩
end Go.Proofs.Ytcgilmjhbdehpaa
/- Package portal: which of two comes first: the closure. -/
namespace Go.Proofs.Ytcgilmjhbdehpaa
open Go.ChangeShapes Go.WideShapes Go.ChangeAt Go.RowKit Go.Deep
set_option linter.unusedVariables false
set_option linter.unusedSimpArgs false
theorem alc_new (w : World) (cs : Array Value) (T : TypeId) (k : Nat) (v : Value) (h : cs[k]? = some v) : (w.alloc (.cells cs T)).cell? ⟨w.heap.size, k, none⟩ = some v := by
  have e := Go.heap_alloc_new w (.cells cs T)
  simp only [World.cell?]
  rw [e]
  exact h
theorem alc_old (w : World) (o : Obj) {b k : Nat} {v : Value} (hb : b < w.heap.size) (h : w.cell? ⟨b, k, none⟩ = some v) : (w.alloc o).cell? ⟨b, k, none⟩ = some v :=
  (((Below.refl w.heap.size w).alloc (Nat.le_refl _) o).cell (p := ⟨b, k, none⟩) hb).trans h
theorem grow_al (w : World) (os : Array Obj) (o : Obj) (q : Nat) : ((Go.Sort.grow w os).drewN q).alloc o = Go.Sort.grow (w.drewN q) (os ++ #[o]) := by
  rw [Go.Sort.alloc_eq_grow, ← Go.Sort.grow_grow]
  rfl
set_option maxHeartbeats 1600000 in
theorem closP_any (a1 a2 a3 b1 b2 b3 : Int) (W : World) :
    Calls Try.prog 31 #[.agg #[.int .i64 a1, .int .i64 a2, .int .i64 a3], .agg #[.int .i64 b1, .int .i64 b2, .int .i64 b3]] W fun e w' => e = .returned (.int .i64 (orI (cmpI a1 b1) (cmpI a2 b2))) ∧ ∃ q os, w' = Go.Sort.grow (W.drewN q) os := by
  obtain ⟨r1, hr1⟩ : ∃ r, cmpI a1 b1 = r := ⟨_, rfl⟩
  obtain ⟨r2, hr2⟩ : ∃ r, cmpI a2 b2 = r := ⟨_, rfl⟩
  have c1 := fun w => cmpint_any a1 b1 w
  have c2 := fun w => cmpint_any a2 b2 w
  rw [hr1] at c1
  rw [hr2] at c2
  rw [hr1, hr2]
  clear hr1 hr2
  have HC1 := Hk.mk c1
  have HC2 := Hk.mk c2
  clear c1 c2
  obtain ⟨ro, hro⟩ : ∃ r, orI r1 r2 = r := ⟨_, rfl⟩
  have HOR : Hk (∀ (b : Nat) (w : World), w.cell? ⟨b, 0, none⟩ = some (.int .i64 r1) → w.cell? ⟨b, 1, none⟩ = some (.int .i64 r2) → Calls Try.prog 32 #[.slice (some ⟨b, 0, none⟩) 2 2] w fun e w' => e = .returned (.int .i64 ro) ∧ w' = w) := ⟨fun b w h0 h1 => by rw [← hro]; exact or_any b r1 r2 w h0 h1⟩
  rw [hro]
  clear hro
  go_enter Try.func31, Try.ntmps31
  go_upto_region 1 with fail
  generalize hWB : ((W.alloc (.cells #[.int .i64 a1, .int .i64 a2, .int .i64 a3] 41)).alloc (.cells #[.int .i64 b1, .int .i64 b2, .int .i64 b3] 41)) = WB at *
  have hcell : (∀ (o : Nat), WB.cell? ⟨W.heap.size, o, none⟩ = ((W.alloc (.cells #[.int .i64 a1, .int .i64 a2, .int .i64 a3] 41)).alloc (.cells #[.int .i64 b1, .int .i64 b2, .int .i64 b3] 41)).cell? ⟨W.heap.size, o, none⟩) ∧ (∀ (o : Nat), WB.cell? ⟨W.heap.size + 1, o, none⟩ = ((W.alloc (.cells #[.int .i64 a1, .int .i64 a2, .int .i64 a3] 41)).alloc (.cells #[.int .i64 b1, .int .i64 b2, .int .i64 b3] 41)).cell? ⟨W.heap.size + 1, o, none⟩) := by subst hWB; exact ⟨fun _ => rfl, fun _ => rfl⟩
  have hx1 : WB.cell? ⟨W.heap.size, 0, none⟩ = some (.int .i64 a1) := by rw [hcell.1]; exact alc_old _ _ (by simp) (alc_new _ _ _ 0 _ rfl)
  have hx2 : WB.cell? ⟨W.heap.size, 1, none⟩ = some (.int .i64 a2) := by rw [hcell.1]; exact alc_old _ _ (by simp) (alc_new _ _ _ 1 _ rfl)
  have hy1 : WB.cell? ⟨W.heap.size + 1, 0, none⟩ = some (.int .i64 b1) := by rw [hcell.2]; have h := alc_new (W.alloc (.cells #[.int .i64 a1, .int .i64 a2, .int .i64 a3] 41)) #[.int .i64 b1, .int .i64 b2, .int .i64 b3] 41 0 _ rfl; rw [show (W.alloc (.cells #[.int .i64 a1, .int .i64 a2, .int .i64 a3] 41)).heap.size = W.heap.size + 1 by simp] at h; exact h
  have hy2 : WB.cell? ⟨W.heap.size + 1, 1, none⟩ = some (.int .i64 b2) := by rw [hcell.2]; have h := alc_new (W.alloc (.cells #[.int .i64 a1, .int .i64 a2, .int .i64 a3] 41)) #[.int .i64 b1, .int .i64 b2, .int .i64 b3] 41 1 _ rfl; rw [show (W.alloc (.cells #[.int .i64 a1, .int .i64 a2, .int .i64 a3] 41)).heap.size = W.heap.size + 1 by simp] at h; exact h
  have HG : Hk (∃ os, WB = Go.Sort.grow W os) := ⟨by subst hWB; exact ⟨_, by rw [Go.Sort.alloc_eq_grow, Go.Sort.alloc_eq_grow, Go.Sort.grow_grow]⟩⟩
  have hsz : W.heap.size + 2 ≤ WB.heap.size := by subst hWB; simp
  have hz0 : W.heap.size < WB.heap.size := by omega
  have hz1 : W.heap.size + 1 < WB.heap.size := by omega
  clear hWB hcell
  have HS : Hk (Below (W.heap.size + 2) WB WB) := ⟨Below.refl _ _⟩
  refine wp_region_held_drew (S := (fun X => (X.cell? ⟨W.heap.size, 0, none⟩ = some (.int .i64 a1) ∧ X.cell? ⟨W.heap.size, 1, none⟩ = some (.int .i64 a2) ∧ X.cell? ⟨W.heap.size + 1, 0, none⟩ = some (.int .i64 b1) ∧ X.cell? ⟨W.heap.size + 1, 1, none⟩ = some (.int .i64 b2)))) (by kernel_rfl) ?_ (fun hHeld => ?_)
  · exact ⟨hx1, hx2, hy1, hy2⟩
  refine wpAnyH_take (i := 0) (v := ?_) rfl (by kernel_rfl) (by kernel_rfl) (by kernel_rfl) (fun _ _ _ h => h) (Or.inl ⟨by rfl, fun wX hSw => ?_⟩) (by assumption) ?_
  rotate_left
  · (try dsimp only at hSw); go_simp; try with_reducible rfl
  (try simp only [Act.put, List.getElem_toArray, List.getElem_cons_succ, List.getElem_cons_zero, List.setIfInBounds_toArray, List.set_cons_zero, List.set_cons_succ])
  refine wpAnyH_take (i := 1) (v := ?_) rfl (by kernel_rfl) (by kernel_rfl) (by kernel_rfl) (fun _ _ _ h => h) (Or.inl ⟨by rfl, fun wX hSw => ?_⟩) (by assumption) ?_
  rotate_left
  · (try dsimp only at hSw); go_simp; try with_reducible rfl
  (try simp only [Act.put, List.getElem_toArray, List.getElem_cons_succ, List.getElem_cons_zero, List.setIfInBounds_toArray, List.set_cons_zero, List.set_cons_succ])
  refine wpAnyH_take (i := 2) (v := ?_) rfl (by kernel_rfl) (by kernel_rfl) (by kernel_rfl) (fun _ _ _ h => h) (Or.inl ⟨by rfl, fun wX hSw => ?_⟩) (by assumption) ?_
  rotate_left
  · (try dsimp only at hSw); go_simp; try with_reducible rfl
  (try simp only [Act.put, List.getElem_toArray, List.getElem_cons_succ, List.getElem_cons_zero, List.setIfInBounds_toArray, List.set_cons_zero, List.set_cons_succ])
  refine wpAnyH_take (i := 3) (v := ?_) rfl (by kernel_rfl) (by kernel_rfl) (by kernel_rfl) (fun _ _ _ h => h) (Or.inl ⟨by rfl, fun wX hSw => ?_⟩) (by assumption) ?_
  rotate_left
  · (try dsimp only at hSw); go_simp; try with_reducible rfl
  (try simp only [Act.put, List.getElem_toArray, List.getElem_cons_succ, List.getElem_cons_zero, List.setIfInBounds_toArray, List.set_cons_zero, List.set_cons_succ])
  refine wpAnyH_take (i := 5) (v := ?_) rfl (by kernel_rfl) (by kernel_rfl) (by kernel_rfl) (fun _ _ _ h => h) (Or.inl ⟨by rfl, fun wX hSw => ?_⟩) (by assumption) ?_
  rotate_left
  · (try dsimp only at hSw); go_simp; try with_reducible rfl
  (try simp only [Act.put, List.getElem_toArray, List.getElem_cons_succ, List.getElem_cons_zero, List.setIfInBounds_toArray, List.set_cons_zero, List.set_cons_succ])
  refine wpAnyH_take (i := 6) (v := ?_) rfl (by kernel_rfl) (by kernel_rfl) (by kernel_rfl) (fun _ _ _ h => h) (Or.inl ⟨by rfl, fun wX hSw => ?_⟩) (by assumption) ?_
  rotate_left
  · (try dsimp only at hSw); go_simp; try with_reducible rfl
  (try simp only [Act.put, List.getElem_toArray, List.getElem_cons_succ, List.getElem_cons_zero, List.setIfInBounds_toArray, List.set_cons_zero, List.set_cons_succ])
  refine wpAnyH_take (i := 7) (v := ?_) rfl (by kernel_rfl) (by kernel_rfl) (by kernel_rfl) (fun _ _ _ h => h) (Or.inl ⟨by rfl, fun wX hSw => ?_⟩) (by assumption) ?_
  rotate_left
  · (try dsimp only at hSw); go_simp; try with_reducible rfl
  (try simp only [Act.put, List.getElem_toArray, List.getElem_cons_succ, List.getElem_cons_zero, List.setIfInBounds_toArray, List.set_cons_zero, List.set_cons_succ])
  refine wpAnyH_take (i := 8) (v := ?_) rfl (by kernel_rfl) (by kernel_rfl) (by kernel_rfl) (fun _ _ _ h => h) (Or.inl ⟨by rfl, fun wX hSw => ?_⟩) (by assumption) ?_
  rotate_left
  · (try dsimp only at hSw); go_simp; try with_reducible rfl
  (try simp only [Act.put, List.getElem_toArray, List.getElem_cons_succ, List.getElem_cons_zero, List.setIfInBounds_toArray, List.set_cons_zero, List.set_cons_succ])
  refine wpAnyH_ready (rs := [4]) (by kernel_rfl) (by simp) ?_
  refine AllReadyH.cons rfl (fun K hK => ?_) (AllReadyH.nil)
  go_simp
  (first
      | (go_at_call 33; (with_reducible refine (HC1.out _).mono ?_); rintro e z ⟨rfl, hz⟩; rw [hz]; clear hz z)
      | (go_at_call 33; (with_reducible refine (HC2.out _).mono ?_); rintro e z ⟨rfl, hz⟩; rw [hz]; clear hz z)
      | (go_at_call 32; (with_reducible refine (HOR.out _ _ ?_ ?_).mono ?_); (first | exact alc_new _ _ _ 0 _ rfl | (have h := alc_new WB #[.int .i64 r1, .int .i64 r2] 3 0 _ rfl; exact h)); (first | exact alc_new _ _ _ 1 _ rfl | (have h := alc_new WB #[.int .i64 r1, .int .i64 r2] 3 1 _ rfl; exact h)); rintro e z ⟨rfl, hz⟩; rw [hz]; clear hz z))
  refine hK.out _ _ ?_ (fun hHeld => ?_)
  · first | exact ⟨hx1, hx2, hy1, hy2⟩ | exact ⟨alc_old _ _ hz0 hx1, alc_old _ _ hz0 hx2, alc_old _ _ hz1 hy1, alc_old _ _ hz1 hy2⟩
  clear hK K
  (try simp only [Act.put, List.getElem_toArray, List.getElem_cons_succ, List.getElem_cons_zero, List.setIfInBounds_toArray, List.set_cons_zero, List.set_cons_succ])
  refine wpAnyH_ready (rs := [9]) (by kernel_rfl) (by simp) ?_
  refine AllReadyH.cons rfl (fun K hK => ?_) (AllReadyH.nil)
  go_simp
  (first
      | (go_at_call 33; (with_reducible refine (HC1.out _).mono ?_); rintro e z ⟨rfl, hz⟩; rw [hz]; clear hz z)
      | (go_at_call 33; (with_reducible refine (HC2.out _).mono ?_); rintro e z ⟨rfl, hz⟩; rw [hz]; clear hz z)
      | (go_at_call 32; (with_reducible refine (HOR.out _ _ ?_ ?_).mono ?_); (first | exact alc_new _ _ _ 0 _ rfl | (have h := alc_new WB #[.int .i64 r1, .int .i64 r2] 3 0 _ rfl; exact h)); (first | exact alc_new _ _ _ 1 _ rfl | (have h := alc_new WB #[.int .i64 r1, .int .i64 r2] 3 1 _ rfl; exact h)); rintro e z ⟨rfl, hz⟩; rw [hz]; clear hz z))
  refine hK.out _ _ ?_ (fun hHeld => ?_)
  · first | exact ⟨hx1, hx2, hy1, hy2⟩ | exact ⟨alc_old _ _ hz0 hx1, alc_old _ _ hz0 hx2, alc_old _ _ hz1 hy1, alc_old _ _ hz1 hy2⟩
  clear hK K
  (try simp only [Act.put, List.getElem_toArray, List.getElem_cons_succ, List.getElem_cons_zero, List.setIfInBounds_toArray, List.set_cons_zero, List.set_cons_succ])
  refine wpAnyH_ready (rs := [10]) (by kernel_rfl) (by simp) ?_
  refine AllReadyH.cons rfl (fun K hK => ?_) (AllReadyH.nil)
  go_simp
  refine hK.out _ _ ?_ (fun hHeld => ?_)
  · first | exact ⟨hx1, hx2, hy1, hy2⟩ | exact ⟨alc_old _ _ hz0 hx1, alc_old _ _ hz0 hx2, alc_old _ _ hz1 hy1, alc_old _ _ hz1 hy2⟩
  clear hK K
  (try simp only [Act.put, List.getElem_toArray, List.getElem_cons_succ, List.getElem_cons_zero, List.setIfInBounds_toArray, List.set_cons_zero, List.set_cons_succ])
  refine wpAnyH_ready (rs := [11]) (by kernel_rfl) (by simp) ?_
  refine AllReadyH.cons rfl (fun K hK => ?_) (AllReadyH.nil)
  go_simp
  (first
      | (go_at_call 33; (with_reducible refine (HC1.out _).mono ?_); rintro e z ⟨rfl, hz⟩; rw [hz]; clear hz z)
      | (go_at_call 33; (with_reducible refine (HC2.out _).mono ?_); rintro e z ⟨rfl, hz⟩; rw [hz]; clear hz z)
      | (go_at_call 32; (with_reducible refine (HOR.out _ _ ?_ ?_).mono ?_); (first | exact alc_new _ _ _ 0 _ rfl | (have h := alc_new WB #[.int .i64 r1, .int .i64 r2] 3 0 _ rfl; exact h)); (first | exact alc_new _ _ _ 1 _ rfl | (have h := alc_new WB #[.int .i64 r1, .int .i64 r2] 3 1 _ rfl; exact h)); rintro e z ⟨rfl, hz⟩; rw [hz]; clear hz z))
  refine hK.out _ _ ?_ (fun hHeld => ?_)
  · first | exact ⟨hx1, hx2, hy1, hy2⟩ | exact ⟨alc_old _ _ hz0 hx1, alc_old _ _ hz0 hx2, alc_old _ _ hz1 hy1, alc_old _ _ hz1 hy2⟩
  clear hK K
  (try simp only [Act.put, List.getElem_toArray, List.getElem_cons_succ, List.getElem_cons_zero, List.setIfInBounds_toArray, List.set_cons_zero, List.set_cons_succ])
  refine wpAnyH_take (i := 12) (v := ?_) rfl (by kernel_rfl) (by kernel_rfl) (by kernel_rfl) (fun _ _ _ h => h) (Or.inl ⟨by rfl, fun wX hSw => ?_⟩) (by assumption) ?_
  rotate_left
  · (try dsimp only at hSw); go_simp; try with_reducible rfl
  (try simp only [Act.put, List.getElem_toArray, List.getElem_cons_succ, List.getElem_cons_zero, List.setIfInBounds_toArray, List.set_cons_zero, List.set_cons_succ])
  refine wpAnyH_done (by kernel_rfl) ?_ _
  all_goals obtain ⟨os, hos⟩ := HG.out
  all_goals clear hx1 hx2 hy1 hy2 HC1 HC2 HOR HS
  all_goals go_wp2
  all_goals go_ret
  all_goals exact ⟨rfl, 1, os ++ #[.cells #[.int .i64 r1, .int .i64 r2] 3], by rw [hos]; exact grow_al W os _ 1⟩
end Go.Proofs.Ytcgilmjhbdehpaa
/- The shelf's contract of slices.SortFunc, laid at portals (printed by wip/gen/lay.py). -/
namespace Go.Proofs.Ytcgilmjhbdehpaa
open Go.Shelf
def sortP_ren : Go.Shelf.Ren := ⟨fun | 6 => 30 | 15 => 48 | 14 => 47 | 28 => 66 | 29 => 67 | 20 => 58 | 21 => 59 | 22 => 60 | 23 => 61 | 24 => 62 | 25 => 63 | 26 => 64 | 27 => 65 | 46 => 82 | 47 => 83 | 48 => 84 | 49 => 85 | 50 => 86 | 57 => 92 | n => n, fun | 22 => 27 | 24 => 41 | 25 => 66 | 3 => 3 | 39 => 82 | 0 => 0 | 53 => 104 | 55 => 89 | 4 => 4 | 46 => 98 | 45 => 97 | 50 => 55 | 5 => 5 | 9 => 9 | 66 => 118 | 70 => 122 | 76 => 132 | 77 => 133 | n => n, fun | n => n⟩
theorem sortP : Go.Proofs.SlLaysF0.n6 Try.prog sortP_ren := {
  mixed := by kernel_rfl
  f6 := ⟨Try.f30.name, by decide, Try.func30.trans (congrArg some (by kernel_rfl))⟩
  f14 := ⟨Try.f47.name, by decide, Try.func47.trans (congrArg some (by kernel_rfl))⟩
  f15 := Try.func48.trans (congrArg some (by kernel_rfl))
  f20 := ⟨Try.f58.name, by decide, Try.func58.trans (congrArg some (by kernel_rfl))⟩
  f21 := ⟨Try.f59.name, by decide, Try.func59.trans (congrArg some (by kernel_rfl))⟩
  f22 := ⟨Try.f60.name, by decide, Try.func60.trans (congrArg some (by kernel_rfl))⟩
  f23 := ⟨Try.f61.name, by decide, Try.func61.trans (congrArg some (by kernel_rfl))⟩
  f24 := ⟨Try.f62.name, by decide, Try.func62.trans (congrArg some (by kernel_rfl))⟩
  f25 := ⟨Try.f63.name, by decide, Try.func63.trans (congrArg some (by kernel_rfl))⟩
  f26 := ⟨Try.f64.name, by decide, Try.func64.trans (congrArg some (by kernel_rfl))⟩
  f27 := ⟨Try.f65.name, by decide, Try.func65.trans (congrArg some (by kernel_rfl))⟩
  f28 := Try.func66.trans (congrArg some (by kernel_rfl))
  f29 := Try.func67.trans (congrArg some (by kernel_rfl))
  f46 := ⟨Try.f82.name, by decide, Try.func82.trans (congrArg some (by kernel_rfl))⟩
  f47 := Try.func83.trans (congrArg some (by kernel_rfl))
  f48 := Try.func84.trans (congrArg some (by kernel_rfl))
  f49 := ⟨Try.f85.name, by decide, Try.func85.trans (congrArg some (by kernel_rfl))⟩
  f50 := ⟨Try.f86.name, by decide, Try.func86.trans (congrArg some (by kernel_rfl))⟩
  f57 := ⟨Try.f92.name, by decide, Try.func92.trans (congrArg some (by kernel_rfl))⟩
  t0 := Try.underlying0
  a0 := Try.isAgg0
  z0 := Try.sizeOf0
  v0 := Try.zeroValue0
  t3 := Try.underlying3
  a3 := Try.isAgg3
  z3 := Try.sizeOf3
  v3 := Try.zeroValue3
  t4 := Try.underlying4
  a4 := Try.isAgg4
  z4 := Try.sizeOf4
  v4 := Try.zeroValue4
  t5 := Try.underlying5
  a5 := Try.isAgg5
  z5 := Try.sizeOf5
  v5 := Try.zeroValue5
  t9 := Try.underlying9
  a9 := Try.isAgg9
  z9 := Try.sizeOf9
  v9 := Try.zeroValue9
  t22 := Try.underlying27
  a22 := Try.isAgg27
  z22 := Try.sizeOf27
  v22 := Try.zeroValue27
  t25 := Try.underlying66
  a25 := Try.isAgg66
  z25 := Try.sizeOf66
  v25 := Try.zeroValue66
  t39 := Try.underlying82
  a39 := Try.isAgg82
  z39 := Try.sizeOf82
  v39 := Try.zeroValue82
  t45 := Try.underlying97
  a45 := Try.isAgg97
  z45 := Try.sizeOf97
  v45 := Try.zeroValue97
  t46 := Try.underlying98
  a46 := Try.isAgg98
  z46 := Try.sizeOf98
  v46 := Try.zeroValue98
  t50 := Try.underlying55
  a50 := Try.isAgg55
  z50 := Try.sizeOf55
  v50 := Try.zeroValue55
  t53 := Try.underlying104
  a53 := Try.isAgg104
  z53 := Try.sizeOf104
  v53 := Try.zeroValue104
  t55 := Try.underlying89
  a55 := Try.isAgg89
  z55 := Try.sizeOf89
  v55 := Try.zeroValue89
  t66 := Try.underlying118
  a66 := Try.isAgg118
  z66 := Try.sizeOf118
  v66 := Try.zeroValue118
  t70 := Try.underlying122
  a70 := Try.isAgg122
  z70 := Try.sizeOf122
  v70 := Try.zeroValue122
  t76 := Try.underlying132
  a76 := Try.isAgg132
  z76 := Try.sizeOf132
  v76 := Try.zeroValue132
  t77 := Try.underlying133
  a77 := Try.isAgg133
  z77 := Try.sizeOf133
  v77 := Try.zeroValue133 }
end Go.Proofs.Ytcgilmjhbdehpaa
/- Package portal: portals sorted by the library. -/
namespace Go.Proofs.Ytcgilmjhbdehpaa
open Go.ChangeShapes Go.WideShapes Go.ChangeAt Go.RowKit Go.Deep
set_option linter.unusedVariables false
set_option linter.unusedSimpArgs false
def cfP (x y : Int × Int × Int) : Int := orI (cmpI x.1 y.1) (cmpI x.2.1 y.2.1)
/-- Which comes first. -/
def ltP (x y : Int × Int × Int) : Prop := x.1 < y.1 ∨ (x.1 = y.1 ∧ x.2.1 < y.2.1)
theorem ltP_iff (x y : Int × Int × Int) : Go.Proofs.ltOf cfP x y = true ↔ ltP x y := by
  unfold Go.Proofs.ltOf cfP orI cmpI ltP
  rw [decide_eq_true_iff]
  by_cases a : x.1 < y.1
  · simp [a]
  · by_cases b : y.1 < x.1
    · have : ¬ x.1 = y.1 := by omega
      simp [a, b, this]
    · have e : x.1 = y.1 := by omega
      by_cases c : x.2.1 < y.2.1
      · simp [a, b, e, c]
      · by_cases d : y.2.1 < x.2.1 <;> simp [a, b, e, c, d]
theorem ltP_no (x y : Int × Int × Int) : Go.Proofs.ltOf cfP x y = false ↔ ¬ ltP x y := by
  rw [← ltP_iff]; simp
theorem swoP : Go.Sort.SWO (Go.Proofs.ltOf cfP) where
  irrefl x := by rw [ltP_no]; unfold ltP; omega
  trans x y z h1 h2 := by rw [ltP_iff] at *; unfold ltP at *; omega
  ntrans x y z h1 h2 := by rw [ltP_no] at *; unfold ltP at *; omega
theorem c3_len (p : Int × Int × Int) : (c3 p).length = 3 := rfl
theorem flat3_at (L : List (Int × Int × Int)) (j : Nat) (hj : j < L.length * 3) : (fl3 L)[j]? = some ((Go.Sort.flatK c3 3 L.toArray)[j]!) := by
  rw [Go.Sort.get_flatK _ _ _ _ (by simpa using hj)]
  have hk : j / 3 < L.length := by omega
  obtain ⟨a, b, c⟩ := fl3_at L (j / 3) hk
  have hg : L.toArray[j / 3]! = L[j / 3] := by simp [hk]
  rw [hg]
  generalize L[j / 3] = p at *
  have h3 : (j % 3 = 0 ∧ j = j / 3 * 3) ∨ (j % 3 = 1 ∧ j = j / 3 * 3 + 1) ∨ (j % 3 = 2 ∧ j = j / 3 * 3 + 2) := by omega
  clear hj hg hk
  generalize j / 3 = k at *
  rcases h3 with ⟨e, e2⟩ | ⟨e, e2⟩ | ⟨e, e2⟩
  · rw [e, e2, a]; rfl
  · rw [e, e2, b]; rfl
  · rw [e, e2, c]; rfl
theorem holds3 {w : World} {base g cap : Nat} {L : List (Int × Int × Int)} (h : w.ownsRow base 41 3 (.slice (some ⟨g, 0, none⟩) L.length cap) L.length (fl3 L)) : Go.Sort.HoldsK c3 3 w g 0 L.toArray := by
  intro j hj
  have hj' : j < L.length * 3 := by simpa using hj
  have e := h.cellAt j hj'
  rw [flat3_at L j hj'] at e
  refine ⟨by rw [Nat.zero_add]; exact e, ?_⟩
  rw [Nat.zero_add]
  exact h.frozenAt j
theorem sorted_row {w : World} {base g cap n : Nat} {os : Array Obj} {L L' : List (Int × Int × Int)} (h : w.ownsRow base 41 3 (.slice (some ⟨g, 0, none⟩) L.length cap) L.length (fl3 L)) (hl : L'.length = L.length) :
    (Go.Proofs.sortWorldK c3 3 w g 0 n L'.toArray os).ownsRow base 41 3 (.slice (some ⟨g, 0, none⟩) L.length cap) L.length (fl3 L') ∧ w.grownBy (Go.Proofs.sortWorldK c3 3 w g 0 n L'.toArray os) (some g) := by
  unfold Go.Proofs.sortWorldK Go.Sort.putRowK
  generalize hF : Go.Sort.flatK c3 3 L'.toArray = F
  have hFs : F.size = L.length * 3 := by rw [← hF]; simp [hl]
  have hFg : ∀ j, j < L.length * 3 → (fl3 L')[j]? = some F[j]! := fun j hj => by rw [← hF]; exact flat3_at L' j (by omega)
  constructor
  · rcases h.2 with ⟨e, _⟩ | ⟨g', cap', cur, e, hg, hh, hc, hm, hs, ht⟩
    · cases e
    · injection e with e1 e2 e3
      injection e1 with e1
      injection e1 with e1
      subst e1 e3
      have hgl : g < w.heap.size := (Array.getElem?_eq_some_iff.1 hh).1
      refine ⟨by rw [fl3_len, hl], Or.inr ⟨g, cap, Go.Sort.putCells id 0 F cur, rfl, hg, ?_, hc, hm, by simp [Go.Sort.putCells, hs], ?_⟩⟩
      · rw [Go.Sort.heap_grow_old _ _ (by simpa using hgl)]
        simp [Go.Sort.putRow, Go.Sort.mapBlock, Go.Sort.ahead, Array.getElem?_modify, hh, Go.Sort.onCells]
      · apply List.ext_getElem?
        intro j
        by_cases hj : j < L.length * 3
        · rw [List.getElem?_take_of_lt hj, Array.getElem?_toList, hFg j hj]
          have hjc : j < cur.size := by rw [hs]; have := Nat.mul_le_mul_right 3 hc; omega
          simp [Go.Sort.putCells, hFs, hj, hjc]
        · rw [List.getElem?_take_eq_none (by omega), List.getElem?_eq_none (by rw [fl3_len, hl]; omega)]
  · refine ⟨rfl, rfl, rfl, by simp, fun k hk hne => ?_⟩
    rw [Go.Sort.heap_grow_old _ _ (by simpa using hk)]
    have : g ≠ k := fun e => hne (by rw [e])
    simp [Go.Sort.putRow, Go.Sort.mapBlock, Go.Sort.ahead, Array.getElem?_modify, this]
theorem sortP_any (base g cap : Nat) (L : List (Int × Int × Int)) (w : World) (h : w.ownsRow base 41 3 (.slice (some ⟨g, 0, none⟩) L.length cap) L.length (fl3 L)) (hlen : L.length < 4611686018427387904) :
    Calls Try.prog 30 #[.slice (some ⟨g, 0, none⟩) L.length cap, .func (.func 31) #[] #[]] w fun e w' => e = .returned (.tuple #[]) ∧ ∃ L' : List (Int × Int × Int), L'.Perm L ∧ L'.Pairwise (fun x y => ¬ ltP y x) ∧ w'.ownsRow base 41 3 (.slice (some ⟨g, 0, none⟩) L.length cap) L.length (fl3 L') ∧ w.grownBy w' (some g) := by
  have eg : ∀ args w, (callFunc 31 args).run Try.prog w = .ok (.enter 31 args) w := enters_of Try.func31 (by kernel_rfl) rfl
  have hgl : g < w.heap.size := by
    rcases h.2 with ⟨e, _⟩ | ⟨g', cap', cur, e, hg, hh, _⟩
    · cases e
    · injection e with e1
      injection e1 with e1
      injection e1 with e1
      subst e1
      exact (Array.getElem?_eq_some_iff.1 hh).1
  have hcmp : Go.Proofs.CmpLays Try.prog 31 #[] c3 3 cfP g 0 L.toArray.size w := fun m os dk _ x y => closP_any x.1 x.2.1 x.2.2 y.1 y.2.1 y.2.2 _
  have hcon := Go.Proofs.AnyQ.slices_SortFunc sortP 3 Try.isAgg41 Try.sizeOf41 c3 c3_len (fun x v hv => c3_one x v hv) cfP swoP 31 #[] g 0 cap L.toArray w eg hcmp (holds3 h) hgl (by simpa using hlen)
  change Calls Try.prog 30 _ _ _ at hcon
  simp only [List.size_toArray] at hcon
  refine hcon.mono ?_
  rintro e w' ⟨he, d', n, os, hp, hs, rfl⟩
  obtain ⟨hps, _, hpp⟩ := hp
  simp only [List.size_toArray] at hps
  have hsl : d'.toList.length = L.length := by simpa using hps
  have hd : d' = d'.toList.toArray := by simp
  obtain ⟨r1, r2⟩ := sorted_row (n := n) (os := os) h hsl
  refine ⟨he, d'.toList, ?_, ?_, by rw [hd]; simpa using r1, by rw [hd]; simpa using r2⟩
  · have e1 : d'.extract 0 L.length = d' := by rw [← hps]; simp
    have e2 : L.toArray.extract 0 L.length = L.toArray := by simp
    rw [e1, e2] at hpp
    simpa using hpp
  · rw [List.pairwise_iff_getElem]
    intro i j hi hj hij
    have := hs i j (Nat.zero_le _) hij (by simpa [hps] using hj)
    rw [ltP_no] at this
    have hi' : i < d'.size := by simpa using hi
    have hj' : j < d'.size := by simpa using hj
    simpa [hi', hj'] using this
end Go.Proofs.Ytcgilmjhbdehpaa
/- Package sector: the tiles beside each of two. -/
namespace Go.Proofs.Ytcgilmjhbdehpaa
open Go.RowKit
set_option linter.unusedVariables false
theorem app_c1 (w9 : World) (s : Nat) (hs : w9.heap.size = s) (v : Value) (T : TypeId) : ∀ (j : Nat) (u : Value), [v][j]? = some u → ((w9.alloc (.cells #[.int .i64 0, .int .i64 0, .int .i64 0, .int .i64 0] T)).alloc (.cells #[v] T)).cell? ((⟨s + 1, 0, none⟩ : Addr).add j) = some u := by
  subst hs
  intro j u hj
  match j, hj with
  | 0, hj => simp at hj; subst hj; simp [Addr.add]
theorem app_c3 (w9 : World) (s : Nat) (hs : w9.heap.size = s) (v : Value) (T : TypeId) : ∀ j, j < [v].length → (((w9.alloc (.cells #[.int .i64 0, .int .i64 0, .int .i64 0, .int .i64 0] T)).alloc (.cells #[v] T)).cell? ⟨s, 0 + 0 * 1 + j, none⟩).isSome = true ∧ ((w9.alloc (.cells #[.int .i64 0, .int .i64 0, .int .i64 0, .int .i64 0] T)).alloc (.cells #[v] T)).frozen? ⟨s, 0 + 0 * 1 + j, none⟩ = false := by
  subst hs
  intro j hj
  obtain rfl : j = 0 := by simp at hj; omega
  exact ⟨by simp, by simp⟩
theorem app_end (w9 : World) (s : Nat) (hs : w9.heap.size = s) (v : Value) (T : TypeId) : s < (((w9.alloc (.cells #[.int .i64 0, .int .i64 0, .int .i64 0, .int .i64 0] T)).alloc (.cells #[v] T)).setCells s 0 [v]).heap.size ∧ (((w9.alloc (.cells #[.int .i64 0, .int .i64 0, .int .i64 0, .int .i64 0] T)).alloc (.cells #[v] T)).setCells s 0 [v]).cell? ⟨s, 0, none⟩ = some v ∧ Below s w9 (((w9.alloc (.cells #[.int .i64 0, .int .i64 0, .int .i64 0, .int .i64 0] T)).alloc (.cells #[v] T)).setCells s 0 [v]) := by
  subst hs
  show _ < (World.setCell _ ⟨w9.heap.size, 0, none⟩ v).heap.size ∧ (World.setCell _ ⟨w9.heap.size, 0, none⟩ v).cell? _ = _ ∧ Below _ _ (World.setCell _ ⟨w9.heap.size, 0, none⟩ v)
  refine ⟨by simp; omega, ?_, ?_⟩
  · exact World.cell?_setCell_same' _ _ _ (by simp)
  · exact (((Below.refl _ _).alloc (Nat.le_refl _) _).alloc (by simp) _).setCell (Nat.le_refl _) _
theorem beside10_0 (w : World) : Calls Try.prog 51 #[.int .i64 2, .int .i64 1, .int .i64 0] w fun e w' => ∃ B, e = .returned (.slice (some ⟨B, 0, none⟩) 1 4) ∧ w.heap.size ≤ B ∧ B < w'.heap.size ∧ w'.cell? ⟨B, 0, none⟩ = some (.int .i64 1) ∧ Below w.heap.size w w' := by
  have hmk : ∀ w, (Instr.makeSlice 23 (.int .i64 0) (.int .i64 4)).run Try.prog w = .ok (.slice (some ⟨w.heap.size, 0, none⟩) 0 4) (w.alloc (.cells #[.int .i64 0, .int .i64 0, .int .i64 0, .int .i64 0] 3)) := fun _ => by kernel_rfl
  have info_int : (Try.prog.info? 3).map (fun i => (i.zero, i.size, i.bytes)) = some (some (.int .i64 0), 1, 8) := by kernel_rfl
  obtain ⟨i0, hi, hz0, hz1, hz2⟩ := info_parts info_int
  clear info_int
  have hs : ∀ m, (w.drewN m).heap.size = w.heap.size := fun m => by simp
  go_enter Try.func51, Try.ntmps51
  go_wp2
  go_quiet (fail)
  go_wp2_with (at_builtin; go_must (refine wpList_append_arg _ rfl _ _ 23 rfl 3 i0 (.int .i64 0) 1 8 Try.underlying23 hi hz0 hz1 hz2 rfl (by decide) w.heap.size 0 0 4 [] rfl rfl ?c0 ⟨w.heap.size + 1, 0, none⟩ 1 1 [.int .i64 1] rfl rfl ?c1 ?c2 ?c3 (by unfold maxLen; omega) (by omega) ?c4 (fun h => absurd h (by omega))))
  case c0 => intro j u hj; simp at hj
  case c1 =>
    exact app_c1 _ _ (hs _) _ _
  case c2 => intro u hu; simp at hu; subst hu; rfl
  case c3 =>
    exact fun _ => app_c3 _ _ (hs _) _ _
  have hend := app_end (w.drewN nq) w.heap.size (hs _) (.int .i64 1) 3
  refine bodyPost_ret (v := .slice (some ⟨w.heap.size, 0, none⟩) 1 4) (by simp [results, Try.results51, go_sem]) rfl ⟨_, rfl, Nat.le_refl _, hend.1, hend.2.1, ?_⟩
  exact (below_drewN (Below.refl _ _) nq).trans hend.2.2
theorem beside10_1 (w : World) : Calls Try.prog 51 #[.int .i64 2, .int .i64 1, .int .i64 1] w fun e w' => ∃ B, e = .returned (.slice (some ⟨B, 0, none⟩) 1 4) ∧ w.heap.size ≤ B ∧ B < w'.heap.size ∧ w'.cell? ⟨B, 0, none⟩ = some (.int .i64 0) ∧ Below w.heap.size w w' := by
  have hmk : ∀ w, (Instr.makeSlice 23 (.int .i64 0) (.int .i64 4)).run Try.prog w = .ok (.slice (some ⟨w.heap.size, 0, none⟩) 0 4) (w.alloc (.cells #[.int .i64 0, .int .i64 0, .int .i64 0, .int .i64 0] 3)) := fun _ => by kernel_rfl
  have info_int : (Try.prog.info? 3).map (fun i => (i.zero, i.size, i.bytes)) = some (some (.int .i64 0), 1, 8) := by kernel_rfl
  obtain ⟨i0, hi, hz0, hz1, hz2⟩ := info_parts info_int
  clear info_int
  have hs : ∀ m, (w.drewN m).heap.size = w.heap.size := fun m => by simp
  go_enter Try.func51, Try.ntmps51
  go_wp2
  go_quiet (fail)
  go_wp2_with (at_builtin; go_must (refine wpList_append_arg _ rfl _ _ 23 rfl 3 i0 (.int .i64 0) 1 8 Try.underlying23 hi hz0 hz1 hz2 rfl (by decide) w.heap.size 0 0 4 [] rfl rfl ?c0 ⟨w.heap.size + 1, 0, none⟩ 1 1 [.int .i64 0] rfl rfl ?c1 ?c2 ?c3 (by unfold maxLen; omega) (by omega) ?c4 (fun h => absurd h (by omega))))
  case c0 => intro j u hj; simp at hj
  case c1 =>
    exact app_c1 _ _ (hs _) _ _
  case c2 => intro u hu; simp at hu; subst hu; rfl
  case c3 =>
    exact fun _ => app_c3 _ _ (hs _) _ _
  have hend := app_end (w.drewN nq) w.heap.size (hs _) (.int .i64 0) 3
  refine bodyPost_ret (v := .slice (some ⟨w.heap.size, 0, none⟩) 1 4) (by simp [results, Try.results51, go_sem]) rfl ⟨_, rfl, Nat.le_refl _, hend.1, hend.2.1, ?_⟩
  exact (below_drewN (Below.refl _ _) nq).trans hend.2.2
end Go.Proofs.Ytcgilmjhbdehpaa
/- Package sector: filling two tiles. -/
namespace Go.Proofs.Ytcgilmjhbdehpaa
open Go.RowKit
set_option linter.unusedVariables false
theorem fill_mid (w2 : World) (F G O B : Nat) (T : TypeId) (hFG : F < G) (hGO : G < O) (hOB : O < B) (hB : B < w2.heap.size) (F0 : w2.cell? ⟨F, 0, none⟩ = some (.bool true)) (F1 : w2.cell? ⟨F, 1, none⟩ = some (.bool true)) (G0 : w2.cell? ⟨G, 0, none⟩ = some (.int .i64 0)) (G1 : w2.cell? ⟨G, 1, none⟩ = some (.int .i64 (-1))) (O0 : w2.cell? ⟨O, 0, none⟩ = some (.int .i64 0)) :
    (((w2.setCell ⟨G, 1, none⟩ (.int .i64 0)).alloc (.cells #[.int .i64 1] T)).setCells O 0 [.int .i64 1]).cell? ⟨F, 0, none⟩ = some (.bool true) ∧ (((w2.setCell ⟨G, 1, none⟩ (.int .i64 0)).alloc (.cells #[.int .i64 1] T)).setCells O 0 [.int .i64 1]).cell? ⟨F, 1, none⟩ = some (.bool true) ∧ (((w2.setCell ⟨G, 1, none⟩ (.int .i64 0)).alloc (.cells #[.int .i64 1] T)).setCells O 0 [.int .i64 1]).cell? ⟨G, 0, none⟩ = some (.int .i64 0) ∧ (((w2.setCell ⟨G, 1, none⟩ (.int .i64 0)).alloc (.cells #[.int .i64 1] T)).setCells O 0 [.int .i64 1]).cell? ⟨G, 1, none⟩ = some (.int .i64 0) ∧ (((w2.setCell ⟨G, 1, none⟩ (.int .i64 0)).alloc (.cells #[.int .i64 1] T)).setCells O 0 [.int .i64 1]).cell? ⟨O, 0, none⟩ = some (.int .i64 1) ∧ Below G w2 (((w2.setCell ⟨G, 1, none⟩ (.int .i64 0)).alloc (.cells #[.int .i64 1] T)).setCells O 0 [.int .i64 1]) := by
  have hne : ¬ F = G := by omega
  have hne1 : ¬ F = O := by omega
  have hne2 : ¬ G = O := by omega
  have l1 : F < w2.heap.size := by omega
  have l2 : G < w2.heap.size := by omega
  have l3 : O < w2.heap.size := by omega
  have hne' : ¬ G = F := by omega
  have hne1' : ¬ O = F := by omega
  have hne2' : ¬ O = G := by omega
  have m1 : ¬ F = w2.heap.size := by omega
  have m2 : ¬ G = w2.heap.size := by omega
  have m3 : ¬ O = w2.heap.size := by omega
  have hb0 : Below G w2 (w2.setCell ⟨G, 1, none⟩ (.int .i64 0)) := Below.setCell (p := ⟨G, 1, none⟩) (Below.refl G w2) (Nat.le_refl G) _
  have hb1 := hb0.alloc (by simp; omega) (.cells #[.int .i64 1] T)
  have hb2 : Below G w2 (((w2.setCell ⟨G, 1, none⟩ (.int .i64 0)).alloc (.cells #[.int .i64 1] T)).setCells O 0 [.int .i64 1]) := Below.setCell (p := ⟨O, 0, none⟩) hb1 (Nat.le_of_lt hGO) _
  refine ⟨(hb2.cell (p := ⟨F, 0, none⟩) hFG).trans F0, (hb2.cell (p := ⟨F, 1, none⟩) hFG).trans F1, ?_, ?_, ?_, hb2⟩
  · unfold World.setCells World.setCells; go_simp
  · unfold World.setCells World.setCells; go_simp
  · unfold World.setCells World.setCells; go_simp
set_option maxHeartbeats 1600000 in
theorem fill10_1 (F G : Nat) (w : World) (f0 : w.cell? ⟨F, 0, none⟩ = some (.bool true)) (f1 : w.cell? ⟨F, 1, none⟩ = some (.bool true)) (g0 : w.cell? ⟨G, 0, none⟩ = some (.int .i64 0)) (g1 : w.cell? ⟨G, 1, none⟩ = some (.int .i64 0)) :
    Calls Try.prog 36 #[.int .i64 2, .int .i64 1, .slice (some ⟨F, 0, none⟩) 2 2, .slice (some ⟨G, 0, none⟩) 2 2, .int .i64 1] w fun e w' => e = .returned (.tuple #[]) ∧ Below w.heap.size w w' := by
  go_enter Try.func36, Try.ntmps36
  go_wp2
  refine bodyPost_ret (v := .tuple #[]) (by simp [results, Try.results36, go_sem]) rfl ⟨rfl, Below.refl _ _⟩
theorem fill10_0 (F G : Nat) (w : World) (f0 : w.cell? ⟨F, 0, none⟩ = some (.bool true)) (f1 : w.cell? ⟨F, 1, none⟩ = some (.bool true)) (g0 : w.cell? ⟨G, 0, none⟩ = some (.int .i64 (-1))) (g1 : w.cell? ⟨G, 1, none⟩ = some (.int .i64 (-1))) (z0 : w.frozen? ⟨G, 0, none⟩ = false) (z1 : w.frozen? ⟨G, 1, none⟩ = false) (hFG : F < G) :
    Calls Try.prog 36 #[.int .i64 2, .int .i64 1, .slice (some ⟨F, 0, none⟩) 2 2, .slice (some ⟨G, 0, none⟩) 2 2, .int .i64 0] w fun e w' => e = .returned (.tuple #[]) ∧ w'.cell? ⟨G, 0, none⟩ = some (.int .i64 0) ∧ w'.cell? ⟨G, 1, none⟩ = some (.int .i64 0) ∧ Below G w w' := by
  have info_int : (Try.prog.info? 3).map (fun i => (i.zero, i.size, i.bytes)) = some (some (.int .i64 0), 1, 8) := by kernel_rfl
  obtain ⟨i0, hi, hz0, hz1, hz2⟩ := info_parts info_int
  clear info_int
  go_enter Try.func36, Try.ntmps36
  go_wp2_with (fail)
  have hF : F < w.heap.size := World.block_lt_of_cell? _ _ f0
  have hG : G < w.heap.size := World.block_lt_of_cell? _ _ g0
  have hne : ¬ F = G := by omega
  have hne' : ¬ G = F := by omega
  have hGO : ¬ G = w.heap.size := by omega
  have hFO : ¬ F = w.heap.size := by omega
  have HB1 : Below G w ((w.setCell ⟨G, 0, none⟩ (.int .i64 0)).alloc (.cells #[.int .i64 0] 3)) := by
    have hb0 : Below G w (w.setCell ⟨G, 0, none⟩ (.int .i64 0)) := Below.setCell (p := ⟨G, 0, none⟩) (Below.refl G w) (Nat.le_refl G) _
    exact hb0.alloc (by simp; omega) _
  have F0 : ((w.setCell ⟨G, 0, none⟩ (.int .i64 0)).alloc (.cells #[.int .i64 0] 3)).cell? ⟨F, 0, none⟩ = some (.bool true) := (HB1.cell (p := ⟨F, 0, none⟩) hFG).trans f0
  have F1 : ((w.setCell ⟨G, 0, none⟩ (.int .i64 0)).alloc (.cells #[.int .i64 0] 3)).cell? ⟨F, 1, none⟩ = some (.bool true) := (HB1.cell (p := ⟨F, 1, none⟩) hFG).trans f1
  have G0 : ((w.setCell ⟨G, 0, none⟩ (.int .i64 0)).alloc (.cells #[.int .i64 0] 3)).cell? ⟨G, 0, none⟩ = some (.int .i64 0) := by go_simp
  have G1 : ((w.setCell ⟨G, 0, none⟩ (.int .i64 0)).alloc (.cells #[.int .i64 0] 3)).cell? ⟨G, 1, none⟩ = some (.int .i64 (-1)) := by go_simp
  have O0 : ((w.setCell ⟨G, 0, none⟩ (.int .i64 0)).alloc (.cells #[.int .i64 0] 3)).cell? ⟨w.heap.size, 0, none⟩ = some (.int .i64 0) := by go_simp
  have Z1 : ((w.setCell ⟨G, 0, none⟩ (.int .i64 0)).alloc (.cells #[.int .i64 0] 3)).frozen? ⟨G, 1, none⟩ = false := by go_simp
  have ZO : ((w.setCell ⟨G, 0, none⟩ (.int .i64 0)).alloc (.cells #[.int .i64 0] 3)).frozen? ⟨w.heap.size, 0, none⟩ = false := by go_simp
  have hsz : w.heap.size < ((w.setCell ⟨G, 0, none⟩ (.int .i64 0)).alloc (.cells #[.int .i64 0] 3)).heap.size := by simp
  have HH := Hk.mk HB1
  clear HB1 f0 f1 g0 g1 z0 z1
  generalize (w.setCell ⟨G, 0, none⟩ (.int .i64 0)).alloc (.cells #[.int .i64 0] 3) = W1 at *
  generalize w.heap.size = O at *
  have hFW : F < W1.heap.size := by omega
  have hGW : G < W1.heap.size := by omega
  refine wp_loop_rounds 3 ?_
  rw [rounds_succ]
  go_wp2_with (go_at_call 51; (with_reducible refine (beside10_0 _).mono ?_); rintro e w2 ⟨B, rfl, hB1, hB2, B0, hb2⟩; have F0 := (hb2.cell (p := ⟨F, 0, none⟩) hFW).trans F0; have F1 := (hb2.cell (p := ⟨F, 1, none⟩) hFW).trans F1; have G0 := (hb2.cell (p := ⟨G, 0, none⟩) hGW).trans G0; have G1 := (hb2.cell (p := ⟨G, 1, none⟩) hGW).trans G1; have O0 := (hb2.cell (p := ⟨O, 0, none⟩) hsz).trans O0; have Z1 := (hb2.frozen (p := ⟨G, 1, none⟩) hGW).trans Z1; have ZO := (hb2.frozen (p := ⟨O, 0, none⟩) hsz).trans ZO)
  refine wp_loop_rounds 2 ?_
  rw [rounds_succ]
  go_wp2_with (at_builtin; go_must (refine wpList_append_arg _ rfl _ _ 23 rfl 3 i0 (.int .i64 0) 1 8 Try.underlying23 hi hz0 hz1 hz2 rfl (by decide) O 0 0 1 [] rfl rfl ?_ ⟨w2.heap.size, 0, none⟩ 1 1 [.int .i64 1] rfl rfl ?_ ?_ ?_ (by unfold maxLen; omega) (by omega) ?_ (fun h => absurd h (by omega))))
  · intro j u hj; simp at hj
  · have hs2 : (w2.setCell ⟨G, 1, none⟩ (.int .i64 0)).heap.size = w2.heap.size := by simp
    have h1 := one_new (w2.setCell ⟨G, 1, none⟩ (.int .i64 0)) (.int .i64 1) 3
    rw [hs2] at h1
    exact h1
  · intro u hu; simp at hu; subst hu; rfl
  · intro _ j hj
    obtain rfl : j = 0 := by simp at hj; omega
    have l3 : O < w2.heap.size := by omega
    have m3 : ¬ O = w2.heap.size := by omega
    have m4 : ¬ O = G := by omega
    have m5 : ¬ G = O := by omega
    exact ⟨by go_simp, by go_simp⟩
  obtain ⟨X0, X1, Y0, Y1, P0, hb4⟩ := fill_mid w2 F G O B 3 hFG (by omega) (by omega) hB2 F0 F1 G0 G1 O0
  have HH4 := Hk.mk ((HH.out.trans (hb2.mono (by omega))).trans hb4)
  clear hb4 F0 F1 G0 G1 O0 B0 hb2 Z1 ZO
  generalize (((w2.setCell ⟨G, 1, none⟩ (.int .i64 0)).alloc (.cells #[.int .i64 1] 3)).setCells O 0 [.int .i64 1]) = W4 at *
  have hFW4 : F < W4.heap.size := World.block_lt_of_cell? _ _ X0
  have hGW4 : G < W4.heap.size := World.block_lt_of_cell? _ _ Y0
  have hOW4 : O < W4.heap.size := World.block_lt_of_cell? _ _ P0
  rw [rounds_succ]
  go_wp2
  rw [rounds_succ]
  go_wp2_with (go_at_call 51; (with_reducible refine (beside10_1 _).mono ?_); rintro e w5 ⟨C, rfl, hC1, hC2, C0, hb5⟩; have X0 := (hb5.cell (p := ⟨F, 0, none⟩) hFW4).trans X0; have X1 := (hb5.cell (p := ⟨F, 1, none⟩) hFW4).trans X1; have Y0 := (hb5.cell (p := ⟨G, 0, none⟩) hGW4).trans Y0; have Y1 := (hb5.cell (p := ⟨G, 1, none⟩) hGW4).trans Y1; have P0 := (hb5.cell (p := ⟨O, 0, none⟩) hOW4).trans P0)
  refine wp_loop_rounds 2 ?_
  rw [rounds_succ]
  go_wp2
  rw [rounds_succ]
  go_wp2
  rw [rounds_succ]
  go_wp2
  go_end0
  exact ⟨rfl, Y0, Y1, HH4.out.trans (hb5.mono (by omega))⟩
end Go.Proofs.Ytcgilmjhbdehpaa
