import Derived.Deep.QuietTactic
import Derived.BigQuiet
import Derived.Deep.RegionWith
import Derived.Deep.RegionHeld3
import Derived.Deep.DeepCutAuto
import Derived.Deep.DeepFit
import Derived.Outline
import Derived.Test.YtdpblimhfmfbnaaZsv
import Derived.Test.YtdpblimhfmfbnaaZso
import Derived.Test.YtdpblimhfmfbnaaZsa
set_option linter.unusedVariables false
set_option linter.unusedSimpArgs false
namespace Go.Proofs.Ytdpblimhfmfbnaa
open Go.ChangeShapes Go.WideShapes Go.ChangeAt Go.RowKit Go.Deep
theorem alc_new (w : World) (cs : Array Value) (T : TypeId) (k : Nat) (v : Value) (h : cs[k]? = some v) : (w.alloc (.cells cs T)).cell? ⟨w.heap.size, k, none⟩ = some v := by
 have e := Go.heap_alloc_new w (.cells cs T)
 simp only [World.cell?]
 rw [e]
 exact h
theorem alc_old (w : World) (o : Obj) {b k : Nat} {v : Value} (hb : b < w.heap.size) (h : w.cell? ⟨b, k, none⟩ = some v) : (w.alloc o).cell? ⟨b, k, none⟩ = some v :=
 (((Below.refl w.heap.size w).alloc (Nat.le_refl _) o).cell (p := ⟨b, k, none⟩) hb).trans h
theorem grow_al (w : World) (os : Array Obj) (o : Obj) (q : Nat) : ((Go.Sort.grow w os).drewN q).alloc o = Go.Sort.grow (w.drewN q) (os ++ #[o]) := by
 rw [Go.Sort.alloc_eq_grow, ← Go.Sort.grow_grow]
 rfl
end Go.Proofs.Ytdpblimhfmfbnaa
namespace Go.Proofs.Ytdpblimhfmfbnaa
open List renaming getElem_toArray → jjA, getElem_cons_succ → jjB, getElem_cons_zero → jjC, setIfInBounds_toArray → jjD, set_cons_zero → jjE, set_cons_succ → jjF
open Go.ChangeShapes Go.WideShapes Go.ChangeAt Go.RowKit Go.Deep
def cfI (x y : Iv) : Int := orI (cmpI x.t y.t) (cmpI x.p y.p)
def ltI (x y : Iv) : Prop := x.t < y.t ∨ (x.t = y.t ∧ x.p < y.p)
theorem ltI_iff (x y : Iv) : Go.Proofs.ltOf cfI x y = true ↔ ltI x y := by
 unfold Go.Proofs.ltOf cfI orI cmpI ltI
 rw [decide_eq_true_iff]
 by_cases a : x.t < y.t
 ·simp [a]
 ·by_cases b : y.t < x.t
  ·have : ¬ x.t = y.t := by omega
   simp [a, b, this]
  ·have e : x.t = y.t := by omega
   by_cases c : x.p < y.p
   ·simp [a, b, e, c]
   ·by_cases d : y.p < x.p <;> simp [a, b, e, c, d]
theorem ltI_no (x y : Iv) : Go.Proofs.ltOf cfI x y = false ↔ ¬ ltI x y := by
 rw [← ltI_iff]; simp
theorem swoI : Go.Sort.SWO (Go.Proofs.ltOf cfI) where
 irrefl x := by rw [ltI_no]; unfold ltI; omega
 trans x y z h1 h2 := by rw [ltI_iff] at *; unfold ltI at *; omega
 ntrans x y z h1 h2 := by rw [ltI_no] at *; unfold ltI at *; omega
theorem cfI_neg (x y : Iv) : cfI x y < 0 ↔ ltI x y := by
 have := ltI_iff x y
 unfold Go.Proofs.ltOf at this
 rw [decide_eq_true_iff] at this
 exact this
set_option maxHeartbeats 1600000 in
theorem compI_any (x y : Iv) (W : World) :
  Calls Try.prog 49 #[.agg #[.int .i64 x.t, .int .i64 x.p, .slice x.a x.n x.c], .agg #[.int .i64 y.t, .int .i64 y.p, .slice y.a y.n y.c]] W fun e w' => e = .returned (.int .i64 (cfI x y)) ∧ ∃ q os, w' = Go.Sort.grow (W.drewN q) os := by
 unfold cfI
 obtain ⟨r1, hr1⟩ : ∃ r, cmpI x.t y.t = r := ⟨_, rfl⟩
 obtain ⟨r2, hr2⟩ : ∃ r, cmpI x.p y.p = r := ⟨_, rfl⟩
 have c1 := fun w => cmpint_any x.t y.t w
 have c2 := fun w => cmpint_any x.p y.p w
 rw [hr1] at c1
 rw [hr2] at c2
 rw [hr1, hr2]
 clear hr1 hr2
 have HC1 := Hk.mk c1
 have HC2 := Hk.mk c2
 clear c1 c2
 obtain ⟨ro, hro⟩ : ∃ r, orI r1 r2 = r := ⟨_, rfl⟩
 have HOR : Hk (∀ (b : Nat) (w : World), w.cell? ⟨b, 0, none⟩ = some (.int .i64 r1) → w.cell? ⟨b, 1, none⟩ = some (.int .i64 r2) → Calls Try.prog 64 #[.slice (some ⟨b, 0, none⟩) 2 2] w fun e w' => e = .returned (.int .i64 ro) ∧ w' = w) := ⟨fun b w h0 h1 => by rw [← hro]; exact or_any b r1 r2 w h0 h1⟩
 rw [hro]
 clear hro
 go_enter Try.func49, Try.ntmps49
 go_upto_region 1 with fail
 generalize hWB : ((W.alloc (.cells #[.int .i64 x.t, .int .i64 x.p, .slice x.a x.n x.c] 55)).alloc (.cells #[.int .i64 y.t, .int .i64 y.p, .slice y.a y.n y.c] 55)) = WB at *
 have hcell : (∀ (o : Nat), WB.cell? ⟨W.heap.size, o, none⟩ = ((W.alloc (.cells #[.int .i64 x.t, .int .i64 x.p, .slice x.a x.n x.c] 55)).alloc (.cells #[.int .i64 y.t, .int .i64 y.p, .slice y.a y.n y.c] 55)).cell? ⟨W.heap.size, o, none⟩) ∧ (∀ (o : Nat), WB.cell? ⟨W.heap.size + 1, o, none⟩ = ((W.alloc (.cells #[.int .i64 x.t, .int .i64 x.p, .slice x.a x.n x.c] 55)).alloc (.cells #[.int .i64 y.t, .int .i64 y.p, .slice y.a y.n y.c] 55)).cell? ⟨W.heap.size + 1, o, none⟩) := by subst hWB; exact ⟨fun _ => rfl, fun _ => rfl⟩
 have hx1 : WB.cell? ⟨W.heap.size, 0, none⟩ = some (.int .i64 x.t) := by rw [hcell.1]; exact alc_old _ _ (by simp) (alc_new _ _ _ 0 _ rfl)
 have hx2 : WB.cell? ⟨W.heap.size, 1, none⟩ = some (.int .i64 x.p) := by rw [hcell.1]; exact alc_old _ _ (by simp) (alc_new _ _ _ 1 _ rfl)
 have hy1 : WB.cell? ⟨W.heap.size + 1, 0, none⟩ = some (.int .i64 y.t) := by rw [hcell.2]; have h := alc_new (W.alloc (.cells #[.int .i64 x.t, .int .i64 x.p, .slice x.a x.n x.c] 55)) #[.int .i64 y.t, .int .i64 y.p, .slice y.a y.n y.c] 55 0 _ rfl; rw [show (W.alloc (.cells #[.int .i64 x.t, .int .i64 x.p, .slice x.a x.n x.c] 55)).heap.size = W.heap.size + 1 by simp] at h; exact h
 have hy2 : WB.cell? ⟨W.heap.size + 1, 1, none⟩ = some (.int .i64 y.p) := by rw [hcell.2]; have h := alc_new (W.alloc (.cells #[.int .i64 x.t, .int .i64 x.p, .slice x.a x.n x.c] 55)) #[.int .i64 y.t, .int .i64 y.p, .slice y.a y.n y.c] 55 1 _ rfl; rw [show (W.alloc (.cells #[.int .i64 x.t, .int .i64 x.p, .slice x.a x.n x.c] 55)).heap.size = W.heap.size + 1 by simp] at h; exact h
 have HG : Hk (∃ os, WB = Go.Sort.grow W os) := ⟨by subst hWB; exact ⟨_, by rw [Go.Sort.alloc_eq_grow, Go.Sort.alloc_eq_grow, Go.Sort.grow_grow]⟩⟩
 have hsz : W.heap.size + 2 ≤ WB.heap.size := by subst hWB; simp
 have hz0 : W.heap.size < WB.heap.size := by omega
 have hz1 : W.heap.size + 1 < WB.heap.size := by omega
 clear hWB hcell
 have HS : Hk (Below (W.heap.size + 2) WB WB) := ⟨Below.refl _ _⟩
 refine wp_region_held_drew (S := (fun X => (X.cell? ⟨W.heap.size, 0, none⟩ = some (.int .i64 x.t) ∧ X.cell? ⟨W.heap.size, 1, none⟩ = some (.int .i64 x.p) ∧ X.cell? ⟨W.heap.size + 1, 0, none⟩ = some (.int .i64 y.t) ∧ X.cell? ⟨W.heap.size + 1, 1, none⟩ = some (.int .i64 y.p)))) (by kernel_rfl) ?_ (fun hHeld => ?_)
 ·exact ⟨hx1, hx2, hy1, hy2⟩
 have HI : Ix [0, 1, 2, 3, 5, 6, 7, 8] := trivial
 iterate 8 (refine tkA HI (v := ?_) rfl (by kernel_rfl) (fun _ _ _ h => h) (.inl ⟨by rfl, fun wX hSw => ?_⟩) hHeld (fun HJ => ?_); rotate_left; (focus ((try dsimp only at hSw); go_simp; try with_reducible rfl)); clear HI; have HI := HJ; clear HJ; try simp only [Act.put, jjA, jjB, jjC, jjD, jjE, jjF])
 clear HI
 refine wpAnyH_ready (rs := [4]) (by kernel_rfl) (by simp) ?_
 refine AllReadyH.cons rfl (fun K hK => ?_) (AllReadyH.nil)
 go_simp
 (first
   | (go_at_call 65; (with_reducible refine (HC1.out _).mono ?_); rintro e z ⟨rfl, hz⟩; rw [hz]; clear hz z)
   | (go_at_call 65; (with_reducible refine (HC2.out _).mono ?_); rintro e z ⟨rfl, hz⟩; rw [hz]; clear hz z)
   | (go_at_call 64; (with_reducible refine (HOR.out _ _ ?_ ?_).mono ?_); (first | exact alc_new _ _ _ 0 _ rfl | (have h := alc_new WB #[.int .i64 r1, .int .i64 r2] 3 0 _ rfl; exact h)); (first | exact alc_new _ _ _ 1 _ rfl | (have h := alc_new WB #[.int .i64 r1, .int .i64 r2] 3 1 _ rfl; exact h)); rintro e z ⟨rfl, hz⟩; rw [hz]; clear hz z))
 refine hK.out _ _ ?_ (fun hHeld => ?_)
 ·first | exact ⟨hx1, hx2, hy1, hy2⟩ | exact ⟨alc_old _ _ hz0 hx1, alc_old _ _ hz0 hx2, alc_old _ _ hz1 hy1, alc_old _ _ hz1 hy2⟩
 clear hK K
 (try simp only [Act.put, jjA, jjB, jjC, jjD, jjE, jjF])
 refine wpAnyH_ready (rs := [9]) (by kernel_rfl) (by simp) ?_
 refine AllReadyH.cons rfl (fun K hK => ?_) (AllReadyH.nil)
 go_simp
 (first
   | (go_at_call 65; (with_reducible refine (HC1.out _).mono ?_); rintro e z ⟨rfl, hz⟩; rw [hz]; clear hz z)
   | (go_at_call 65; (with_reducible refine (HC2.out _).mono ?_); rintro e z ⟨rfl, hz⟩; rw [hz]; clear hz z)
   | (go_at_call 64; (with_reducible refine (HOR.out _ _ ?_ ?_).mono ?_); (first | exact alc_new _ _ _ 0 _ rfl | (have h := alc_new WB #[.int .i64 r1, .int .i64 r2] 3 0 _ rfl; exact h)); (first | exact alc_new _ _ _ 1 _ rfl | (have h := alc_new WB #[.int .i64 r1, .int .i64 r2] 3 1 _ rfl; exact h)); rintro e z ⟨rfl, hz⟩; rw [hz]; clear hz z))
 refine hK.out _ _ ?_ (fun hHeld => ?_)
 ·first | exact ⟨hx1, hx2, hy1, hy2⟩ | exact ⟨alc_old _ _ hz0 hx1, alc_old _ _ hz0 hx2, alc_old _ _ hz1 hy1, alc_old _ _ hz1 hy2⟩
 clear hK K
 (try simp only [Act.put, jjA, jjB, jjC, jjD, jjE, jjF])
 refine wpAnyH_ready (rs := [10]) (by kernel_rfl) (by simp) ?_
 refine AllReadyH.cons rfl (fun K hK => ?_) (AllReadyH.nil)
 go_simp
 refine hK.out _ _ ?_ (fun hHeld => ?_)
 ·first | exact ⟨hx1, hx2, hy1, hy2⟩ | exact ⟨alc_old _ _ hz0 hx1, alc_old _ _ hz0 hx2, alc_old _ _ hz1 hy1, alc_old _ _ hz1 hy2⟩
 clear hK K
 (try simp only [Act.put, jjA, jjB, jjC, jjD, jjE, jjF])
 refine wpAnyH_ready (rs := [11]) (by kernel_rfl) (by simp) ?_
 refine AllReadyH.cons rfl (fun K hK => ?_) (AllReadyH.nil)
 go_simp
 (first
   | (go_at_call 65; (with_reducible refine (HC1.out _).mono ?_); rintro e z ⟨rfl, hz⟩; rw [hz]; clear hz z)
   | (go_at_call 65; (with_reducible refine (HC2.out _).mono ?_); rintro e z ⟨rfl, hz⟩; rw [hz]; clear hz z)
   | (go_at_call 64; (with_reducible refine (HOR.out _ _ ?_ ?_).mono ?_); (first | exact alc_new _ _ _ 0 _ rfl | (have h := alc_new WB #[.int .i64 r1, .int .i64 r2] 3 0 _ rfl; exact h)); (first | exact alc_new _ _ _ 1 _ rfl | (have h := alc_new WB #[.int .i64 r1, .int .i64 r2] 3 1 _ rfl; exact h)); rintro e z ⟨rfl, hz⟩; rw [hz]; clear hz z))
 refine hK.out _ _ ?_ (fun hHeld => ?_)
 ·first | exact ⟨hx1, hx2, hy1, hy2⟩ | exact ⟨alc_old _ _ hz0 hx1, alc_old _ _ hz0 hx2, alc_old _ _ hz1 hy1, alc_old _ _ hz1 hy2⟩
 clear hK K
 (try simp only [Act.put, jjA, jjB, jjC, jjD, jjE, jjF])
 have HI : Ix [12] := trivial
 (refine tkA HI (v := ?_) rfl (by kernel_rfl) (fun _ _ _ h => h) (.inl ⟨by rfl, fun wX hSw => ?_⟩) hHeld (fun HJ => ?_); rotate_left; (focus ((try dsimp only at hSw); go_simp; try with_reducible rfl)); clear HI; have HI := HJ; clear HJ; try simp only [Act.put, jjA, jjB, jjC, jjD, jjE, jjF])
 clear HI
 refine wpAnyH_done (by kernel_rfl) ?_ _
 all_goals obtain ⟨os, hos⟩ := HG.out
 all_goals clear hx1 hx2 hy1 hy2 HC1 HC2 HOR HS
 all_goals go_wp2
 all_goals go_ret
 all_goals exact ⟨rfl, 1, os ++ #[.cells #[.int .i64 r1, .int .i64 r2] 3], by rw [hos]; exact grow_al W os _ 1⟩
theorem below_grow27 {W : World} {q : Nat} {os : Array Obj} : Below W.heap.size W (Go.Sort.grow (W.drewN q) os) :=
 ⟨rfl, rfl, rfl, by simp, fun k hk => by rw [Go.Sort.heap_grow_old _ _ (by simpa using hk)]; rfl⟩
theorem compI_b (x y : Iv) (W : World) :
  Calls Try.prog 49 #[.agg #[.int .i64 x.t, .int .i64 x.p, .slice x.a x.n x.c], .agg #[.int .i64 y.t, .int .i64 y.p, .slice y.a y.n y.c]] W fun e w' => e = .returned (.int .i64 (cfI x y)) ∧ Below W.heap.size W w' := (compI_any x y W).mono fun e w' h => ⟨h.1, by obtain ⟨q, os, rfl⟩ := h.2; exact below_grow27⟩
end Go.Proofs.Ytdpblimhfmfbnaa
