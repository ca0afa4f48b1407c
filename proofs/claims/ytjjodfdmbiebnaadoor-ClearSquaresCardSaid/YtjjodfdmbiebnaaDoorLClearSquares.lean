/- For every argument, ClearSquares answers true and leaves its argument as it was: a tile's number is the greatest square's. No condition; the table of package kind is tied to the program's text. -/
import Derived.Test.YtjjodfdmbiebnaaDoorClu
import Derived.Deep.QuietTactic
import Derived.BigQuiet
import Derived.Deep.RegionWith
import Derived.Deep.RegionHeld3
import Derived.Deep.DeepCutAuto
import Derived.Deep.DeepFit
import Derived.Outline
import Derived.Test.YtjjodfdmbiebnaaDoorCards
import Derived.Test.YtjjodfdmbiebnaaDoorTie
import Derived.SevenTiedAt
import Derived.ProofKit
import Derived.LaidMore
import Derived.OpenShut
import Derived.Stop.Joined
namespace Go.Proofs.YtjjodfdmbiebnaaDoor
open Go.ChangeShapes Go.WideShapes Go.ChangeAt Go.RowKit Go.Deep
set_option linter.unusedVariables false
set_option linter.unusedSimpArgs false
/-- Numbers of neighbours differ by one at most. -/
theorem sV_near {W H : Int} {f : Nat → Bool} (hW : W ≤ 128) {x y dx dy : Int} (a : -1 ≤ dx) (b : dx ≤ 1) (c : -1 ≤ dy) (d : dy ≤ 1) : sV W H f x y ≤ sV W H f (x + dx) (y + dy) + 1 := by
  obtain ⟨r, hr⟩ : ∃ r, sV W H f x y = r := ⟨_, rfl⟩
  rw [hr]
  match r, hr with
  | 0, _ => omega
  | 1, _ => omega
  | k + 2, hr =>
    have h1 := (sq_iff (opXY W H f) (k + 1) x y).1 ((sV_iff (H := H) (f := f) hW x y (k + 2)).1 (by omega))
    have h2 : sqB (opXY W H f) (k + 1) (x + dx) (y + dy) = true := (sq_iff (opXY W H f) k (x + dx) (y + dy)).2 fun i j i1 i2 j1 j2 => by
      have := h1 (dx + i) (dy + j) (by omega) (by omega) (by omega) (by omega)
      rw [← Int.add_assoc, ← Int.add_assoc] at this; exact this
    have := (sV_iff (H := H) (f := f) hW (x + dx) (y + dy) (k + 1)).2 h2
    omega
theorem sC_near {W H : Int} {f : Nat → Bool} (hW1 : 1 ≤ W) (hW : W ≤ 128) {t i u : Nat} (hi : i < 8) (e : nb W H t i = (u : Int)) : sC W H f t ≤ sC W H f u + 1 ∧ sC W H f u ≤ sC W H f t + 1 := by
  have hd : -1 ≤ dxL.getD i 0 ∧ dxL.getD i 0 ≤ 1 ∧ -1 ≤ dyL.getD i 0 ∧ dyL.getD i 0 ≤ 1 := by
    match i, hi with
    | 0, _ => decide
    | 1, _ => decide
    | 2, _ => decide
    | 3, _ => decide
    | 4, _ => decide
    | 5, _ => decide
    | 6, _ => decide
    | 7, _ => decide
  unfold nb at e
  obtain ⟨d1, d2, d3, d4⟩ := hd
  by_cases c : 0 ≤ (t : Int) % W + dxL.getD i 0 ∧ (t : Int) % W + dxL.getD i 0 < W ∧ 0 ≤ (t : Int) / W + dyL.getD i 0 ∧ (t : Int) / W + dyL.getD i 0 < H
  · obtain ⟨c1, c2, c3, c4⟩ := c
    rw [nbS_yes c1 c2 c3 c4] at e
    have := xy_at' (W := W) (x := (t : Int) % W + dxL.getD i 0) (y := (t : Int) / W + dyL.getD i 0) (j := u) e.symm c1 c2
    unfold sC
    rw [this.1, this.2]
    have a1 := sV_near (H := H) (f := f) hW (x := (t : Int) % W) (y := (t : Int) / W) d1 d2 d3 d4
    have a2 := sV_near (H := H) (f := f) hW (x := (t : Int) % W + dxL.getD i 0) (y := (t : Int) / W + dyL.getD i 0) (dx := - dxL.getD i 0) (dy := - dyL.getD i 0) (by omega) (by omega) (by omega) (by omega)
    rw [show (t : Int) % W + dxL.getD i 0 + - dxL.getD i 0 = (t : Int) % W by omega, show (t : Int) / W + dyL.getD i 0 + - dyL.getD i 0 = (t : Int) / W by omega] at a2
    omega
  · rw [nbS_no c] at e; omega
theorem clearSquares_big (W H : Int) (a : Option Addr) (n c : Nat) (xs : List Int) (la : Option Addr) (ln lc : Nat) (bs : List Bd) (x : Int) (w : World) (hL : LC w) (h : By w w.heap.size a n xs) (hb0 : Bq w w.heap.size la ln bs) (hn : n ≤ 9223372036854775807) (hln : ln ≤ 9223372036854775807) (HV : Hk (gtP n ln = true)) :
    Calls Tryd.prog 7 #[.agg #[.int .i64 W, .int .i64 H, .slice a n c, .slice la ln lc, .int .i64 x]] w fun e w' => e = .returned (.bool true) ∧ Below w.heap.size w w' := by
  have HWB : Hk (Below w.heap.size w (w.alloc (.cells #[.int .i64 W, .int .i64 H, .slice a n c, .slice la ln lc, .int .i64 x] 48))) := ⟨(Below.refl _ _).alloc (Nat.le_refl _) _⟩
  have hNW : w.heap.size + 1 ≤ (w.alloc (.cells #[.int .i64 W, .int .i64 H, .slice a n c, .slice la ln lc, .int .i64 x] 48)).heap.size := by simp
  have HB : Hk (Below (w.heap.size + 1) (w.alloc (.cells #[.int .i64 W, .int .i64 H, .slice a n c, .slice la ln lc, .int .i64 x] 48)) (w.alloc (.cells #[.int .i64 W, .int .i64 H, .slice a n c, .slice la ln lc, .int .i64 x] 48))) := ⟨Below.refl _ _⟩
  have HTR : Hk (∀ X, Below (w.heap.size + 1) (w.alloc (.cells #[.int .i64 W, .int .i64 H, .slice a n c, .slice la ln lc, .int .i64 x] 48)) X → Below w.heap.size w X) := ⟨fun X hX => HWB.out.trans (hX.mono (by omega))⟩
  have HBY := Hk.mk (fun (X : World) (hX : Below (w.heap.size + 1) (w.alloc (.cells #[.int .i64 W, .int .i64 H, .slice a n c, .slice la ln lc, .int .i64 x] 48)) X) => h.below (HTR.out X hX) (Nat.le_refl _))
  have HBQ := Hk.mk (fun (X : World) (hX : Below (w.heap.size + 1) (w.alloc (.cells #[.int .i64 W, .int .i64 H, .slice a n c, .slice la ln lc, .int .i64 x] 48)) X) => hb0.below (HTR.out X hX) (Nat.le_refl _))
  have HLC := Hk.mk (fun (X : World) (hX : Below (w.heap.size + 1) (w.alloc (.cells #[.int .i64 W, .int .i64 H, .slice a n c, .slice la ln lc, .int .i64 x] 48)) X) => hL.below (HTR.out X hX) (Nat.le_refl _))
  clear h hb0 hL
  obtain ⟨hc, hf, hl, hn', hm⟩ := kw_rules HB.out hNW
  go_enter Tryd.func7, Tryd.ntmps7
  go_wp2_with (go_at_call 23; (with_reducible refine (heavy9_as true W H a n c _ ln lc _ _ (by omega) (by omega) HV).mono ?_); rintro e z ⟨rfl, hb⟩; replace HB := Hk.mk (kw_step HB.out hNW hb); clear hb; clear hc hf hl hn' hm; obtain ⟨hc, hf, hl, hn', hm⟩ := kw_rules HB.out hNW)
  go_ret
  exact ⟨rfl, HTR.out _ HB.out⟩
set_option maxRecDepth 100000 in
set_option maxHeartbeats 1600000 in
theorem clearSquares_yes (W H : Int) (a : Option Addr) (n c : Nat) (xs : List Int) (la : Option Addr) (ln lc : Nat) (bs : List Bd) (cl : Nat) (w : World) (hL : LC w) (h : By w w.heap.size a n xs) (hb0 : Bq w w.heap.size la ln bs) (hn : n ≤ 700) (hln : ln ≤ 30) (hlc : ln ≤ lc) (HV : Hk (gtP n ln = false)) (hc3 : cl < 3) (MM : Hk (MOk W H n xs bs)) :
    Calls Tryd.prog 7 #[.agg #[.int .i64 W, .int .i64 H, .slice a n c, .slice la ln lc, .int .i64 cl]] w fun e w' => e = .returned (.bool true) ∧ Below w.heap.size w w' := by
  have M9 : Hk (MOk W H n xs bs ∧ 0 ≤ (cl : Int) ∧ (cl : Int) ≤ 2) := ⟨⟨MM.out, by omega, by omega⟩⟩
  have HWB : Hk (Below w.heap.size w (w.alloc (.cells #[.int .i64 W, .int .i64 H, .slice a n c, .slice la ln lc, .int .i64 cl] 48))) := ⟨(Below.refl _ _).alloc (Nat.le_refl _) _⟩
  have hNW : w.heap.size + 1 ≤ (w.alloc (.cells #[.int .i64 W, .int .i64 H, .slice a n c, .slice la ln lc, .int .i64 cl] 48)).heap.size := by simp
  have HB : Hk (Below (w.heap.size + 1) (w.alloc (.cells #[.int .i64 W, .int .i64 H, .slice a n c, .slice la ln lc, .int .i64 cl] 48)) (w.alloc (.cells #[.int .i64 W, .int .i64 H, .slice a n c, .slice la ln lc, .int .i64 cl] 48))) := ⟨Below.refl _ _⟩
  have HTR : Hk (∀ X, Below (w.heap.size + 1) (w.alloc (.cells #[.int .i64 W, .int .i64 H, .slice a n c, .slice la ln lc, .int .i64 cl] 48)) X → Below w.heap.size w X) := ⟨fun X hX => HWB.out.trans (hX.mono (by omega))⟩
  have HBY := Hk.mk (fun (X : World) (hX : Below (w.heap.size + 1) (w.alloc (.cells #[.int .i64 W, .int .i64 H, .slice a n c, .slice la ln lc, .int .i64 cl] 48)) X) => h.below (HTR.out X hX) (Nat.le_refl _))
  have HBQ := Hk.mk (fun (X : World) (hX : Below (w.heap.size + 1) (w.alloc (.cells #[.int .i64 W, .int .i64 H, .slice a n c, .slice la ln lc, .int .i64 cl] 48)) X) => hb0.below (HTR.out X hX) (Nat.le_refl _))
  have HLC := Hk.mk (fun (X : World) (hX : Below (w.heap.size + 1) (w.alloc (.cells #[.int .i64 W, .int .i64 H, .slice a n c, .slice la ln lc, .int .i64 cl] 48)) X) => hL.below (HTR.out X hX) (Nat.le_refl _))
  clear h hb0 hL
  obtain ⟨hc, hf, hl, hn', hm⟩ := kw_rules HB.out hNW
  have w1 := MM.out.g.w1; have w2 := MM.out.g.w2; have h1 := MM.out.g.h1; have h2 := MM.out.g.h2
  have HNN := Hk.mk MM.out.g.nn
  go_enter Tryd.func7, Tryd.ntmps7
  go_wp2_with (first
    | (go_at_call 23; (with_reducible refine (heavy9_as false W H a n c _ ln lc _ _ (by omega) (by omega) HV).mono ?_); rintro e z ⟨rfl, hb⟩; replace HB := Hk.mk (kw_step HB.out hNW hb); clear hb; clear hc hf hl hn' hm; obtain ⟨hc, hf, hl, hn', hm⟩ := kw_rules HB.out hNW)
    | (go_at_call 32; (refine (grid_yes W H a n c xs la ln lc bs _ ?_ ?_ (by omega) (by omega) cl (HLC.out _ HB.out) hc3 MM).mono ?_); (exact (HBY.out _ HB.out).mono (hsz1 HB.out)); (exact (HBQ.out _ HB.out).mono (hsz1 HB.out)); rintro e z ⟨I, rfl, hg2, hA1, hb⟩; have HA1 := Hk.mk hA1; have HI : Hk (w.heap.size + 1 ≤ I) := ⟨by have := kw_size HB.out hNW; omega⟩; clear hA1 hg2; replace HB := Hk.mk (kw_step HB.out hNW hb); clear hb; clear hc hf hl hn' hm; obtain ⟨hc, hf, hl, hn', hm⟩ := kw_rules HB.out hNW)
    | (go_at_call 26; (refine (open_yes W H a n c xs la ln lc bs _ ?_ ?_ (by omega) (by omega) cl (HLC.out _ HB.out) hc3 MM).mono ?_); (exact (HBY.out _ HB.out).mono (hsz1 HB.out)); (exact (HBQ.out _ HB.out).mono (hsz1 HB.out)); rintro e z ⟨J, rfl, hg2, hA2, hb⟩; replace HA1 := Hk.mk (HA1.out.later hb); have HA2 := Hk.mk hA2; clear hA2 hg2; replace HB := Hk.mk (kw_step HB.out hNW hb); clear hb; clear hc hf hl hn' hm; obtain ⟨hc, hf, hl, hn', hm⟩ := kw_rules HB.out hNW)
    | (go_at_call 27; (with_reducible refine (num9_any _ _).mono ?_); rintro e z ⟨rfl, rfl⟩))
  clear hc hf hl hn' hm
  have HA1 := HA1; have HA2 := HA2
  have hwz : w.heap.size < z.heap.size := by have := HB.out.size; simp at this; omega
  have D0 : z.cell? ⟨w.heap.size, 0, none⟩ = some (.int .i64 W) := by rw [HB.out.cell (p := ⟨w.heap.size, 0, none⟩) (by show w.heap.size < _; omega)]; go_simp
  have D1 : z.cell? ⟨w.heap.size, 1, none⟩ = some (.int .i64 H) := by rw [HB.out.cell (p := ⟨w.heap.size, 1, none⟩) (by show w.heap.size < _; omega)]; go_simp
  have D2 : z.cell? ⟨w.heap.size, 2, none⟩ = some (.slice a n c) := by rw [HB.out.cell (p := ⟨w.heap.size, 2, none⟩) (by show w.heap.size < _; omega)]; go_simp
  have HZ := Hk.mk (fun (X : World) (hX : Below z.heap.size z X) => HB.out.trans (hX.mono (kw_size HB.out hNW)))
  have HBZ : Hk (Below z.heap.size z z) := ⟨Below.refl _ _⟩
  have hIz : I < z.heap.size := HA1.out.lt
  have hJz : J < z.heap.size := HA2.out.lt
  obtain ⟨zz, rfl⟩ : ∃ zz : World, zz = z := ⟨z, rfl⟩
  clear HB
  go_loopw [7] (fun s wr => ∃ t : Nat, s = .int .i64 t ∧ t ≤ n ∧ Hk (Below zz.heap.size zz wr)) (fun s _ => n - (intOf s).toNat)
  case atStart => exact ⟨0, rfl, Nat.zero_le _, HBZ⟩
  case round =>
    clear HBZ
    obtain ⟨t, rfl, ht, HB⟩ := hrel
    by_cases hlt : t < n
    · have t0 : (0 : Int) ≤ (t : Int) := by omega
      have t1 : (t : Int) < (n : Int) := by omega
      have HAt := Hk.mk (at_of (H := H) (n := n) w1 HNN.out hlt)
      obtain ⟨x, hx⟩ : ∃ x, (t : Int) % W = x := ⟨_, rfl⟩
      obtain ⟨y, hy⟩ : ∃ y, (t : Int) / W = y := ⟨_, rfl⟩
      rw [hx, hy] at HAt
      have tm : (t : Int).tmod W = x := by rw [← hx]; exact Int.tmod_eq_emod_of_nonneg (by omega)
      have td : (t : Int).tdiv W = y := by rw [← hy]; exact Int.tdiv_eq_ediv_of_nonneg (by omega)
      have x0 := HAt.out.x0; have x1 := HAt.out.x1; have y0 := HAt.out.y0; have y1 := HAt.out.y1
      have hW0 : ¬ W = 0 := by omega
      have c1 := HA1.out.cell hlt
      obtain ⟨s, hs⟩ : ∃ s, sC W H (opn W xs bs cl) t = s := ⟨_, rfl⟩
      rw [hs] at c1
      have s128 : s ≤ 128 := by rw [← hs]; unfold sC; exact sV_le _ _
      have HS := Hk.mk hs
      have E1 : Hk (sqB (opXY W H (opn W xs bs cl)) s x y = true) := ⟨by have := (sqT_sC (H := H) (f := (opn W xs bs cl)) w2 s t).2 (by omega); unfold sqT at this; rw [hx, hy] at this; exact this⟩
      have E2 : Hk (sqB (opXY W H (opn W xs bs cl)) (s + 1) x y = false) := ⟨by
        cases q : sqB (opXY W H (opn W xs bs cl)) (s + 1) x y
        · rfl
        · have := (sqT_sC (H := H) (f := (opn W xs bs cl)) w2 (s + 1) t).1 (by unfold sqT; rw [hx, hy]; exact q)
          omega⟩
      clear hs
      have dd1 : decide ((s : Int) < 0) = false := by simp
      have dd2 : decide ((128 : Int) < (s : Int)) = false := by simp; omega
      obtain ⟨hc, hf, hl, hn', hm⟩ := kw_rules HB.out (Nat.le_refl _)
      go_wp2_with fail
      go_quiet (fail)
      go_wp2_with fail
      clear tm td hx hy
      have ws : IntKind.i64.wrap ((s : Int) - 1) = (s : Int) - 1 := by rw [IntKind.wrap_i64]; omega
      refine wp_region_held_drew (S := (fun X => (∀ b o, b < zz.heap.size → X.cell? ⟨b, o, none⟩ = zz.cell? ⟨b, o, none⟩) ∧ Below zz.heap.size zz X)) (by kernel_rfl) ?_ (fun hHeld => ?_)
      · exact kw_S (kw_drew (below_drewN HB.out _))
      refine wpAnyH_take (i := 0) (v := ?_) rfl (by kernel_rfl) (by kernel_rfl) (by kernel_rfl) (fun _ _ _ h => h) (Or.inl ⟨by rfl, fun wX hSw => ?_⟩) (by assumption) ?_
      rotate_left
      · (try dsimp only at hSw); go_simp; try with_reducible rfl
      (try simp only [Act.put, List.getElem_toArray, List.getElem_cons_succ, List.getElem_cons_zero, List.setIfInBounds_toArray, List.set_cons_zero, List.set_cons_succ])
      refine wpAnyH_take (i := 1) (v := ?_) rfl (by kernel_rfl) (by kernel_rfl) (by kernel_rfl) (fun _ _ _ h => h) (Or.inl ⟨by rfl, fun wX hSw => ?_⟩) (by assumption) ?_
      rotate_left
      · (try dsimp only at hSw); go_simp; try with_reducible rfl
      (try simp only [Act.put, List.getElem_toArray, List.getElem_cons_succ, List.getElem_cons_zero, List.setIfInBounds_toArray, List.set_cons_zero, List.set_cons_succ])
      refine wpAnyH_take (i := 2) (v := ?_) rfl (by kernel_rfl) (by kernel_rfl) (by kernel_rfl) (fun _ _ _ h => h) (Or.inl ⟨by rfl, fun wX hSw => ?_⟩) (by assumption) ?_
      rotate_left
      · (try dsimp only at hSw); go_simp; try with_reducible rfl
      (try simp only [Act.put, List.getElem_toArray, List.getElem_cons_succ, List.getElem_cons_zero, List.setIfInBounds_toArray, List.set_cons_zero, List.set_cons_succ])
      refine wpAnyH_take (i := 3) (v := ?_) rfl (by kernel_rfl) (by kernel_rfl) (by kernel_rfl) (fun _ _ _ h => h) (Or.inl ⟨by rfl, fun wX hSw => ?_⟩) (by assumption) ?_
      rotate_left
      · (try dsimp only at hSw); go_simp; try with_reducible rfl
      (try simp only [Act.put, List.getElem_toArray, List.getElem_cons_succ, List.getElem_cons_zero, List.setIfInBounds_toArray, List.set_cons_zero, List.set_cons_succ])
      refine wpAnyH_take (i := 4) (v := ?_) rfl (by kernel_rfl) (by kernel_rfl) (by kernel_rfl) (fun _ _ _ h => h) (Or.inl ⟨by rfl, fun wX hSw => ?_⟩) (by assumption) ?_
      rotate_left
      · (try dsimp only at hSw); go_simp; try with_reducible rfl
      (try simp only [Act.put, List.getElem_toArray, List.getElem_cons_succ, List.getElem_cons_zero, List.setIfInBounds_toArray, List.set_cons_zero, List.set_cons_succ])
      refine wpAnyH_take (i := 5) (v := ?_) rfl (by kernel_rfl) (by kernel_rfl) (by kernel_rfl) (fun _ _ _ h => h) (Or.inl ⟨by rfl, fun wX hSw => ?_⟩) (by assumption) ?_
      rotate_left
      · (try dsimp only at hSw); go_simp; try with_reducible rfl
      (try simp only [Act.put, List.getElem_toArray, List.getElem_cons_succ, List.getElem_cons_zero, List.setIfInBounds_toArray, List.set_cons_zero, List.set_cons_succ])
      refine wpAnyH_take (i := 6) (v := ?_) rfl (by kernel_rfl) (by kernel_rfl) (by kernel_rfl) (fun _ _ _ h => h) (Or.inl ⟨by rfl, fun wX hSw => ?_⟩) (by assumption) ?_
      rotate_left
      · (try dsimp only at hSw); go_simp; try with_reducible rfl
      (try simp only [Act.put, List.getElem_toArray, List.getElem_cons_succ, List.getElem_cons_zero, List.setIfInBounds_toArray, List.set_cons_zero, List.set_cons_succ])
      refine wpAnyH_take (i := 7) (v := ?_) rfl (by kernel_rfl) (by kernel_rfl) (by kernel_rfl) (fun _ _ _ h => h) (Or.inl ⟨by rfl, fun wX hSw => ?_⟩) (by assumption) ?_
      rotate_left
      · (try dsimp only at hSw); go_simp; try with_reducible rfl
      (try simp only [Act.put, List.getElem_toArray, List.getElem_cons_succ, List.getElem_cons_zero, List.setIfInBounds_toArray, List.set_cons_zero, List.set_cons_succ])
      refine wpAnyH_take (i := 8) (v := ?_) rfl (by kernel_rfl) (by kernel_rfl) (by kernel_rfl) (fun _ _ _ h => h) (Or.inl ⟨by rfl, fun wX hSw => ?_⟩) (by assumption) ?_
      rotate_left
      · (try dsimp only at hSw); go_simp; try with_reducible rfl
      (try simp only [Act.put, List.getElem_toArray, List.getElem_cons_succ, List.getElem_cons_zero, List.setIfInBounds_toArray, List.set_cons_zero, List.set_cons_succ])
      refine wpAnyH_take (i := 9) (v := ?_) rfl (by kernel_rfl) (by kernel_rfl) (by kernel_rfl) (fun _ _ _ h => h) (Or.inl ⟨by rfl, fun wX hSw => ?_⟩) (by assumption) ?_
      rotate_left
      · (try dsimp only at hSw); go_simp; try with_reducible rfl
      (try simp only [Act.put, List.getElem_toArray, List.getElem_cons_succ, List.getElem_cons_zero, List.setIfInBounds_toArray, List.set_cons_zero, List.set_cons_succ])
      refine wpAnyH_take (i := 10) (v := ?_) rfl (by kernel_rfl) (by kernel_rfl) (by kernel_rfl) (fun _ _ _ h => h) (Or.inl ⟨by rfl, fun wX hSw => ?_⟩) (by assumption) ?_
      rotate_left
      · (try dsimp only at hSw); go_simp; try with_reducible rfl
      (try simp only [Act.put, List.getElem_toArray, List.getElem_cons_succ, List.getElem_cons_zero, List.setIfInBounds_toArray, List.set_cons_zero, List.set_cons_succ])
      refine wpAnyH_take (i := 11) (v := ?_) rfl (by kernel_rfl) (by kernel_rfl) (by kernel_rfl) (fun _ _ _ h => h) (Or.inl ⟨by rfl, fun wX hSw => ?_⟩) (by assumption) ?_
      rotate_left
      · (try dsimp only at hSw); go_simp; try with_reducible rfl
      (try simp only [Act.put, List.getElem_toArray, List.getElem_cons_succ, List.getElem_cons_zero, List.setIfInBounds_toArray, List.set_cons_zero, List.set_cons_succ])
      refine wpAnyH_take (i := 12) (v := ?_) rfl (by kernel_rfl) (by kernel_rfl) (by kernel_rfl) (fun _ _ _ h => h) (Or.inl ⟨by rfl, fun wX hSw => ?_⟩) (by assumption) ?_
      rotate_left
      · (try dsimp only at hSw); go_simp; try with_reducible rfl
      (try simp only [Act.put, List.getElem_toArray, List.getElem_cons_succ, List.getElem_cons_zero, List.setIfInBounds_toArray, List.set_cons_zero, List.set_cons_succ])
      refine wpAnyH_take (i := 13) (v := ?_) rfl (by kernel_rfl) (by kernel_rfl) (by kernel_rfl) (fun _ _ _ h => h) (Or.inl ⟨by rfl, fun wX hSw => ?_⟩) (by assumption) ?_
      rotate_left
      · (try dsimp only at hSw); go_simp; try with_reducible rfl
      (try simp only [Act.put, List.getElem_toArray, List.getElem_cons_succ, List.getElem_cons_zero, List.setIfInBounds_toArray, List.set_cons_zero, List.set_cons_succ])
      refine wpAnyH_take (i := 14) (v := ?_) rfl (by kernel_rfl) (by kernel_rfl) (by kernel_rfl) (fun _ _ _ h => h) (Or.inl ⟨by rfl, fun wX hSw => ?_⟩) (by assumption) ?_
      rotate_left
      · (try dsimp only at hSw); go_simp; try with_reducible rfl
      (try simp only [Act.put, List.getElem_toArray, List.getElem_cons_succ, List.getElem_cons_zero, List.setIfInBounds_toArray, List.set_cons_zero, List.set_cons_succ])
      refine wpAnyH_take (i := 15) (v := ?_) rfl (by kernel_rfl) (by kernel_rfl) (by kernel_rfl) (fun _ _ _ h => h) (Or.inl ⟨by rfl, fun wX hSw => ?_⟩) (by assumption) ?_
      rotate_left
      · (try dsimp only at hSw); go_simp; try with_reducible rfl
      (try simp only [Act.put, List.getElem_toArray, List.getElem_cons_succ, List.getElem_cons_zero, List.setIfInBounds_toArray, List.set_cons_zero, List.set_cons_succ])
      refine wpAnyH_take (i := 16) (v := ?_) rfl (by kernel_rfl) (by kernel_rfl) (by kernel_rfl) (fun _ _ _ h => h) (Or.inl ⟨by rfl, fun wX hSw => ?_⟩) (by assumption) ?_
      rotate_left
      · (try dsimp only at hSw); go_simp; try with_reducible rfl
      (try simp only [Act.put, List.getElem_toArray, List.getElem_cons_succ, List.getElem_cons_zero, List.setIfInBounds_toArray, List.set_cons_zero, List.set_cons_succ])
      refine wpAnyH_take (i := 17) (v := ?_) rfl (by kernel_rfl) (by kernel_rfl) (by kernel_rfl) (fun _ _ _ h => h) (Or.inl ⟨by rfl, fun wX hSw => ?_⟩) (by assumption) ?_
      rotate_left
      · (try dsimp only at hSw); go_simp; try with_reducible rfl
      (try simp only [Act.put, List.getElem_toArray, List.getElem_cons_succ, List.getElem_cons_zero, List.setIfInBounds_toArray, List.set_cons_zero, List.set_cons_succ])
      refine wpAnyH_take (i := 18) (v := ?_) rfl (by kernel_rfl) (by kernel_rfl) (by kernel_rfl) (fun _ _ _ h => h) (Or.inl ⟨by rfl, fun wX hSw => ?_⟩) (by assumption) ?_
      rotate_left
      · (try dsimp only at hSw); go_simp; try with_reducible rfl
      (try simp only [Act.put, List.getElem_toArray, List.getElem_cons_succ, List.getElem_cons_zero, List.setIfInBounds_toArray, List.set_cons_zero, List.set_cons_succ])
      refine wpAnyH_take (i := 19) (v := ?_) rfl (by kernel_rfl) (by kernel_rfl) (by kernel_rfl) (fun _ _ _ h => h) (Or.inl ⟨by rfl, fun wX hSw => ?_⟩) (by assumption) ?_
      rotate_left
      · (try dsimp only at hSw); go_simp; try with_reducible rfl
      (try simp only [Act.put, List.getElem_toArray, List.getElem_cons_succ, List.getElem_cons_zero, List.setIfInBounds_toArray, List.set_cons_zero, List.set_cons_succ])
      refine wpAnyH_take (i := 20) (v := ?_) rfl (by kernel_rfl) (by kernel_rfl) (by kernel_rfl) (fun _ _ _ h => h) (Or.inl ⟨by rfl, fun wX hSw => ?_⟩) (by assumption) ?_
      rotate_left
      · (try dsimp only at hSw); go_simp; try with_reducible rfl
      (try simp only [Act.put, List.getElem_toArray, List.getElem_cons_succ, List.getElem_cons_zero, List.setIfInBounds_toArray, List.set_cons_zero, List.set_cons_succ])
      refine wpAnyH_take (i := 21) (v := ?_) rfl (by kernel_rfl) (by kernel_rfl) (by kernel_rfl) (fun _ _ _ h => h) (Or.inl ⟨by rfl, fun wX hSw => ?_⟩) (by assumption) ?_
      rotate_left
      · (try dsimp only at hSw); go_simp; try with_reducible rfl
      (try simp only [Act.put, List.getElem_toArray, List.getElem_cons_succ, List.getElem_cons_zero, List.setIfInBounds_toArray, List.set_cons_zero, List.set_cons_succ])
      refine wpAnyH_take (i := 22) (v := ?_) rfl (by kernel_rfl) (by kernel_rfl) (by kernel_rfl) (fun _ _ _ h => h) (Or.inl ⟨by rfl, fun wX hSw => ?_⟩) (by assumption) ?_
      rotate_left
      · (try dsimp only at hSw); go_simp; try with_reducible rfl
      (try simp only [Act.put, List.getElem_toArray, List.getElem_cons_succ, List.getElem_cons_zero, List.setIfInBounds_toArray, List.set_cons_zero, List.set_cons_succ])
      refine wpAnyH_ready (rs := [23]) (by kernel_rfl) (by simp) ?_
      refine AllReadyH.cons rfl (fun K hK => ?_) (AllReadyH.nil)
      go_simp
      (first | (go_at_call 35; (with_reducible refine (full_as true s W H a n c J (opn W xs bs cl) x y ((s : Int) - 1) _ w1 w2 h1 h2 HNN ?_ x0 x1 y0 y1 (by omega) ⟨rfl⟩ E1).mono ?_); (first | exact ⟨HA2.out.later HB.out⟩ | exact ⟨HA2.out.later (below_drewN HB.out _)⟩); rintro e z5 ⟨rfl, hb⟩; have hB2 : Hk (Below zz.heap.size zz z5) := ⟨by first | exact kw_step HB.out (Nat.le_refl _) hb | exact kw_step (below_drewN HB.out _) (Nat.le_refl _) hb⟩; clear hb; replace HB := hB2; clear hB2; clear hc hf hl hn' hm; obtain ⟨hc, hf, hl, hn', hm⟩ := kw_rules HB.out (Nat.le_refl _)) | (go_at_call 35; (with_reducible refine (full_as false (s + 1) W H a n c J (opn W xs bs cl) x y (s : Int) _ w1 w2 h1 h2 HNN ?_ x0 x1 y0 y1 (by omega) ⟨by omega⟩ E2).mono ?_); (first | exact ⟨HA2.out.later HB.out⟩ | exact ⟨HA2.out.later (below_drewN HB.out _)⟩); rintro e z5 ⟨rfl, hb⟩; have hB2 : Hk (Below zz.heap.size zz z5) := ⟨by first | exact kw_step HB.out (Nat.le_refl _) hb | exact kw_step (below_drewN HB.out _) (Nat.le_refl _) hb⟩; clear hb; replace HB := hB2; clear hB2; clear hc hf hl hn' hm; obtain ⟨hc, hf, hl, hn', hm⟩ := kw_rules HB.out (Nat.le_refl _)))
      refine hK.out _ _ ?_ (fun hHeld => ?_)
      · exact kw_S HB.out
      clear hK K
      (try simp only [Act.put, List.getElem_toArray, List.getElem_cons_succ, List.getElem_cons_zero, List.setIfInBounds_toArray, List.set_cons_zero, List.set_cons_succ])
      refine wpAnyH_take (i := 24) (v := ?_) rfl (by kernel_rfl) (by kernel_rfl) (by kernel_rfl) (fun _ _ _ h => h) (Or.inl ⟨by rfl, fun wX hSw => ?_⟩) (by assumption) ?_
      rotate_left
      · (try dsimp only at hSw); go_simp; try with_reducible rfl
      (try simp only [Act.put, List.getElem_toArray, List.getElem_cons_succ, List.getElem_cons_zero, List.setIfInBounds_toArray, List.set_cons_zero, List.set_cons_succ])
      refine wpAnyH_take (i := 25) (v := ?_) rfl (by kernel_rfl) (by kernel_rfl) (by kernel_rfl) (fun _ _ _ h => h) (Or.inl ⟨by rfl, fun wX hSw => ?_⟩) (by assumption) ?_
      rotate_left
      · (try dsimp only at hSw); go_simp; try with_reducible rfl
      (try simp only [Act.put, List.getElem_toArray, List.getElem_cons_succ, List.getElem_cons_zero, List.setIfInBounds_toArray, List.set_cons_zero, List.set_cons_succ])
      refine wpAnyH_take (i := 26) (v := ?_) rfl (by kernel_rfl) (by kernel_rfl) (by kernel_rfl) (fun _ _ _ h => h) (Or.inl ⟨by rfl, fun wX hSw => ?_⟩) (by assumption) ?_
      rotate_left
      · (try dsimp only at hSw); go_simp; try with_reducible rfl
      (try simp only [Act.put, List.getElem_toArray, List.getElem_cons_succ, List.getElem_cons_zero, List.setIfInBounds_toArray, List.set_cons_zero, List.set_cons_succ])
      refine wpAnyH_take (i := 27) (v := ?_) rfl (by kernel_rfl) (by kernel_rfl) (by kernel_rfl) (fun _ _ _ h => h) (Or.inl ⟨by rfl, fun wX hSw => ?_⟩) (by assumption) ?_
      rotate_left
      · (try dsimp only at hSw); go_simp; try with_reducible rfl
      (try simp only [Act.put, List.getElem_toArray, List.getElem_cons_succ, List.getElem_cons_zero, List.setIfInBounds_toArray, List.set_cons_zero, List.set_cons_succ])
      refine wpAnyH_take (i := 28) (v := ?_) rfl (by kernel_rfl) (by kernel_rfl) (by kernel_rfl) (fun _ _ _ h => h) (Or.inl ⟨by rfl, fun wX hSw => ?_⟩) (by assumption) ?_
      rotate_left
      · (try dsimp only at hSw); go_simp; try with_reducible rfl
      (try simp only [Act.put, List.getElem_toArray, List.getElem_cons_succ, List.getElem_cons_zero, List.setIfInBounds_toArray, List.set_cons_zero, List.set_cons_succ])
      refine wpAnyH_take (i := 29) (v := ?_) rfl (by kernel_rfl) (by kernel_rfl) (by kernel_rfl) (fun _ _ _ h => h) (Or.inl ⟨by rfl, fun wX hSw => ?_⟩) (by assumption) ?_
      rotate_left
      · (try dsimp only at hSw); go_simp; try with_reducible rfl
      (try simp only [Act.put, List.getElem_toArray, List.getElem_cons_succ, List.getElem_cons_zero, List.setIfInBounds_toArray, List.set_cons_zero, List.set_cons_succ])
      refine wpAnyH_take (i := 30) (v := ?_) rfl (by kernel_rfl) (by kernel_rfl) (by kernel_rfl) (fun _ _ _ h => h) (Or.inl ⟨by rfl, fun wX hSw => ?_⟩) (by assumption) ?_
      rotate_left
      · (try dsimp only at hSw); go_simp; try with_reducible rfl
      (try simp only [Act.put, List.getElem_toArray, List.getElem_cons_succ, List.getElem_cons_zero, List.setIfInBounds_toArray, List.set_cons_zero, List.set_cons_succ])
      refine wpAnyH_take (i := 31) (v := ?_) rfl (by kernel_rfl) (by kernel_rfl) (by kernel_rfl) (fun _ _ _ h => h) (Or.inl ⟨by rfl, fun wX hSw => ?_⟩) (by assumption) ?_
      rotate_left
      · (try dsimp only at hSw); go_simp; try with_reducible rfl
      (try simp only [Act.put, List.getElem_toArray, List.getElem_cons_succ, List.getElem_cons_zero, List.setIfInBounds_toArray, List.set_cons_zero, List.set_cons_succ])
      refine wpAnyH_take (i := 32) (v := ?_) rfl (by kernel_rfl) (by kernel_rfl) (by kernel_rfl) (fun _ _ _ h => h) (Or.inl ⟨by rfl, fun wX hSw => ?_⟩) (by assumption) ?_
      rotate_left
      · (try dsimp only at hSw); go_simp; try with_reducible rfl
      (try simp only [Act.put, List.getElem_toArray, List.getElem_cons_succ, List.getElem_cons_zero, List.setIfInBounds_toArray, List.set_cons_zero, List.set_cons_succ])
      refine wpAnyH_take (i := 33) (v := ?_) rfl (by kernel_rfl) (by kernel_rfl) (by kernel_rfl) (fun _ _ _ h => h) (Or.inl ⟨by rfl, fun wX hSw => ?_⟩) (by assumption) ?_
      rotate_left
      · (try dsimp only at hSw); go_simp; try with_reducible rfl
      (try simp only [Act.put, List.getElem_toArray, List.getElem_cons_succ, List.getElem_cons_zero, List.setIfInBounds_toArray, List.set_cons_zero, List.set_cons_succ])
      refine wpAnyH_take (i := 34) (v := ?_) rfl (by kernel_rfl) (by kernel_rfl) (by kernel_rfl) (fun _ _ _ h => h) (Or.inl ⟨by rfl, fun wX hSw => ?_⟩) (by assumption) ?_
      rotate_left
      · (try dsimp only at hSw); go_simp; try with_reducible rfl
      (try simp only [Act.put, List.getElem_toArray, List.getElem_cons_succ, List.getElem_cons_zero, List.setIfInBounds_toArray, List.set_cons_zero, List.set_cons_succ])
      refine wpAnyH_take (i := 35) (v := ?_) rfl (by kernel_rfl) (by kernel_rfl) (by kernel_rfl) (fun _ _ _ h => h) (Or.inl ⟨by rfl, fun wX hSw => ?_⟩) (by assumption) ?_
      rotate_left
      · (try dsimp only at hSw); go_simp; try with_reducible rfl
      (try simp only [Act.put, List.getElem_toArray, List.getElem_cons_succ, List.getElem_cons_zero, List.setIfInBounds_toArray, List.set_cons_zero, List.set_cons_succ])
      refine wpAnyH_ready (rs := [36]) (by kernel_rfl) (by simp) ?_
      refine AllReadyH.cons rfl (fun K hK => ?_) (AllReadyH.nil)
      go_simp
      (first | (go_at_call 35; (with_reducible refine (full_as true s W H a n c J (opn W xs bs cl) x y ((s : Int) - 1) _ w1 w2 h1 h2 HNN ?_ x0 x1 y0 y1 (by omega) ⟨rfl⟩ E1).mono ?_); (first | exact ⟨HA2.out.later HB.out⟩ | exact ⟨HA2.out.later (below_drewN HB.out _)⟩); rintro e z5 ⟨rfl, hb⟩; have hB2 : Hk (Below zz.heap.size zz z5) := ⟨by first | exact kw_step HB.out (Nat.le_refl _) hb | exact kw_step (below_drewN HB.out _) (Nat.le_refl _) hb⟩; clear hb; replace HB := hB2; clear hB2; clear hc hf hl hn' hm; obtain ⟨hc, hf, hl, hn', hm⟩ := kw_rules HB.out (Nat.le_refl _)) | (go_at_call 35; (with_reducible refine (full_as false (s + 1) W H a n c J (opn W xs bs cl) x y (s : Int) _ w1 w2 h1 h2 HNN ?_ x0 x1 y0 y1 (by omega) ⟨by omega⟩ E2).mono ?_); (first | exact ⟨HA2.out.later HB.out⟩ | exact ⟨HA2.out.later (below_drewN HB.out _)⟩); rintro e z5 ⟨rfl, hb⟩; have hB2 : Hk (Below zz.heap.size zz z5) := ⟨by first | exact kw_step HB.out (Nat.le_refl _) hb | exact kw_step (below_drewN HB.out _) (Nat.le_refl _) hb⟩; clear hb; replace HB := hB2; clear hB2; clear hc hf hl hn' hm; obtain ⟨hc, hf, hl, hn', hm⟩ := kw_rules HB.out (Nat.le_refl _)))
      refine hK.out _ _ ?_ (fun hHeld => ?_)
      · exact kw_S HB.out
      clear hK K
      (try simp only [Act.put, List.getElem_toArray, List.getElem_cons_succ, List.getElem_cons_zero, List.setIfInBounds_toArray, List.set_cons_zero, List.set_cons_succ])
      refine wpAnyH_take (i := 37) (v := ?_) rfl (by kernel_rfl) (by kernel_rfl) (by kernel_rfl) (fun _ _ _ h => h) (Or.inl ⟨by rfl, fun wX hSw => ?_⟩) (by assumption) ?_
      rotate_left
      · (try dsimp only at hSw); go_simp; try with_reducible rfl
      (try simp only [Act.put, List.getElem_toArray, List.getElem_cons_succ, List.getElem_cons_zero, List.setIfInBounds_toArray, List.set_cons_zero, List.set_cons_succ])
      refine wpAnyH_done (by kernel_rfl) ?_ _
      go_wp2_with (go_at_call 36; (with_reducible refine (rnear_q W H t (.slice a n c) _ w1 w2 h1 h2 t0 (by omega)).mono ?_); rintro e z6 ⟨gn, cn, rfl, hnq, hb⟩; have HNQ := Hk.mk hnq; clear hnq; replace HB := Hk.mk (kw_step HB.out (Nat.le_refl _) hb); clear hb)
      clear hc hf hl hn' hm D0 D1 D2
      obtain ⟨bb, oo, hbo, hbl, hnear⟩ := HNQ.out.rd (by omega)
      simp only [Option.some.injEq, Addr.mk.injEq] at hbo
      obtain ⟨rfl, rfl, -⟩ := hbo
      have HNR : Hk (∀ k, k < 8 → z6.cell? ⟨gn, k, none⟩ = some (.int .i64 (nb W H t k))) := ⟨fun k hk => by
        have := hnear k hk
        rw [Nat.zero_add, nb_getD W H t k hk] at this
        exact this⟩
      clear hnear HNQ
      have HA6 := Hk.mk (HA1.out.below HB.out hIz)
      have hI6 : I < z6.heap.size := HA6.out.lt
      have c6 := HA6.out.cell hlt
      rw [HS.out] at c6
      have HT : Hk (∀ X, Below z6.heap.size z6 X → Below zz.heap.size zz X) := ⟨fun X hX => kw_step HB.out (Nat.le_refl _) hX⟩
      clear HB
      go_loopw [11] (fun s wr => ∃ i : Nat, s = .int .i64 i ∧ i ≤ 8 ∧ Hk (Below z6.heap.size z6 wr)) (fun s _ => 8 - (intOf s).toNat)
      case atStart => exact ⟨0, rfl, by omega, ⟨Below.refl _ _⟩⟩
      case round =>
        obtain ⟨i, rfl, hi8, HB⟩ := hrel
        obtain ⟨hc, hf, hl, hn', hm⟩ := kw_rules HB.out (Nat.le_refl _)
        by_cases hlt8 : i < 8
        · have u0 := HNR.out i hlt8
          have i0' : (0 : Int) ≤ (i : Int) := by omega
          have i1' : (i : Int) < 8 := by omega
          obtain ⟨u, hu⟩ : ∃ u, nb W H t i = u := ⟨_, rfl⟩
          rw [hu] at u0
          by_cases hu0 : 0 ≤ u
          · have hun : u < (n : Int) := by rw [HNN.out]; exact nb_lt w1 hu hu0
            obtain ⟨q, rfl⟩ : ∃ q : Nat, u = q := ⟨u.toNat, by omega⟩
            have hqn : q < n := by omega
            have q6 := HA6.out.cell hqn
            have hd := sC_near (H := H) (f := (opn W xs bs cl)) w1 w2 hlt8 hu
            obtain ⟨v, hv⟩ : ∃ v, sC W H (opn W xs bs cl) q = v := ⟨_, rfl⟩
            rw [hv] at q6
            have v128 : v ≤ 128 := by rw [← hv]; unfold sC; exact sV_le _ _
            rw [hv, HS.out] at hd
            clear hu hv
            have e1 : decide ((0 : Int) ≤ (q : Int)) = true := by simp
            have e2 : decide ((1 : Int) < (v : Int) - (s : Int)) = false := by simp; omega
            have e3 : decide ((1 : Int) < (s : Int) - (v : Int)) = false := by simp; omega
            go_wp2_with fail
            go_quiet (fail)
            go_wp2
            exact ⟨⟨i + 1, by go_num, by omega, ⟨below_drewN HB.out _⟩⟩, by simp [intOf]; omega⟩
          · have e1 : decide ((0 : Int) ≤ u) = false := by simp; omega
            clear hu
            go_wp2_with fail
            go_quiet (fail)
            go_wp2
            exact ⟨⟨i + 1, by go_num, by omega, ⟨below_drewN HB.out _⟩⟩, by simp [intOf]; omega⟩
        · have hi : i = 8 := by omega
          subst hi
          go_wp2
          exact ⟨⟨t + 1, by go_num, by omega, ⟨HT.out _ HB.out⟩⟩, by simp [intOf]; omega⟩
    · have htn : t = n := by omega
      subst htn
      replace HB := Hk.mk (HZ.out _ HB.out)
      obtain ⟨hc, hf, hl, hn', hm⟩ := kw_rules HB.out hNW
      go_wp2_with (go_at_call 30; (with_reducible refine (wakes9_any _ (HLC.out _ HB.out)).mono ?_); rintro e z ⟨rfl, hb⟩; replace HB := Hk.mk (kw_step HB.out hNW hb); clear hb; clear hc hf hl hn' hm; obtain ⟨hc, hf, hl, hn', hm⟩ := kw_rules HB.out hNW)
      go_ret
      exact ⟨rfl, HTR.out _ HB.out⟩
theorem clearSquares_no (W H : Int) (a : Option Addr) (n c : Nat) (xs : List Int) (la : Option Addr) (ln lc : Nat) (bs : List Bd) (x : Int) (w : World) (hL : LC w) (h : By w w.heap.size a n xs) (hb0 : Bq w w.heap.size la ln bs) (hn : n ≤ 700) (hln : ln ≤ 30) (HV : Hk (gtP n ln = false)) (MM : Hk (¬ (MOk W H n xs bs ∧ 0 ≤ x ∧ x ≤ 2))) :
    Calls Tryd.prog 7 #[.agg #[.int .i64 W, .int .i64 H, .slice a n c, .slice la ln lc, .int .i64 x]] w fun e w' => e = .returned (.bool true) ∧ Below w.heap.size w w' := by
  have HWB : Hk (Below w.heap.size w (w.alloc (.cells #[.int .i64 W, .int .i64 H, .slice a n c, .slice la ln lc, .int .i64 x] 48))) := ⟨(Below.refl _ _).alloc (Nat.le_refl _) _⟩
  have hNW : w.heap.size + 1 ≤ (w.alloc (.cells #[.int .i64 W, .int .i64 H, .slice a n c, .slice la ln lc, .int .i64 x] 48)).heap.size := by simp
  have HB : Hk (Below (w.heap.size + 1) (w.alloc (.cells #[.int .i64 W, .int .i64 H, .slice a n c, .slice la ln lc, .int .i64 x] 48)) (w.alloc (.cells #[.int .i64 W, .int .i64 H, .slice a n c, .slice la ln lc, .int .i64 x] 48))) := ⟨Below.refl _ _⟩
  have HTR : Hk (∀ X, Below (w.heap.size + 1) (w.alloc (.cells #[.int .i64 W, .int .i64 H, .slice a n c, .slice la ln lc, .int .i64 x] 48)) X → Below w.heap.size w X) := ⟨fun X hX => HWB.out.trans (hX.mono (by omega))⟩
  have HBY := Hk.mk (fun (X : World) (hX : Below (w.heap.size + 1) (w.alloc (.cells #[.int .i64 W, .int .i64 H, .slice a n c, .slice la ln lc, .int .i64 x] 48)) X) => h.below (HTR.out X hX) (Nat.le_refl _))
  have HBQ := Hk.mk (fun (X : World) (hX : Below (w.heap.size + 1) (w.alloc (.cells #[.int .i64 W, .int .i64 H, .slice a n c, .slice la ln lc, .int .i64 x] 48)) X) => hb0.below (HTR.out X hX) (Nat.le_refl _))
  have HLC := Hk.mk (fun (X : World) (hX : Below (w.heap.size + 1) (w.alloc (.cells #[.int .i64 W, .int .i64 H, .slice a n c, .slice la ln lc, .int .i64 x] 48)) X) => hL.below (HTR.out X hX) (Nat.le_refl _))
  clear h hb0 hL
  obtain ⟨hc, hf, hl, hn', hm⟩ := kw_rules HB.out hNW
  go_enter Tryd.func7, Tryd.ntmps7
  go_wp2_with (first
    | (go_at_call 23; (with_reducible refine (heavy9_as false W H a n c _ ln lc _ _ (by omega) (by omega) HV).mono ?_); rintro e z ⟨rfl, hb⟩; replace HB := Hk.mk (kw_step HB.out hNW hb); clear hb; clear hc hf hl hn' hm; obtain ⟨hc, hf, hl, hn', hm⟩ := kw_rules HB.out hNW)
    | (go_at_call 32; (refine (grid_no W H a n c xs la ln lc bs _ ?_ ?_ (by omega) (by omega) x MM).mono ?_); (exact (HBY.out _ HB.out).mono (hsz1 HB.out)); (exact (HBQ.out _ HB.out).mono (hsz1 HB.out)); rintro e z ⟨rfl, hb⟩; replace HB := Hk.mk (kw_step HB.out hNW hb); clear hb; clear hc hf hl hn' hm; obtain ⟨hc, hf, hl, hn', hm⟩ := kw_rules HB.out hNW)
    | (go_at_call 26; (refine (open_no W H a n c xs la ln lc bs _ ?_ ?_ (by omega) (by omega) x MM).mono ?_); (exact (HBY.out _ HB.out).mono (hsz1 HB.out)); (exact (HBQ.out _ HB.out).mono (hsz1 HB.out)); rintro e z ⟨rfl, hb⟩; replace HB := Hk.mk (kw_step HB.out hNW hb); clear hb; clear hc hf hl hn' hm; obtain ⟨hc, hf, hl, hn', hm⟩ := kw_rules HB.out hNW)
    | (go_at_call 27; (with_reducible refine (num9_any _ _).mono ?_); rintro e z ⟨rfl, rfl⟩)
    | (go_at_call 30; (with_reducible refine (wakes9_any _ (HLC.out _ HB.out)).mono ?_); rintro e z ⟨rfl, hb⟩; replace HB := Hk.mk (kw_step HB.out hNW hb); clear hb; clear hc hf hl hn' hm; obtain ⟨hc, hf, hl, hn', hm⟩ := kw_rules HB.out hNW))
  go_ret
  exact ⟨rfl, HTR.out _ HB.out⟩
theorem clearSquares_walk (v : Value) (w : World) (hL : LC w) (rows : Asks9 w v) :
    Calls Tryd.prog 7 #[v] w fun e w' => e = .returned (.bool true) ∧ Below w.heap.size w w' := by
  obtain ⟨W, H, a, n, c, xs, la, ln, lc, bs, x, rfl, hW, hH, hx, hn, hlc, hcc, hby, hbq, hi⟩ := rows
  by_cases g : gtP n ln = true
  · exact clearSquares_big W H a n c xs la ln lc bs x w hL hby hbq hn (by omega) ⟨g⟩
  · have g' : gtP n ln = false := by simpa using g
    have hs : n ≤ 700 ∧ ln ≤ 30 := by unfold gtP at g'; simp at g'; exact g'
    by_cases M : MOk W H n xs bs ∧ 0 ≤ x ∧ x ≤ 2
    · obtain ⟨cl, rfl⟩ : ∃ cl : Nat, x = cl := ⟨x.toNat, by omega⟩
      exact clearSquares_yes W H a n c xs la ln lc bs cl w hL hby hbq hs.1 hs.2 hlc ⟨g'⟩ (by omega) ⟨M.1⟩
    · exact clearSquares_no W H a n c xs la ln lc bs x w hL hby hbq hs.1 hs.2 ⟨g'⟩ ⟨M⟩

theorem clearSquares_own : ownKnob Tryd.prog.godebug = none := by kernel_rfl
theorem clearSquares_laidOut : laidOutB Tryd.prog = true := by kernel_rfl
theorem clearSquares_door (os : Os) (args : Array Value) : laidMetH Tryd.prog [("throng/kind.costs", Rows.laid_throng_kind_costs)] ((World.doorLaid Tryd.prog 400 os).forCall (fun _ _ => 0) ⟨#[], args, []⟩).memory :=
  laidMetH_of_parts3 (fuel := 8) (laidMet_of_run' 8 (by kernel_rfl) (by kernel_rfl)) (by kernel_rfl) (by kernel_rfl)
set_option maxRecDepth 100000 in
theorem clearSquares_lifted (os : Os) (started : os.Started) (H : Type) (enc : TypeId × Value → H) :
    ReturnsInHanded {} Tryd.checked os 7 .any (fun w args => (Rows.clearSquaresSpec.pre enc Tryd.prog Tryd.f7 [] false w args ∧ laidMetH Tryd.prog [("throng/kind.costs", Rows.laid_throng_kind_costs)] w) ∧ sizedMet enc Tryd.prog Tryd.f7 (OpenSpec.ofChange Rows.clearSquaresSpec) false w args)
      (Rows.clearSquaresSpec.post enc Tryd.prog Tryd.f7 false true false false) := by
  refine returnsInHanded_of_change_and (C := Tryd.checked) (X := fun w _ => laidMetH Tryd.prog [("throng/kind.costs", Rows.laid_throng_kind_costs)] w) (fun _ _ _ hh h => h.of_heap hh) clearSquares_own started (by kernel_rfl) Tryd.func7
    (ChangeSpec.witness_shaped (enc := enc) (C := Tryd.checked) (os := os) (X := fun w _ => laidMetH Tryd.prog [("throng/kind.costs", Rows.laid_throng_kind_costs)] w) false (World.doorLaid Tryd.prog 400 os) #[.agg #[.int .i64 0, .int .i64 0, .slice none 0 0, .slice none 0 0, .int .i64 0]] 8 rfl (World.shaped_of_RefB (by kernel_rfl) (by kernel_rfl)) (by kernel_rfl) (by kernel_rfl) (by kernel_rfl) (clearSquares_door os _)) ?_
  intro W base args ds gs before hval0 hW _ _ hL _
  have hval : ∀ (j : Nat) t v, Tryd.f7.params[j]? = some t → args[j]? = some v → Value.okWide Tryd.prog W .any base t v := hval0
  have hW' := hW
  obtain ⟨p, q, hA0, hV, rfl, hfz, hnd⟩ := hW
  have hA : DataW.TrodAll enc Tryd.prog W 0 (fun _ => true) true Tryd.f7.params.toList args.toList ds p := hA0
  rw [Tryd.params7] at hA hval
  obtain ⟨v0, vs0, d0, ds0, p0, q0, hargs, rfl, rfl, h0, r0⟩ := trodAll_cons hA
  obtain ⟨rfl, rfl, rfl⟩ := trodAll_nil r0
  obtain rfl : args = #[v0] := by cases args; simp_all
  obtain ⟨rfl, rfl⟩ := trodVars_none hV
  obtain ⟨cs0, rfl, hcs0⟩ := okWide_struct Tryd.underlying48 (hval 0 48 v0 rfl rfl)
  have k0 := h0
  have lt0 : ∀ x ∈ p0, x.block < W.heap.size := by obtain ⟨m, hm⟩ := k0; exact DataW.trod_lt m _ _ _ hm
  have rows : Asks9 W (.agg cs0) := by obtain ⟨fuel, hf⟩ := h0; exact asks9_of hcs0 hf
  clear hA0 hval0
  refine (clearSquares_walk (.agg cs0) W (of_laidC hL) rows).mono fun e W' ⟨he, bel⟩ => ?_
  subst he
  exact ⟨_, rfl, _, _, _, [], _, [], hW', trodAll_mk1 (shut_bool Tryd.underlying4 _), (trodAll_cons_mk (Below.trod clearSquares_laidOut (by kernel_rfl) (of_decide_eq_true (by kernel_rfl)) k0 bel lt0) trodAll_mk0), rfl, bel.frame _, fun h => by cases h⟩
theorem clearSquares_over : Rows.ClearSquaresSaid :=
  OpenClaim.holds_of_wide 7 Tryd.f7 rfl rfl rfl rfl rfl rfl rfl ⟨rfl, rfl, rfl, rfl, rfl⟩ rfl rfl rfl rfl rfl (by kernel_rfl) Tryd.func7 (by kernel_rfl)
    (of_decide_eq_true (by kernel_rfl)) (by unfold Func.isWrapper; first | (rw [if_pos (by decide +kernel)]; kernel_rfl) | (rw [if_neg (by decide +kernel)]; exact ⟨rfl, rfl⟩))
    (fun os started H enc _ => clearSquares_lifted os started H enc)
/-- The given card of ClearSquares. -/
theorem clearSquares_card : Rows.ClearSquaresCardSaid :=
  Claim7.holds_tied_plain_at .later [] [.data] true (true, "2c4bcf7ec666a06e3a39b6c766dcfdcece0d58204668e437dfc8163f308f0d77") false
    clearSquares_over (fun _ h => by cases h) (by kernel_rfl) (fun _ h => by cases h) clearSquares_row_tie rfl ⟨rfl, rfl⟩ (by kernel_rfl) rfl
    (fun f fn hf hfn => by
      obtain rfl : f = 7 := Option.some.inj ((show Tryd.prog.funcNamed "throng/thronglaw9.ClearSquares" = some 7 by kernel_rfl).symm.trans hf) |>.symm
      obtain rfl : fn = Tryd.f7 := (Option.some.inj (Tryd.func7.symm.trans hfn)).symm
      exact ⟨by kernel_rfl, fun j t ht => by
        rw [Tryd.params7] at ht
        have hm : t ∈ [48] := by simpa using Array.mem_of_getElem? ht
        have hall : ([48].all fun u => !Tryd.prog.wantsStandIn u) = true := by kernel_rfl
        exact (show Tryd.prog.wantsStandIn t = false by simpa using List.all_eq_true.1 hall t hm)⟩)
    (by kernel_rfl)
end Go.Proofs.YtjjodfdmbiebnaaDoor

