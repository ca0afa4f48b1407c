import Derived.Deep.QuietTactic
import Derived.BigQuiet
import Derived.Deep.RegionWith
import Derived.Deep.RegionHeld3
import Derived.Deep.DeepCutAuto
import Derived.Deep.DeepFit
import Derived.Outline
import Derived.Test.YthabjihpjdlmoaaDoorGkz
import Derived.Test.YthabjihpjdlmoaaDoorGkad
import Derived.Test.YthabjihpjdlmoaaDoorGkaa
/- Plain words of layer 13: whoever follows the ways comes to the goal, and pays what the field says. -/
namespace Go.Proofs.YthabjihpjdlmoaaDoor
open Go.RowKit
set_option linter.unusedVariables false
set_option linter.unusedSimpArgs false
theorem tab_zero {n g t : Nat} {T C : Nat → Nat → Int} {D : Nat → Int} (h : Tab n T C g D) (hS : Stp n T C) (ht : t < n) (h0 : D t = 0) : t = g := by
  obtain ⟨k, hk⟩ := h.real t ht (by omega)
  cases k with
  | zero => exact hk.1
  | succ k =>
    obtain ⟨s, i, hs, hi, e, hw⟩ := hk
    have := h.le k s _ hw
    have := hS.pos s i hs (by omega)
    omega
/-- What the law asks of tile t. -/
structure GoAt (W H : Int) (n g : Nat) (gd : Nat → Bool) (kc D V : Nat → Int) (t : Nat) : Prop where
  low : -1 ≤ D t
  gd : 0 ≤ D t → gd t = true
  z : D t = 0 → t = g
  v : 0 ≤ V t ↔ 0 < D t
theorem goAt_of {W H : Int} {n g t : Nat} {gd : Nat → Bool} {kc D D' V : Nat → Int} (hW : 1 ≤ W) (hn : (n : Int) = W * H) (hS : Stp n (tT W H gd) (tC W H kc)) (hg : g < n) (h : TabG n (tT W H gd) (tC W H kc) g (gd g) D) (h' : TabG n (tT W H gd) (tC W H kc) g (gd g) D') (ht : t < n) (hv : IsDir (tT W H gd) (tC W H kc) D' t (V t)) : GoAt W H n g gd kc D V t := by
  have e : ∀ k, k < n → D' k = D k := fun k hk => h'.eq h hk
  have hv : IsDir (tT W H gd) (tC W H kc) D t (V t) := hv.congr (fun i => hS.lt t i ht) ht e
  refine ⟨tabG_low h ht, fun h0 => (tabG_good h ht h0).2.1, fun h0 => tab_zero (tabG_good h ht (by omega)).2.2 hS ht h0, ?_⟩
  rcases hv with ⟨e1, hno⟩ | ⟨i, hi, e1, h0, hh, hfirst⟩
  · refine ⟨fun q => by omega, fun q => ?_⟩
    rcases hno with hno | hno
    · omega
    · have T1 := (tabG_good h ht (by omega)).2.2
      obtain ⟨s, i, hs, hi, hT, hs0, hc⟩ := T1.prev hS hg ht q
      obtain ⟨j, hj, hb, hcb⟩ := step_back (gd := gd) (kc := kc) hW hn s i hs hi (by omega)
      rw [hT] at hb hcb
      simp only [Int.toNat_natCast] at hb hcb
      exact absurd ⟨by omega, by rw [hb, hcb]; simpa using hc⟩ (hno j hj)
  · exact ⟨fun _ => h0, fun _ => by omega⟩
/-- One step of whoever follows the ways. -/
structure GoOn (W H : Int) (n : Nat) (gd : Nat → Bool) (kc D V : Nat → Int) (t i u : Nat) : Prop where
  i8 : i < 8
  v : V t = (i : Int)
  nu : nb W H t i = (u : Int)
  un : u < n
  gt : gd t = true
  gu : gd u = true
  d0 : 0 ≤ D u
  d1 : D u < D t
  c : D u + (if i < 4 then 5 else 7) * (kc t + kc u) = D t
  s : 4 ≤ i → gd ((t : Int) % W + W * ((u : Int) / W)).toNat = true ∧ gd ((u : Int) % W + W * ((t : Int) / W)).toNat = true
  b : 4 ≤ i → (0 ≤ (t : Int) % W + W * ((u : Int) / W) ∧ (t : Int) % W + W * ((u : Int) / W) < n) ∧ 0 ≤ (u : Int) % W + W * ((t : Int) / W) ∧ (u : Int) % W + W * ((t : Int) / W) < n
  l : i < 4 ↔ ((t : Int) % W = (u : Int) % W ∨ (t : Int) / W = (u : Int) / W)
theorem cell_in {W H x y : Int} {n : Nat} (hn : (n : Int) = W * H) (hW : 1 ≤ W) (x0 : 0 ≤ x) (x1 : x < W) (y0 : 0 ≤ y) (y1 : y < H) : 0 ≤ x + W * y ∧ x + W * y < n := by
  have q : W * (y + 1) ≤ W * H := Int.mul_le_mul_of_nonneg_left (by omega) (by omega)
  have q2 : 0 ≤ W * y := Int.mul_nonneg (by omega) y0
  rw [Int.mul_add] at q
  omega
theorem goOn_of {W H : Int} {n g t : Nat} {gd : Nat → Bool} {kc D D' V : Nat → Int} (hW : 1 ≤ W) (hn : (n : Int) = W * H) (hS : Stp n (tT W H gd) (tC W H kc)) (hg : g < n) (h : TabG n (tT W H gd) (tC W H kc) g (gd g) D) (h' : TabG n (tT W H gd) (tC W H kc) g (gd g) D') (ht : t < n) (hv : IsDir (tT W H gd) (tC W H kc) D' t (V t)) (hp : 0 < D t) : ∃ i u, GoOn W H n gd kc D V t i u := by
  have A := goAt_of hW hn hS hg h h' ht hv
  have e : ∀ k, k < n → D' k = D k := fun k hk => h'.eq h hk
  have hv : IsDir (tT W H gd) (tC W H kc) D t (V t) := hv.congr (fun i => hS.lt t i ht) ht e
  have T1 := (tabG_good h ht (by omega)).2.2
  rcases hv with ⟨e1, hno⟩ | ⟨i, hi, e1, h0, hh, hfirst⟩
  · have := A.v.2 hp; omega
  · obtain ⟨h1, h2⟩ := hh
    obtain ⟨ok, hT⟩ := tT_ok h1
    have hr := T1.rel t i ht hi (by omega) h1
    have hpos := hS.pos t i ht h1
    have hlt := hS.lt t i ht
    obtain ⟨u, hu⟩ : ∃ u : Nat, nb W H t i = (u : Int) := ⟨(nb W H t i).toNat, by omega⟩
    rw [hT, hu] at h2 hr hlt
    simp only [Int.toNat_natCast] at h2 hr
    have hok := ok
    rw [ok_sides hi] at hok
    obtain ⟨k1, k2, k3, k4⟩ := hok
    rw [hu] at k3
    simp only [Int.toNat_natCast] at k3
    obtain ⟨⟨b1, b2, b3, b4⟩, ux, uy, _⟩ := nbS_inv hW (show nbS W H t (dxL.getD i 0) (dyL.getD i 0) = (u : Int) from hu) (by omega)
    have m0 := Int.emod_nonneg (t : Int) (show W ≠ 0 by omega)
    have m1 := Int.emod_lt_of_pos (t : Int) (show 0 < W by omega)
    have d0 : 0 ≤ (t : Int) / W := Int.ediv_nonneg (by omega) (by omega)
    have d1 : (t : Int) / W < H := Int.ediv_lt_of_lt_mul (by omega) (by rw [Int.mul_comm]; omega)
    refine ⟨i, u, hi, e1, hu, by omega, k2, k3, hr.1, by omega, ?_, fun h4 => ?_, fun h4 => ⟨?_, ?_⟩, ?_⟩
    · unfold tC at h2
      rw [hu] at h2
      simpa using h2
    · obtain ⟨s1, s2⟩ := k4 h4
      rw [nbS_yes (by omega) (by omega) (by omega) (by omega)] at s1 s2
      rw [ux, uy]
      refine ⟨?_, ?_⟩
      · rw [show (t : Int) % W + 0 = (t : Int) % W by omega] at s2
        exact s2
      · rw [show (t : Int) / W + 0 = (t : Int) / W by omega] at s1
        exact s1
    · exact cell_in hn hW m0 m1 (by omega) (by omega)
    · exact cell_in hn hW (by omega) (by omega) d0 d1
    · rw [way_lt, ux, uy]
      constructor
      · rintro ⟨q, _⟩; omega
      · intro q; exact ⟨by omega, hi⟩
/-- No step beside one costs less. -/
theorem goNear {W H : Int} {n g t u k : Nat} {gd : Nat → Bool} {kc D : Nat → Int} (hW : 1 ≤ W) (hn : (n : Int) = W * H) (hS : Stp n (tT W H gd) (tC W H kc)) (h : TabG n (tT W H gd) (tC W H kc) g (gd g) D) (ht : t < n) (hk : k < 4) (hu : nb W H t k = (u : Int)) (g1 : gd t = true) (g2 : gd u = true) :
    u < n ∧ (D t < 0 ↔ D u < 0) ∧ (0 ≤ D t → D t ≤ D u + 5 * (kc t + kc u)) ∧ ((t : Int) % W = (u : Int) % W ∨ (t : Int) / W = (u : Int) / W) := by
  have ok : stOk W H gd t k := ⟨by omega, g1, by rw [hu]; simpa using g2, fun q => by omega⟩
  have hT : tT W H gd t k = (u : Int) := by rw [tT_yes ok]; exact hu
  have hlt := hS.lt t k ht
  have hC : tC W H kc t k = 5 * (kc t + kc u) := by unfold tC; rw [if_pos hk, hu]; rfl
  obtain ⟨j, hj, hb, hcb⟩ := step_back (gd := gd) (kc := kc) hW hn t k ht (by omega) (by omega)
  rw [hT] at hb hcb
  simp only [Int.toNat_natCast] at hb hcb
  obtain ⟨_, ux, uy, _⟩ := nbS_inv hW (show nbS W H t (dxL.getD k 0) (dyL.getD k 0) = (u : Int) from hu) (by omega)
  have hw := (way_lt.1 hk).1
  have hun : u < n := by omega
  refine ⟨hun, ?_, ?_, by omega⟩
  · unfold TabG at h
    by_cases c : gd g = true
    · rw [if_pos c] at h
      have a1 := h.low t ht
      have a2 := h.low u hun
      have r1 := fun q => h.rel t k ht (by omega) q (by omega)
      have r2 := fun q => h.rel u j hun hj q (by omega)
      rw [hT] at r1
      rw [hb] at r2
      simp only [Int.toNat_natCast] at r1 r2
      omega
    · rw [if_neg c] at h
      rw [h t ht, h u hun]
  · intro q
    unfold TabG at h
    by_cases c : gd g = true
    · rw [if_pos c] at h
      have r1 := h.rel t k ht (by omega) q (by omega)
      rw [hT] at r1
      simp only [Int.toNat_natCast] at r1
      have r2 := h.rel u j hun hj r1.1 (by omega)
      rw [hb] at r2
      simp only [Int.toNat_natCast] at r2
      omega
    · rw [if_neg c] at h
      have := h t ht
      omega
end Go.Proofs.YthabjihpjdlmoaaDoor
/- Layer 13: the law's cost of a step. -/
namespace Go.Proofs.YthabjihpjdlmoaaDoor
open Go.ChangeShapes Go.WideShapes Go.ChangeAt Go.RowKit Go.Deep
set_option linter.unusedVariables false
set_option linter.unusedSimpArgs false
set_option maxRecDepth 100000 in
set_option maxHeartbeats 1600000 in
theorem cost13_any (W H : Int) (bb off n c : Nat) (xs : List Int) (cl t u : Nat) (v : Int) (w : World) (h : By w w.heap.size (some ⟨bb, off, none⟩) n xs) (GG : Hk (GOk W H n xs)) (hc3 : cl < 3) (ht : t < n) (hu : u < n) (HV : Hk ((if (t : Int) % W = (u : Int) % W ∨ (t : Int) / W = (u : Int) / W then 5 else 7) * (kcF cl xs t + kcF cl xs u) = v)) :
    Calls Tryd.prog 35 #[.agg #[.int .i64 W, .int .i64 H, .slice (some ⟨bb, off, none⟩) n c], .int .i64 cl, .int .i64 t, .int .i64 u] w fun e w' => e = .returned (.int .i64 v) ∧ Below w.heap.size w w' := by
  have HWB : Hk (Below w.heap.size w (w.alloc (.cells #[.int .i64 W, .int .i64 H, .slice (some ⟨bb, off, none⟩) n c] 24))) := ⟨(Below.refl _ _).alloc (Nat.le_refl _) _⟩
  have hNW : w.heap.size + 1 ≤ ((w.alloc (.cells #[.int .i64 W, .int .i64 H, .slice (some ⟨bb, off, none⟩) n c] 24))).heap.size := by simp
  have HB : Hk (Below (w.heap.size + 1) (w.alloc (.cells #[.int .i64 W, .int .i64 H, .slice (some ⟨bb, off, none⟩) n c] 24)) (w.alloc (.cells #[.int .i64 W, .int .i64 H, .slice (some ⟨bb, off, none⟩) n c] 24))) := ⟨Below.refl _ _⟩
  have HTR : Hk (∀ X, Below (w.heap.size + 1) (w.alloc (.cells #[.int .i64 W, .int .i64 H, .slice (some ⟨bb, off, none⟩) n c] 24)) X → Below w.heap.size w X) := ⟨fun X hX => HWB.out.trans (hX.mono (by omega))⟩
  obtain ⟨bb', off', hae, hbl, hcc⟩ := h.at_ (by omega)
  injection hae with hae
  injection hae with hae1 hae2
  subst hae1 hae2
  have w1 := GG.out.w1
  have p0 := hcc t ht
  have p1 := hcc u hu
  have hx := h.bd ht
  have hy := h.bd hu
  have hx5 := GG.out.ts (xs.getD t 0) (getD_mem (by rw [h.len]; exact ht))
  have hy5 := GG.out.ts (xs.getD u 0) (getD_mem (by rw [h.len]; exact hu))
  obtain ⟨x, hxx⟩ : ∃ x : Nat, xs.getD t 0 = x := ⟨(xs.getD t 0).toNat, by omega⟩
  obtain ⟨y, hyy⟩ : ∃ y : Nat, xs.getD u 0 = y := ⟨(xs.getD u 0).toNat, by omega⟩
  rw [hxx] at p0 hx hx5
  rw [hyy] at p1 hy hy5
  obtain ⟨r, hr⟩ : ∃ r, ctS cl x = r := ⟨_, rfl⟩
  obtain ⟨q, hq⟩ : ∃ q, ctS cl y = q := ⟨_, rfl⟩
  have HRX := Hk.mk hr
  have HRY := Hk.mk hq
  have hrb : 0 ≤ r ∧ r ≤ 6 := by rw [← hr]; exact ct_abs _ _
  have hqb : 0 ≤ q ∧ q ≤ 6 := by rw [← hq]; exact ct_abs _ _
  have hkt : kcF cl xs t = r := by unfold kcF; rw [hxx]; simpa using hr
  have hku : kcF cl xs u = q := by unfold kcF; rw [hyy]; simpa using hq
  have hv := HV.out
  rw [hkt, hku] at hv
  clear HV hkt hku hr hq hcc h hxx hyy
  have t0 : (0 : Int) ≤ (t : Int) := by omega
  have t1 : (t : Int) < (n : Int) := by omega
  have u0 : (0 : Int) ≤ (u : Int) := by omega
  have u1 : (u : Int) < (n : Int) := by omega
  have hW0 : ¬ W = 0 := by omega
  have tm : (t : Int).tmod W = (t : Int) % W := Int.tmod_eq_emod_of_nonneg (by omega)
  have td : (t : Int).tdiv W = (t : Int) / W := Int.tdiv_eq_ediv_of_nonneg (by omega)
  have um : (u : Int).tmod W = (u : Int) % W := Int.tmod_eq_emod_of_nonneg (by omega)
  have ud : (u : Int).tdiv W = (u : Int) / W := Int.tdiv_eq_ediv_of_nonneg (by omega)
  have hwr : IntKind.i64.wrap (r + q) = r + q := wr_in (by omega)
  have h2 := GG.out.h2
  have hnn := GG.out.nn
  have yt0 : 0 ≤ (t : Int) / W := Int.ediv_nonneg (by omega) (by omega)
  have yt1 : (t : Int) / W < H := Int.ediv_lt_of_lt_mul (by omega) (by rw [Int.mul_comm]; omega)
  have yu0 : 0 ≤ (u : Int) / W := Int.ediv_nonneg (by omega) (by omega)
  have yu1 : (u : Int) / W < H := Int.ediv_lt_of_lt_mul (by omega) (by rw [Int.mul_comm]; omega)
  have wt : wrap64 ((t : Int) / W) = (t : Int) / W := by unfold wrap64; omega
  have wu : wrap64 ((u : Int) / W) = (u : Int) / W := by unfold wrap64; omega
  clear hnn
  generalize (t : Int) % W = tx at *
  generalize (t : Int) / W = ty at *
  generalize (u : Int) % W = ux at *
  generalize (u : Int) / W = uy at *
  obtain ⟨hc, hf, hl, hn', hm⟩ := kw_rules HB.out hNW
  go_enter Tryd.func35, Tryd.ntmps35
  go_upto_region 1 with fail
  refine wp_region_held_drew (S := (fun X => (∀ b o, b < w.heap.size + 1 → X.cell? ⟨b, o, none⟩ = ((w.alloc (.cells #[.int .i64 W, .int .i64 H, .slice (some ⟨bb, off, none⟩) n c] 24))).cell? ⟨b, o, none⟩) ∧ Below (w.heap.size + 1) (w.alloc (.cells #[.int .i64 W, .int .i64 H, .slice (some ⟨bb, off, none⟩) n c] 24)) X)) (by kernel_rfl) ?_ (fun hHeld => ?_)
  · exact kw_S (kw_drew HB.out)
  refine wpAnyH_take (i := 0) (v := ?_) rfl (by kernel_rfl) (by kernel_rfl) (by kernel_rfl) (fun _ _ _ h => h) (Or.inl ⟨by rfl, fun wX hSw => ?_⟩) (by assumption) ?_
  rotate_left
  · (try dsimp only at hSw); go_simp; try with_reducible rfl
  (try simp only [Act.put, List.getElem_toArray, List.getElem_cons_succ, List.getElem_cons_zero, List.setIfInBounds_toArray, List.set_cons_zero, List.set_cons_succ])
  refine wpAnyH_take (i := 1) (v := ?_) rfl (by kernel_rfl) (by kernel_rfl) (by kernel_rfl) (fun _ _ _ h => h) (Or.inl ⟨by rfl, fun wX hSw => ?_⟩) (by assumption) ?_
  rotate_left
  · (try dsimp only at hSw); go_simp; try with_reducible rfl
  (try simp only [Act.put, List.getElem_toArray, List.getElem_cons_succ, List.getElem_cons_zero, List.setIfInBounds_toArray, List.set_cons_zero, List.set_cons_succ])
  refine wpAnyH_take (i := 2) (v := ?_) rfl (by kernel_rfl) (by kernel_rfl) (by kernel_rfl) (fun _ _ _ h => h) (Or.inl ⟨by rfl, fun wX hSw => ?_⟩) (by assumption) ?_
  rotate_left
  · (try dsimp only at hSw); go_simp; try with_reducible rfl
  (try simp only [Act.put, List.getElem_toArray, List.getElem_cons_succ, List.getElem_cons_zero, List.setIfInBounds_toArray, List.set_cons_zero, List.set_cons_succ])
  refine wpAnyH_take (i := 3) (v := ?_) rfl (by kernel_rfl) (by kernel_rfl) (by kernel_rfl) (fun _ _ _ h => h) (Or.inl ⟨by rfl, fun wX hSw => ?_⟩) (by assumption) ?_
  rotate_left
  · (try dsimp only at hSw); go_simp; try with_reducible rfl
  (try simp only [Act.put, List.getElem_toArray, List.getElem_cons_succ, List.getElem_cons_zero, List.setIfInBounds_toArray, List.set_cons_zero, List.set_cons_succ])
  refine wpAnyH_take (i := 4) (v := ?_) rfl (by kernel_rfl) (by kernel_rfl) (by kernel_rfl) (fun _ _ _ h => h) (Or.inl ⟨by rfl, fun wX hSw => ?_⟩) (by assumption) ?_
  rotate_left
  · (try dsimp only at hSw); go_simp; try with_reducible rfl
  (try simp only [Act.put, List.getElem_toArray, List.getElem_cons_succ, List.getElem_cons_zero, List.setIfInBounds_toArray, List.set_cons_zero, List.set_cons_succ])
  refine wpAnyH_take (i := 5) (v := ?_) rfl (by kernel_rfl) (by kernel_rfl) (by kernel_rfl) (fun _ _ _ h => h) (Or.inl ⟨by rfl, fun wX hSw => ?_⟩) (by assumption) ?_
  rotate_left
  · (try dsimp only at hSw); go_simp; try with_reducible rfl
  (try simp only [Act.put, List.getElem_toArray, List.getElem_cons_succ, List.getElem_cons_zero, List.setIfInBounds_toArray, List.set_cons_zero, List.set_cons_succ])
  refine wpAnyH_take (i := 7) (v := ?_) rfl (by kernel_rfl) (by kernel_rfl) (by kernel_rfl) (fun _ _ _ h => h) (Or.inl ⟨by rfl, fun wX hSw => ?_⟩) (by assumption) ?_
  rotate_left
  · (try dsimp only at hSw); go_simp; try with_reducible rfl
  (try simp only [Act.put, List.getElem_toArray, List.getElem_cons_succ, List.getElem_cons_zero, List.setIfInBounds_toArray, List.set_cons_zero, List.set_cons_succ])
  refine wpAnyH_take (i := 8) (v := ?_) rfl (by kernel_rfl) (by kernel_rfl) (by kernel_rfl) (fun _ _ _ h => h) (Or.inl ⟨by rfl, fun wX hSw => ?_⟩) (by assumption) ?_
  rotate_left
  · (try dsimp only at hSw); go_simp; try with_reducible rfl
  (try simp only [Act.put, List.getElem_toArray, List.getElem_cons_succ, List.getElem_cons_zero, List.setIfInBounds_toArray, List.set_cons_zero, List.set_cons_succ])
  refine wpAnyH_take (i := 9) (v := ?_) rfl (by kernel_rfl) (by kernel_rfl) (by kernel_rfl) (fun _ _ _ h => h) (Or.inl ⟨by rfl, fun wX hSw => ?_⟩) (by assumption) ?_
  rotate_left
  · (try dsimp only at hSw); go_simp; try with_reducible rfl
  (try simp only [Act.put, List.getElem_toArray, List.getElem_cons_succ, List.getElem_cons_zero, List.setIfInBounds_toArray, List.set_cons_zero, List.set_cons_succ])
  refine wpAnyH_take (i := 10) (v := ?_) rfl (by kernel_rfl) (by kernel_rfl) (by kernel_rfl) (fun _ _ _ h => h) (Or.inl ⟨by rfl, fun wX hSw => ?_⟩) (by assumption) ?_
  rotate_left
  · (try dsimp only at hSw); go_simp; try with_reducible rfl
  (try simp only [Act.put, List.getElem_toArray, List.getElem_cons_succ, List.getElem_cons_zero, List.setIfInBounds_toArray, List.set_cons_zero, List.set_cons_succ])
  refine wpAnyH_take (i := 11) (v := ?_) rfl (by kernel_rfl) (by kernel_rfl) (by kernel_rfl) (fun _ _ _ h => h) (Or.inl ⟨by rfl, fun wX hSw => ?_⟩) (by assumption) ?_
  rotate_left
  · (try dsimp only at hSw); go_simp; try with_reducible rfl
  (try simp only [Act.put, List.getElem_toArray, List.getElem_cons_succ, List.getElem_cons_zero, List.setIfInBounds_toArray, List.set_cons_zero, List.set_cons_succ])
  refine wpAnyH_take (i := 12) (v := ?_) rfl (by kernel_rfl) (by kernel_rfl) (by kernel_rfl) (fun _ _ _ h => h) (Or.inl ⟨by rfl, fun wX hSw => ?_⟩) (by assumption) ?_
  rotate_left
  · (try dsimp only at hSw); go_simp; try with_reducible rfl
  (try simp only [Act.put, List.getElem_toArray, List.getElem_cons_succ, List.getElem_cons_zero, List.setIfInBounds_toArray, List.set_cons_zero, List.set_cons_succ])
  refine wpAnyH_ready (rs := [6]) (by kernel_rfl) (by simp) ?_
  refine AllReadyH.cons rfl (fun K hK => ?_) (AllReadyH.nil)
  go_simp
  (first
  | (go_at_call 61; (with_reducible refine (rcostC_as cl x _ _ r _ hc3 (by omega) ⟨rfl⟩ ⟨rfl⟩ HRX).mono ?_); rintro e z ⟨rfl, hb⟩; have hB2 : Hk (Below (w.heap.size + 1) (w.alloc (.cells #[.int .i64 W, .int .i64 H, .slice (some ⟨bb, off, none⟩) n c] 24)) z) := ⟨by first | exact kw_step HB.out hNW hb | exact kw_step HB.out.drew hNW hb⟩; clear hb; replace HB := hB2; clear hB2; clear hc hf hl hn' hm; obtain ⟨hc, hf, hl, hn', hm⟩ := kw_rules HB.out hNW)
  | (go_at_call 61; (with_reducible refine (rcostC_as cl y _ _ q _ hc3 (by omega) ⟨rfl⟩ ⟨rfl⟩ HRY).mono ?_); rintro e z ⟨rfl, hb⟩; have hB2 : Hk (Below (w.heap.size + 1) (w.alloc (.cells #[.int .i64 W, .int .i64 H, .slice (some ⟨bb, off, none⟩) n c] 24)) z) := ⟨by first | exact kw_step HB.out hNW hb | exact kw_step HB.out.drew hNW hb⟩; clear hb; replace HB := hB2; clear hB2; clear hc hf hl hn' hm; obtain ⟨hc, hf, hl, hn', hm⟩ := kw_rules HB.out hNW))
  refine hK.out _ _ ?_ (fun hHeld => ?_)
  · exact kw_S HB.out
  clear hK K
  (try simp only [Act.put, List.getElem_toArray, List.getElem_cons_succ, List.getElem_cons_zero, List.setIfInBounds_toArray, List.set_cons_zero, List.set_cons_succ])
  refine wpAnyH_ready (rs := [13]) (by kernel_rfl) (by simp) ?_
  refine AllReadyH.cons rfl (fun K hK => ?_) (AllReadyH.nil)
  go_simp
  (first
  | (go_at_call 61; (with_reducible refine (rcostC_as cl x _ _ r _ hc3 (by omega) ⟨rfl⟩ ⟨rfl⟩ HRX).mono ?_); rintro e z ⟨rfl, hb⟩; have hB2 : Hk (Below (w.heap.size + 1) (w.alloc (.cells #[.int .i64 W, .int .i64 H, .slice (some ⟨bb, off, none⟩) n c] 24)) z) := ⟨by first | exact kw_step HB.out hNW hb | exact kw_step HB.out.drew hNW hb⟩; clear hb; replace HB := hB2; clear hB2; clear hc hf hl hn' hm; obtain ⟨hc, hf, hl, hn', hm⟩ := kw_rules HB.out hNW)
  | (go_at_call 61; (with_reducible refine (rcostC_as cl y _ _ q _ hc3 (by omega) ⟨rfl⟩ ⟨rfl⟩ HRY).mono ?_); rintro e z ⟨rfl, hb⟩; have hB2 : Hk (Below (w.heap.size + 1) (w.alloc (.cells #[.int .i64 W, .int .i64 H, .slice (some ⟨bb, off, none⟩) n c] 24)) z) := ⟨by first | exact kw_step HB.out hNW hb | exact kw_step HB.out.drew hNW hb⟩; clear hb; replace HB := hB2; clear hB2; clear hc hf hl hn' hm; obtain ⟨hc, hf, hl, hn', hm⟩ := kw_rules HB.out hNW))
  refine hK.out _ _ ?_ (fun hHeld => ?_)
  · exact kw_S HB.out
  clear hK K
  (try simp only [Act.put, List.getElem_toArray, List.getElem_cons_succ, List.getElem_cons_zero, List.setIfInBounds_toArray, List.set_cons_zero, List.set_cons_succ])
  refine wpAnyH_take (i := 14) (v := ?_) rfl (by kernel_rfl) (by kernel_rfl) (by kernel_rfl) (fun _ _ _ h => h) (Or.inl ⟨by rfl, fun wX hSw => ?_⟩) (by assumption) ?_
  rotate_left
  · (try dsimp only at hSw); go_simp; try with_reducible rfl
  (try simp only [Act.put, List.getElem_toArray, List.getElem_cons_succ, List.getElem_cons_zero, List.setIfInBounds_toArray, List.set_cons_zero, List.set_cons_succ])
  refine wpAnyH_take (i := 15) (v := ?_) rfl (by kernel_rfl) (by kernel_rfl) (by kernel_rfl) (fun _ _ _ h => h) (Or.inl ⟨by rfl, fun wX hSw => ?_⟩) (by assumption) ?_
  rotate_left
  · (try dsimp only at hSw); go_simp; try with_reducible rfl
  (try simp only [Act.put, List.getElem_toArray, List.getElem_cons_succ, List.getElem_cons_zero, List.setIfInBounds_toArray, List.set_cons_zero, List.set_cons_succ])
  refine wpAnyH_done (by kernel_rfl) ?_ _
  have HB := HB
  by_cases e1 : tx = ux
  · have d1 : (tx == ux) = true := by simpa using e1
    rw [if_pos (Or.inl e1)] at hv
    have HR := Hk.mk hv
    clear hv e1
    go_upto_region 2 with fail
    go_quiet (fail)
    go_wp2_with fail
    go_ret
    exact ⟨by first | rfl | (rw [HR.out]; rfl), HTR.out _ (below_drewN HB.out _)⟩
  · have d1 : (tx == ux) = false := by simpa using e1
    by_cases e2 : ty = uy
    · have d2 : (ty == uy) = true := by simpa using e2
      rw [if_pos (Or.inr e2)] at hv
      have HR := Hk.mk hv
      clear hv e1 e2
      go_upto_region 2 with fail
      go_quiet (fail)
      go_wp2_with fail
      go_ret
      exact ⟨by first | rfl | (rw [HR.out]; rfl), HTR.out _ (below_drewN HB.out _)⟩
    · have d2 : (ty == uy) = false := by simpa using e2
      rw [if_neg (fun q => q.elim e1 e2)] at hv
      have HR := Hk.mk hv
      clear hv e1 e2
      go_upto_region 2 with fail
      go_quiet (fail)
      go_wp2_with fail
      go_ret
      exact ⟨by first | rfl | (rw [HR.out]; rfl), HTR.out _ (below_drewN HB.out _)⟩
theorem cost13_a (W H : Int) (a : Option Addr) (n c : Nat) (xs : List Int) (cl t u : Nat) (v : Int) (w : World) (h : By w w.heap.size a n xs) (GG : Hk (GOk W H n xs)) (hc3 : cl < 3) (ht : t < n) (hu : u < n) (HV : Hk ((if (t : Int) % W = (u : Int) % W ∨ (t : Int) / W = (u : Int) / W then 5 else 7) * (kcF cl xs t + kcF cl xs u) = v)) :
    Calls Tryd.prog 35 #[.agg #[.int .i64 W, .int .i64 H, .slice a n c], .int .i64 cl, .int .i64 t, .int .i64 u] w fun e w' => e = .returned (.int .i64 v) ∧ Below w.heap.size w w' := by
  obtain ⟨bb, off, rfl, _, _⟩ := h.at_ (by omega)
  exact cost13_any W H bb off n c xs cl t u v w h GG hc3 ht hu HV
end Go.Proofs.YthabjihpjdlmoaaDoor
/- Layer 13: whether the statements' argument may be. -/
namespace Go.Proofs.YthabjihpjdlmoaaDoor
open Go.ChangeShapes Go.WideShapes Go.ChangeAt Go.RowKit Go.Deep
set_option linter.unusedVariables false
set_option linter.unusedSimpArgs false
set_option maxRecDepth 100000 in
theorem form13_no (W H : Int) (a : Option Addr) (n c : Nat) (xs : List Int) (la : Option Addr) (ln lc : Nat) (bs : List Bd) (x sz : Int) (ta : Option Addr) (tn tc : Nat) (w : World) (h : By w w.heap.size a n xs) (hb0 : Bq w w.heap.size la ln bs) (hn : n ≤ 140737488355328) (hln : ln ≤ 1099511627776) (MM : Hk (¬ (MOk W H n xs bs ∧ (0 ≤ x ∧ x ≤ 2) ∧ 0 ≤ sz ∧ sz ≤ 3))) :
    Calls Tryd.prog 18 #[.agg #[.int .i64 W, .int .i64 H, .slice a n c, .slice la ln lc, .int .i64 x, .int .i64 sz, .slice ta tn tc]] w fun e w' => e = .returned (.int .i64 1) ∧ Below w.heap.size w w' := by
  have HWB : Hk (Below w.heap.size w (w.alloc (.cells #[.int .i64 W, .int .i64 H, .slice a n c, .slice la ln lc, .int .i64 x, .int .i64 sz, .slice ta tn tc] 28))) := ⟨(Below.refl _ _).alloc (Nat.le_refl _) _⟩
  have hNW : w.heap.size + 1 ≤ (w.alloc (.cells #[.int .i64 W, .int .i64 H, .slice a n c, .slice la ln lc, .int .i64 x, .int .i64 sz, .slice ta tn tc] 28)).heap.size := by simp
  have HB : Hk (Below (w.heap.size + 1) (w.alloc (.cells #[.int .i64 W, .int .i64 H, .slice a n c, .slice la ln lc, .int .i64 x, .int .i64 sz, .slice ta tn tc] 28)) (w.alloc (.cells #[.int .i64 W, .int .i64 H, .slice a n c, .slice la ln lc, .int .i64 x, .int .i64 sz, .slice ta tn tc] 28))) := ⟨Below.refl _ _⟩
  have HTR : Hk (∀ X, Below (w.heap.size + 1) (w.alloc (.cells #[.int .i64 W, .int .i64 H, .slice a n c, .slice la ln lc, .int .i64 x, .int .i64 sz, .slice ta tn tc] 28)) X → Below w.heap.size w X) := ⟨fun X hX => HWB.out.trans (hX.mono (by omega))⟩
  have HBY := Hk.mk (fun (X : World) (hX : Below (w.heap.size + 1) (w.alloc (.cells #[.int .i64 W, .int .i64 H, .slice a n c, .slice la ln lc, .int .i64 x, .int .i64 sz, .slice ta tn tc] 28)) X) => h.below (HTR.out X hX) (Nat.le_refl _))
  have HBQ := Hk.mk (fun (X : World) (hX : Below (w.heap.size + 1) (w.alloc (.cells #[.int .i64 W, .int .i64 H, .slice a n c, .slice la ln lc, .int .i64 x, .int .i64 sz, .slice ta tn tc] 28)) X) => hb0.below (HTR.out X hX) (Nat.le_refl _))
  have E : Hk (false = true ↔ (MOk W H n xs bs ∧ (0 ≤ x ∧ x ≤ 2) ∧ 0 ≤ sz ∧ sz ≤ 3)) := ⟨⟨fun q => (by cases q), fun q => absurd q MM.out⟩⟩
  clear h hb0
  obtain ⟨hc, hf, hl, hn', hm⟩ := kw_rules HB.out hNW
  go_enter Tryd.func18, Tryd.ntmps18
  go_wp2_with (go_at_call 37; (with_reducible refine (rmay13_as false W H a n c xs la ln lc bs x sz _ ?_ ?_ hn hln E).mono ?_); (exact (HBY.out _ HB.out).mono (hsz1 HB.out)); (exact (HBQ.out _ HB.out).mono (hsz1 HB.out)); rintro e z ⟨rfl, hb⟩; replace HB := Hk.mk (kw_step HB.out hNW hb); clear hb; clear hc hf hl hn' hm; obtain ⟨hc, hf, hl, hn', hm⟩ := kw_rules HB.out hNW)
  go_ret
  exact ⟨rfl, HTR.out _ HB.out⟩
set_option maxRecDepth 100000 in
theorem form13_yes (W H : Int) (a : Option Addr) (n c : Nat) (xs : List Int) (la : Option Addr) (ln lc : Nat) (bs : List Bd) (cl s : Nat) (ta : Option Addr) (tn tc : Nat) (w : World) (h : By w w.heap.size a n xs) (hb0 : Bq w w.heap.size la ln bs) (hn : n ≤ 140737488355328) (hln : ln ≤ 1099511627776) (hc3 : cl < 3) (hs : s ≤ 3) (MM : Hk (MOk W H n xs bs)) :
    Calls Tryd.prog 18 #[.agg #[.int .i64 W, .int .i64 H, .slice a n c, .slice la ln lc, .int .i64 cl, .int .i64 s, .slice ta tn tc]] w fun e w' => e = .returned (.int .i64 0) ∧ Below w.heap.size w w' := by
  have HWB : Hk (Below w.heap.size w (w.alloc (.cells #[.int .i64 W, .int .i64 H, .slice a n c, .slice la ln lc, .int .i64 cl, .int .i64 s, .slice ta tn tc] 28))) := ⟨(Below.refl _ _).alloc (Nat.le_refl _) _⟩
  have hNW : w.heap.size + 1 ≤ (w.alloc (.cells #[.int .i64 W, .int .i64 H, .slice a n c, .slice la ln lc, .int .i64 cl, .int .i64 s, .slice ta tn tc] 28)).heap.size := by simp
  have HB : Hk (Below (w.heap.size + 1) (w.alloc (.cells #[.int .i64 W, .int .i64 H, .slice a n c, .slice la ln lc, .int .i64 cl, .int .i64 s, .slice ta tn tc] 28)) (w.alloc (.cells #[.int .i64 W, .int .i64 H, .slice a n c, .slice la ln lc, .int .i64 cl, .int .i64 s, .slice ta tn tc] 28))) := ⟨Below.refl _ _⟩
  have HTR : Hk (∀ X, Below (w.heap.size + 1) (w.alloc (.cells #[.int .i64 W, .int .i64 H, .slice a n c, .slice la ln lc, .int .i64 cl, .int .i64 s, .slice ta tn tc] 28)) X → Below w.heap.size w X) := ⟨fun X hX => HWB.out.trans (hX.mono (by omega))⟩
  have HBY := Hk.mk (fun (X : World) (hX : Below (w.heap.size + 1) (w.alloc (.cells #[.int .i64 W, .int .i64 H, .slice a n c, .slice la ln lc, .int .i64 cl, .int .i64 s, .slice ta tn tc] 28)) X) => h.below (HTR.out X hX) (Nat.le_refl _))
  have HBQ := Hk.mk (fun (X : World) (hX : Below (w.heap.size + 1) (w.alloc (.cells #[.int .i64 W, .int .i64 H, .slice a n c, .slice la ln lc, .int .i64 cl, .int .i64 s, .slice ta tn tc] 28)) X) => hb0.below (HTR.out X hX) (Nat.le_refl _))
  have E : Hk (true = true ↔ (MOk W H n xs bs ∧ (0 ≤ (cl : Int) ∧ (cl : Int) ≤ 2) ∧ 0 ≤ (s : Int) ∧ (s : Int) ≤ 3)) := ⟨⟨fun _ => ⟨MM.out, by omega, by omega⟩, fun _ => rfl⟩⟩
  clear h hb0
  obtain ⟨hc, hf, hl, hn', hm⟩ := kw_rules HB.out hNW
  go_enter Tryd.func18, Tryd.ntmps18
  go_wp2_with (go_at_call 37; (with_reducible refine (rmay13_as true W H a n c xs la ln lc bs cl s _ ?_ ?_ hn hln E).mono ?_); (exact (HBY.out _ HB.out).mono (hsz1 HB.out)); (exact (HBQ.out _ HB.out).mono (hsz1 HB.out)); rintro e z ⟨rfl, hb⟩; replace HB := Hk.mk (kw_step HB.out hNW hb); clear hb; clear hc hf hl hn' hm; obtain ⟨hc, hf, hl, hn', hm⟩ := kw_rules HB.out hNW)
  go_ret
  exact ⟨rfl, HTR.out _ HB.out⟩
end Go.Proofs.YthabjihpjdlmoaaDoor
