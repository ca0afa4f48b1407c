import Derived.Deep.QuietTactic
import Derived.BigQuiet
import Derived.Deep.RegionWith
import Derived.Deep.RegionHeld3
import Derived.Deep.DeepCutAuto
import Derived.Deep.DeepFit
import Derived.Outline
import Derived.Test.YthabjihpjdlmoaaDoorGkaa
import Derived.Test.YthabjihpjdlmoaaDoorGkd
/- Layer 13: the reference's far. -/
namespace Go.Proofs.YthabjihpjdlmoaaDoor
open Go.ChangeShapes Go.WideShapes Go.ChangeAt Go.RowKit Go.Deep
set_option linter.unusedVariables false
set_option linter.unusedSimpArgs false
theorem info_b13 : (Tryd.prog.info? 4).map (fun i => (i.zero, i.size, i.bytes)) = some (some (.bool false), 1, 1) := by kernel_rfl
theorem step_facts {W H : Int} {n t i : Nat} {gd : Nat → Bool} {kc : Nat → Int} (hS : Stp n (tT W H gd) (tC W H kc)) (ht : t < n) : (tD W H gd kc t i = 0 → tT W H gd t i < 0) ∧ (tD W H gd kc t i ≠ 0 → tT W H gd t i = nb W H t i ∧ 0 ≤ nb W H t i ∧ nb W H t i < (n : Int) ∧ 0 < tD W H gd kc t i ∧ tD W H gd kc t i ≤ 84 ∧ tD W H gd kc t i = tC W H kc t i) := by
  by_cases c : stOk W H gd t i
  · have e1 := tT_yes c
    have e2 : tD W H gd kc t i = tC W H kc t i := if_pos c
    have h0 := c.1
    have h1 := hS.lt t i ht
    have h2 := hS.pos t i ht (by omega)
    have h3 := hS.top t i ht
    exact ⟨fun h => by omega, fun _ => ⟨e1, h0, by omega, by omega, by omega, e2⟩⟩
  · have e1 := tT_no c
    have e2 : tD W H gd kc t i = 0 := if_neg c
    exact ⟨fun _ => by omega, fun h => absurd e2 h⟩
/-- Who waits in the row. -/
def Pt (L : Nat → Nat) (m s : Nat) : Prop := ∃ k, k < m ∧ L k = s
def lenSl (v : Value) : Nat := match v with | .slice _ m _ => m | _ => 0
theorem one_cell (w : World) (v : Value) (T : TypeId) : (w.alloc (.cells #[v] T)).cell? ⟨w.heap.size, 0, none⟩ = some v := by go_simp
theorem row_near {z : World} {B : Nat} {v : Value} {W H t : Int} (h : z.ownsRow B 3 1 v 8 ((nbL W H t).map (Value.int .i64))) : ∃ NB nc, v = .slice (some ⟨NB, 0, none⟩) 8 nc ∧ B ≤ NB ∧ NB < z.heap.size ∧ 8 ≤ nc ∧ ∀ j, j < 8 → z.cell? ⟨NB, j, none⟩ = some (.int .i64 (nb W H t j)) := by
  rcases h.2 with ⟨_, h0⟩ | ⟨g, cap, cur, e, hg, hh, hc, hmx, hsz, htk⟩
  · omega
  · refine ⟨g, cap, e, hg, (Array.getElem?_eq_some_iff.1 hh).1, hc, fun j hj => ?_⟩
    have h1 : ((nbL W H t).map (Value.int .i64))[j]? = some (.int .i64 (nb W H t j)) := by
      unfold nbL
      rw [List.getElem?_map, List.getElem?_map, List.getElem?_range hj]
      rfl
    rw [← htk, List.getElem?_take, if_pos (by omega), Array.getElem?_toList] at h1
    simp [World.cell?, hh, h1]
set_option maxRecDepth 100000 in
set_option maxHeartbeats 3200000 in
theorem rfar_any (W H : Int) (bb off n c : Nat) (xs : List Int) (gd : Nat → Bool) (cl goal I : Nat) (w : World) (h : By w w.heap.size (some ⟨bb, off, none⟩) n xs) (hA : Arr w I n 4 (fun k => .bool (gd k))) (GG : Hk (GOk W H n xs)) (hc3 : cl < 3) (hg : goal < n) (hS : Hk (Stp n (tT W H gd) (tC W H (kcF cl xs)))) :
    Calls Tryd.prog 55 #[.agg #[.int .i64 W, .int .i64 H, .slice (some ⟨bb, off, none⟩) n c], .slice (some ⟨I, 0, none⟩) n n, .int .i64 cl, .int .i64 goal, .int .i64 (-1)] w fun e w' => ∃ J D', e = .returned (.slice (some ⟨J, 0, none⟩) n n) ∧ w.heap.size ≤ J ∧ Arr w' J n 3 (fun k => .int .i64 (D' k)) ∧ TabG n (tT W H gd) (tC W H (kcF cl xs)) goal (gd goal) D' ∧ Below w.heap.size w w' := by
  obtain ⟨i0, hi, iz0, iz1, iz2⟩ := info_parts info_int
  have HWB : Hk (Below w.heap.size w (w.alloc (.cells #[.int .i64 W, .int .i64 H, .slice (some ⟨bb, off, none⟩) n c] 24))) := ⟨(Below.refl _ _).alloc (Nat.le_refl _) _⟩
  have hNW : w.heap.size + 1 ≤ ((w.alloc (.cells #[.int .i64 W, .int .i64 H, .slice (some ⟨bb, off, none⟩) n c] 24))).heap.size := by simp
  have HB : Hk (Below (w.heap.size + 1) (w.alloc (.cells #[.int .i64 W, .int .i64 H, .slice (some ⟨bb, off, none⟩) n c] 24)) (w.alloc (.cells #[.int .i64 W, .int .i64 H, .slice (some ⟨bb, off, none⟩) n c] 24))) := ⟨Below.refl _ _⟩
  have HTR : Hk (∀ X, Below (w.heap.size + 1) (w.alloc (.cells #[.int .i64 W, .int .i64 H, .slice (some ⟨bb, off, none⟩) n c] 24)) X → Below w.heap.size w X) := ⟨fun X hX => HWB.out.trans (hX.mono (by omega))⟩
  have HBY := Hk.mk (fun (X : World) (hX : Below (w.heap.size + 1) (w.alloc (.cells #[.int .i64 W, .int .i64 H, .slice (some ⟨bb, off, none⟩) n c] 24)) X) => h.below (HTR.out X hX) (Nat.le_refl _))
  have hI := hA.lt
  have HA := Hk.mk hA
  have DM : Hk (Dm W H n) := ⟨dm_of GG.out⟩
  have n16 := DM.out.n16
  have hnn := DM.out.nn
  have hWH : W * H = (n : Int) := hnn.symm
  have hwn : IntKind.i64.wrap (n : Int) = (n : Int) := wr_in (by omega)
  clear hnn
  have g0 : (0 : Int) ≤ (goal : Int) := by omega
  have g1 : (goal : Int) < (n : Int) := by omega
  have ag := hA.cell hg
  have HAI := Hk.mk (fun (X : World) (hX : Below (w.heap.size + 1) (w.alloc (.cells #[.int .i64 W, .int .i64 H, .slice (some ⟨bb, off, none⟩) n c] 24)) X) => hA.later (HTR.out X hX))
  clear h hA
  obtain ⟨hc, hf, hl, hn', hm⟩ := kw_rules HB.out hNW
  go_enter Tryd.func55, Tryd.ntmps55
  go_wp2_with (at_make; go_must (refine wpList_make_full _ rfl _ _ 26 rfl (w.heap.size + 1) 3 i0 (.int .i64 0) 1 Tryd.underlying26 hi iz0 iz1 .i64 .i64 _ _ n rfl rfl rfl rfl (by rw [iz2]; omega) (by unfold maxLen; omega) (kw_size HB.out hNW) ?_); intro z1 hown hgrow; have HJ := Hk.mk (Arr.made hown rfl (z := .int .i64 0)); have hb := below_grown hgrow; replace HB := Hk.mk (kw_step HB.out hNW hb); clear hb; clear hc hf hl hn' hm; obtain ⟨hc, hf, hl, hn', hm⟩ := kw_rules HB.out hNW)
  have hJ : ((w.alloc (.cells #[.int .i64 W, .int .i64 H, .slice (some ⟨bb, off, none⟩) n c] 24))).heap.size = w.heap.size + 1 := by simp
  have HJ := HJ
  rw [hJ] at HJ
  clear hJ
  obtain ⟨J, hJ⟩ : ∃ J, w.heap.size + 1 = J := ⟨_, rfl⟩
  rw [hJ] at HJ ⊢
  have HJN : Hk (w.heap.size + 1 = J) := ⟨hJ⟩
  clear hJ
  have HB := HB
  clear hc hf hl hn' hm
  generalize z1 = W1 at *
  go_loopw [12] (fun i wr => ∃ k : Nat, i = .int .i64 k ∧ k ≤ n ∧ Hk (Below (w.heap.size + 1) (w.alloc (.cells #[.int .i64 W, .int .i64 H, .slice (some ⟨bb, off, none⟩) n c] 24)) wr) ∧ Hk (Arr wr J n 3 (fun j => .int .i64 (if j < k then -1 else 0)))) (fun i _ => n - (intOf i).toNat)
  case atStart => exact ⟨0, rfl, by omega, HB, ⟨HJ.out.congr fun k hk => by rw [if_neg (by omega)]⟩⟩
  case round =>
    clear HB HJ
    obtain ⟨k, rfl, hkn, HB, HJ⟩ := hrel
    obtain ⟨hc, hf, hl, hn', hm⟩ := kw_rules HB.out hNW
    by_cases hlt : k < n
    · have k0 : (0 : Int) ≤ (k : Int) := by omega
      have k1 : (k : Int) < (n : Int) := by omega
      have c0 := HJ.out.cell hlt
      have f0 := HJ.out.frozen k
      rw [if_neg (by omega)] at c0
      as_aux_lemma =>
        go_wp2_with fail
        exact ⟨⟨k + 1, by go_num, by omega, ⟨HB.out.setCell (by have := HJN.out; show w.heap.size + 1 ≤ J; omega) _⟩, ⟨(HJ.out.set hlt _).congr fun j hj => by
          by_cases e : j = k
          · rw [if_pos e, if_pos (by omega)]
          · rw [if_neg e]
            by_cases e2 : j < k
            · rw [if_pos e2, if_pos (by omega)]
            · rw [if_neg e2, if_neg (by omega)]⟩⟩, by simp [intOf]; omega⟩
    obtain rfl : n = k := by omega
    have HJ1 : Hk (Arr wr J n 3 (fun _ => .int .i64 (-1))) := ⟨HJ.out.congr fun j hj => by rw [if_pos hj]⟩
    clear HJ hkn hlt
    by_cases hgd' : gd goal = false
    · rw [hgd'] at ag
      as_aux_lemma =>
        go_wp2_with fail
        go_ret
        exact ⟨J, fun _ => -1, rfl, by have := HJN.out; omega, HJ1.out, by unfold TabG; rw [if_neg (by rw [hgd']; decide)]; exact fun _ _ => rfl, HTR.out _ HB.out⟩
    have hgd : gd goal = true := by simpa using hgd'
    clear hgd'
    rw [hgd] at ag
    have c0 := HJ1.out.cell hg
    have f0 := HJ1.out.frozen goal
    go_upto_region 9 with fail
    have HJ2 : Hk (Arr _ J n 3 (fun j => .int .i64 (oneD goal j))) := ⟨(HJ1.out.set hg (.int .i64 0)).congr fun j hj => by
      by_cases e : j = goal
      · rw [if_pos e, e, oneD_at]
      · rw [if_neg e, oneD_no e]⟩
    have HB2 : Hk (Below (w.heap.size + 1) (w.alloc (.cells #[.int .i64 W, .int .i64 H, .slice (some ⟨bb, off, none⟩) n c] 24)) (wr.setCell ⟨J, goal, none⟩ (.int .i64 0))) := ⟨HB.out.setCell (by have := HJN.out; show w.heap.size + 1 ≤ J; omega) _⟩
    clear HB HJ1 c0 f0
    clear hc hf hl hn' hm
    have HB := HB2
    clear HB2
    generalize wr.setCell ⟨J, goal, none⟩ (.int .i64 0) = W2 at *
    obtain ⟨hc, hf, hl, hn', hm⟩ := kw_rules HB.out hNW
    have HJB : Hk (J < W2.heap.size) := ⟨HJ2.out.lt⟩
    have HT0 : Hk (Tq (W2.alloc (.cells #[.int .i64 goal] 3)) (J + 1) W2.heap.size 0 1 1 (fun _ => goal)) := ⟨⟨HJB.out, by simp, by omega, by unfold maxLen; omega, fun k hk => by
      obtain rfl : k = 0 := by omega
      exact one_cell _ _ _, fun k hk => by
      obtain rfl : k = 0 := by omega
      exact ⟨by rw [show 0 + 0 = 0 from rfl, one_cell]; rfl, by go_simp⟩⟩⟩
    have HJ3 := Hk.mk (HJ2.out.alloc (.cells #[.int .i64 goal] 3))
    have HB3 := Hk.mk (kw_al HB.out hNW (.cells #[.int .i64 goal] 3))
    have HTL0 : Hk (W2.heap.size < (W2.alloc (.cells #[.int .i64 goal] 3)).heap.size) := ⟨by simp⟩
    go_upto_region 10 with fail
    clear HB HJ2
    clear hc hf hl hn' hm
    obtain ⟨W3, hW3⟩ : ∃ W3, W2.alloc (.cells #[.int .i64 goal] 3) = W3 := ⟨_, rfl⟩
    rw [hW3] at HT0 HJ3 HB3 HTL0 ⊢
    have HTL : Hk (W2.heap.size < W3.heap.size) := HTL0
    clear hW3 HTL0
    have HB := HB3
    clear HB3
    obtain ⟨hc, hf, hl, hn', hm⟩ := kw_rules HB.out hNW
    obtain ⟨ib, hib, hb0, hb1, hb2⟩ := info_parts info_b13
    go_wp2_with (at_make; go_must (refine wpList_make_full _ rfl _ _ 31 rfl (w.heap.size + 1) 4 ib (.bool false) 1 Tryd.underlying31 hib hb0 hb1 .i64 .i64 _ _ n rfl rfl rfl rfl (by rw [hb2]; omega) (by unfold maxLen; omega) (kw_size HB.out hNW) ?_); intro z3 hown hgrow; have HV := Hk.mk (Arr.made hown rfl (z := .bool false)); have hb := below_grown hgrow; replace HT0 := Hk.mk (HT0.out.later hb); replace HJ3 := Hk.mk (HJ3.out.later hb); have HVS : Hk (w.heap.size + 1 ≤ W3.heap.size) := ⟨kw_size HB.out hNW⟩; replace HB := Hk.mk (kw_step HB.out hNW hb); clear hb; clear hc hf hl hn' hm; obtain ⟨hc, hf, hl, hn', hm⟩ := kw_rules HB.out hNW)
    have HV := HV
    have HT0 := HT0
    have HB := HB
    have HJ3 := HJ3
    have hVB : W3.heap.size ≠ W2.heap.size ∧ W3.heap.size ≠ J := ⟨by have := HTL.out; omega, by have := HTL.out; have := HJB.out; omega⟩
    clear HTL
    clear hc hf hl hn' hm
    obtain ⟨V, hV⟩ : ∃ V, W3.heap.size = V := ⟨_, rfl⟩
    rw [hV] at HV hVB HVS ⊢
    clear hV
    obtain ⟨G0, hG0⟩ : ∃ G0, W2.heap.size = G0 := ⟨_, rfl⟩
    rw [hG0] at HT0 hVB ⊢
    clear hG0
    have HVJ : Hk (V ≠ J) := ⟨hVB.2⟩
    have HVG : Hk (G0 ≠ V) := ⟨fun e => hVB.1 e.symm⟩
    have HVL : Hk (w.heap.size + 1 ≤ V) := ⟨by have := HVS.out; omega⟩
    clear hVB HVS
    have HLB : Hk (Lab0 n (tT W H gd) (tC W H (kcF cl xs)) goal (oneD goal) (Pt (fun _ => goal) 1)) := ⟨Lab0.start hg ⟨0, by omega, rfl⟩⟩
    have HWT : Hk (∀ s, s < n → (fun _ : Nat => false) s = true → Pt (fun _ => goal) 1 s) := ⟨fun s _ h => by cases h⟩
    have HLK : Hk (∀ k, k < 1 → (fun _ : Nat => goal) k < n ∧ 0 ≤ oneD goal ((fun _ : Nat => goal) k)) := ⟨fun k _ => ⟨hg, by show 0 ≤ oneD goal goal; rw [oneD_at]; omega⟩⟩
    have HPT : Hk (2 * potD (oneD goal) n + 1 ≤ 100000000000) := ⟨by have := potD_one (g := goal) n; omega⟩
    go_loopw [13] (fun todo wr => ∃ (Dt : Nat → Int) (wt : Nat → Bool) (m g o c2 : Nat) (L : Nat → Nat), todo = .slice (some ⟨g, o, none⟩) m c2 ∧ Hk (Below (w.heap.size + 1) (w.alloc (.cells #[.int .i64 W, .int .i64 H, .slice (some ⟨bb, off, none⟩) n c] 24)) wr) ∧ Hk (Arr wr J n 3 (fun j => .int .i64 (Dt j))) ∧ Hk (Arr wr V n 4 (fun j => .bool (wt j))) ∧ Hk (Tq wr (J + 1) g o m c2 L) ∧ Hk (g ≠ V) ∧ Hk (Lab0 n (tT W H gd) (tC W H (kcF cl xs)) goal Dt (Pt L m)) ∧ Hk (∀ s, s < n → wt s = true → Pt L m s) ∧ Hk (∀ k, k < m → L k < n ∧ 0 ≤ Dt (L k)) ∧ Hk (2 * potD Dt n + m ≤ 100000000000)) (fun todo wr => 2 * potD (cellD wr J) n + lenSl todo)
    case atStart => exact ⟨oneD goal, fun _ => false, 1, G0, 0, 1, fun _ => goal, rfl, HB, HJ3, HV, HT0, HVG, HLB, HWT, HLK, HPT⟩
    case round =>
      clear HB HJ3 HV HT0 HLB HWT HLK HPT
      obtain ⟨Dt, wt, m, g, o, c2, L, rfl, HB, HJ, HV, HT, HGV, HLB, HWT, HLK, HPT⟩ := hrel
      obtain ⟨wo, rfl⟩ : ∃ wo : World, wo = wr := ⟨wr, rfl⟩
      obtain ⟨hc, hf, hl, hn', hm⟩ := kw_rules HB.out hNW
      cases m with
      | zero =>
        as_aux_lemma =>
          go_wp2_with fail
          go_ret
          exact ⟨J, Dt, rfl, by have := HJN.out; omega, HJ.out, by unfold TabG; rw [if_pos hgd]; exact HLB.out.out (fun s _ _ hp => by obtain ⟨k, hk, _⟩ := hp; omega), HTR.out _ HB.out⟩
      | succ m =>
        have HM0 : Hk (2 * potD (cellD wo J) n + lenSl (.slice (some ⟨g, o, none⟩) (m + 1) c2) = 2 * potD Dt n + (m + 1)) := ⟨by rw [pot_cell (fun k hk => HJ.out.cell hk)]; rfl⟩
        obtain ⟨ht, h0⟩ := HLK.out 0 (by omega)
        have tc := HT.out.cell 0 (by omega)
        rw [Nat.add_zero] at tc
        obtain ⟨t, htl⟩ : ∃ t, L 0 = t := ⟨_, rfl⟩
        rw [htl] at ht h0 tc
        have HTL := Hk.mk htl
        clear htl
        have m1 : (0 : Int) < (m : Int) + 1 := by omega
        have t0 : (0 : Int) ≤ (t : Int) := by omega
        have t1 : (t : Int) < (n : Int) := by omega
        have hle := HT.out.le
        have hmx := HT.out.mx
        have hmx' : c2 ≤ 9223372036854775807 := by have e : maxLen = 9223372036854775807 := rfl; omega
        have hsl := slice1_any g o m c2 hle hmx'
        have v0 := HV.out.cell ht
        have vf := HV.out.frozen t
        clear hmx
        go_upto_region 15 with fail
        have HT2 := Hk.mk (HT.out.cut.fr (M := fun j => j = V) ((Fr.refl (fun j => j = V) wo).setCell (p := ⟨V, t, none⟩) (fun _ => rfl) (.bool false)) HGV.out)
        have HJ2 := Hk.mk (HJ.out.far ⟨V, t, none⟩ (.bool false) (fun e => HVJ.out e.symm))
        have HV2 : Hk (Arr (wo.setCell ⟨V, t, none⟩ (.bool false)) V n 4 (fun j => .bool (if j = t then false else wt j))) := ⟨(HV.out.set ht (.bool false)).congr fun j hj => by
          by_cases e : j = t
          · rw [if_pos e, if_pos e]
          · rw [if_neg e, if_neg e]⟩
        have HB2 : Hk (Below (w.heap.size + 1) (w.alloc (.cells #[.int .i64 W, .int .i64 H, .slice (some ⟨bb, off, none⟩) n c] 24)) (wo.setCell ⟨V, t, none⟩ (.bool false))) := ⟨HB.out.setCell HVL.out _⟩
        have HLF : Hk (Lab n (tT W H gd) (tC W H (kcF cl xs)) goal Dt (Pt (fun k => L (k + 1)) m) t 0) := ⟨HLB.out.take (fun s hs hp => by
          obtain ⟨k, hk, e⟩ := hp
          cases k with
          | zero => exact absurd (e.symm.trans HTL.out) hs
          | succ k => exact ⟨k, by omega, e⟩) ht h0⟩
        have HWF : Hk (∀ s, s < n → (if s = t then false else wt s) = true → Pt (fun k => L (k + 1)) m s) := ⟨fun s hs hw => by
          by_cases e : s = t
          · rw [if_pos e] at hw; cases hw
          · rw [if_neg e] at hw
            obtain ⟨k, hk, e2⟩ := HWT.out s hs hw
            cases k with
            | zero => exact absurd (e2.symm.trans HTL.out) e
            | succ k => exact ⟨k, by omega, e2⟩⟩
        have HLF2 : Hk (∀ k, k < m → (fun k => L (k + 1)) k < n ∧ 0 ≤ Dt ((fun k => L (k + 1)) k)) := ⟨fun k hk => HLK.out (k + 1) (by omega)⟩
        have HPF : Hk (2 * potD Dt n + m ≤ 2 * potD Dt n + m) := ⟨Nat.le_refl _⟩
        obtain ⟨y, hy⟩ : ∃ y, Dt t = y := ⟨_, rfl⟩
        have HDY := Hk.mk hy
        clear hy HB HJ HV HT v0 vf hsl tc
        clear hc hf hl hn' hm
        obtain ⟨W5, hW5⟩ : ∃ W5, wo.setCell ⟨V, t, none⟩ (.bool false) = W5 := ⟨_, rfl⟩
        rw [hW5] at HT2 HJ2 HV2 HB2 ⊢
        clear hW5
        have HB := HB2
        clear HB2
        obtain ⟨hc, hf, hl, hn', hm⟩ := kw_rules HB.out hNW
        obtain ⟨o2, ho2⟩ : ∃ o2, cutO o c2 = o2 := ⟨_, rfl⟩
        obtain ⟨c3, hc3'⟩ : ∃ c3, c2 - 1 = c3 := ⟨_, rfl⟩
        rw [ho2, hc3'] at HT2 ⊢
        clear ho2 hc3'
        go_wp2_with (go_at_call 34; (with_reducible refine (rnear_any W H t _ _ GG.out.w1 GG.out.w2 GG.out.h1 GG.out.h2 t0 (by omega)).mono ?_); rintro e z5 ⟨nv, rfl, hrow, hb⟩; obtain ⟨NB, nc, rfl, hNB, hNBl, hnc, hcells⟩ := row_near hrow; have HNC := Hk.mk hcells; have HNG : Hk (NB ≠ g) := ⟨by have := HT2.out.lt; omega⟩; have HNJ : Hk (NB ≠ J) := ⟨by have := HJ2.out.lt; omega⟩; have HNV : Hk (NB ≠ V) := ⟨by have := HV2.out.lt; omega⟩; have HNL : Hk (NB < z5.heap.size) := ⟨hNBl⟩; replace HT2 := Hk.mk (HT2.out.later hb); replace HJ2 := Hk.mk (HJ2.out.later hb); replace HV2 := Hk.mk (HV2.out.later hb); clear hrow hcells hNB hNBl; replace HB := Hk.mk (kw_step HB.out hNW hb); clear hb; clear hc hf hl hn' hm; obtain ⟨hc, hf, hl, hn', hm⟩ := kw_rules HB.out hNW)
        have HB := HB
        have HNC := HNC
        have HT2 := HT2
        have HJ2 := HJ2
        have HV2 := HV2
        have HNG := HNG
        have HNJ := HNJ
        have HNV := HNV
        have HNL := HNL
        clear hc hf hl hn' hm
        have HSF : Hk (∀ i, (tD W H gd (kcF cl xs) t i = 0 → tT W H gd t i < 0) ∧ (tD W H gd (kcF cl xs) t i ≠ 0 → tT W H gd t i = nb W H t i ∧ 0 ≤ nb W H t i ∧ nb W H t i < (n : Int) ∧ 0 < tD W H gd (kcF cl xs) t i ∧ tD W H gd (kcF cl xs) t i ≤ 84 ∧ tD W H gd (kcF cl xs) t i = tC W H (kcF cl xs) t i)) := ⟨fun i => step_facts hS.out ht⟩
        go_loopw [13, 17] (fun todo ii wr => ∃ (i : Nat) (D2 : Nat → Int) (w2 : Nat → Bool) (m2 g2 o2 c3 : Nat) (L2 : Nat → Nat), ii = .int .i64 i ∧ i ≤ 8 ∧ todo = .slice (some ⟨g2, o2, none⟩) m2 c3 ∧ Hk (Below (w.heap.size + 1) (w.alloc (.cells #[.int .i64 W, .int .i64 H, .slice (some ⟨bb, off, none⟩) n c] 24)) wr) ∧ Hk (Arr wr J n 3 (fun j => .int .i64 (D2 j))) ∧ Hk (Arr wr V n 4 (fun j => .bool (w2 j))) ∧ Hk (Tq wr (J + 1) g2 o2 m2 c3 L2) ∧ Hk (g2 ≠ V) ∧ Hk (NB ≠ g2) ∧ Hk (NB < wr.heap.size) ∧ Hk (∀ j, j < 8 → wr.cell? ⟨NB, j, none⟩ = some (.int .i64 (nb W H t j))) ∧ Hk (Lab n (tT W H gd) (tC W H (kcF cl xs)) goal D2 (Pt L2 m2) t i) ∧ Hk (∀ s, s < n → w2 s = true → Pt L2 m2 s) ∧ Hk (∀ k, k < m2 → L2 k < n ∧ 0 ≤ D2 (L2 k)) ∧ Hk (D2 t = y) ∧ Hk (2 * potD D2 n + m2 ≤ 2 * potD Dt n + m)) (fun _ ii _ => 8 - (intOf ii).toNat)
        case atStart => exact ⟨0, Dt, _, m, g, o2, c3, _, rfl, by omega, rfl, HB, HJ2, HV2, HT2, HGV, HNG, HNL, HNC, HLF, HWF, HLF2, HDY, HPF⟩
        case round =>
          clear HB HJ2 HV2 HT2 HNG HNL HNC HLF HWF HLF2 HPF
          obtain ⟨i, D2, w2, m2, g2, o2, c3, L2, rfl, hi8, rfl, HB, HJ, HV, HT, HGV2, HNG, HNL, HNC, HLI, HWI, HLK2, HDY2, HPI⟩ := hrel
          obtain ⟨hc, hf, hl, hn', hm⟩ := kw_rules HB.out hNW
          by_cases hlt : i < 8
          · have i0' : (0 : Int) ≤ (i : Int) := by omega
            have i1' : (i : Int) < 8 := by omega
            have hsf := HSF.out i
            obtain ⟨ey, hey⟩ : ∃ ey, tD W H gd (kcF cl xs) t i = ey := ⟨_, rfl⟩
            rw [hey] at hsf
            have HEY := Hk.mk hey
            have HSI := Hk.mk hsf
            clear hsf hey
            by_cases hz : ey = 0
            · have de : (ey == 0) = true := by simpa using hz
              have hr : Rlx (tT W H gd) (tC W H (kcF cl xs)) D2 t i := fun h => by have := HSI.out.1 hz; omega
              as_aux_lemma =>
                go_wp2_with (go_at_call 59; (with_reducible refine (rstep_any W H bb off n c xs gd cl t i I NB nc _ ?_ ?_ HNC.out GG hc3 ht hlt hnc).mono ?_); (exact (HBY.out _ HB.out).mono (hsz1 HB.out)); (exact HAI.out _ HB.out); rintro e z6 ⟨rfl, hb⟩; rw [HEY.out]; replace HT := Hk.mk (HT.out.later hb); replace HJ := Hk.mk (HJ.out.later hb); replace HV := Hk.mk (HV.out.later hb); have HNC6 : Hk (∀ j, j < 8 → z6.cell? ⟨NB, j, none⟩ = some (.int .i64 (nb W H t j))) := ⟨fun j hj => (hb.cell (p := ⟨NB, j, none⟩) HNL.out).trans (HNC.out j hj)⟩; have HNL6 : Hk (NB < z6.heap.size) := ⟨Nat.lt_of_lt_of_le HNL.out hb.size⟩; replace HB := Hk.mk (kw_step HB.out hNW hb); clear hb; clear hc hf hl hn' hm; obtain ⟨hc, hf, hl, hn', hm⟩ := kw_rules HB.out hNW)
                exact ⟨⟨i + 1, D2, w2, m2, g2, o2, c3, L2, by go_num, by omega, rfl, HB, HJ, HV, HT, HGV2, HNG, HNL6, HNC6, ⟨HLI.out.skip hr⟩, HWI, HLK2, HDY2, HPI⟩, by simp [intOf]; omega⟩
            have de : (ey == 0) = false := by simpa using hz
            obtain ⟨q1, q2, q3, q4, q5, q6⟩ := HSI.out.2 hz
            obtain ⟨u, hu⟩ : ∃ u : Nat, nb W H t i = u := ⟨(nb W H t i).toNat, by omega⟩
            have hun : u < n := by omega
            have HTU : Hk (tT W H gd t i = (u : Int)) := ⟨by rw [q1, hu]⟩
            have HU := Hk.mk hu
            have HQ6 := Hk.mk q6
            have u0 : (0 : Int) ≤ (u : Int) := by omega
            have u1 : (u : Int) < (n : Int) := by omega
            obtain ⟨zz, hzz⟩ : ∃ zz, D2 u = zz := ⟨_, rfl⟩
            have HZ := Hk.mk hzz
            clear q1 q2 q3 q6 hu hzz hz HSI
            by_cases hz0 : zz < 0
            · have d1 : decide (0 ≤ zz) = false := by simp; omega
              have hd : D2 u < 0 ∨ y + ey < D2 u := Or.inl (by rw [HZ.out]; exact hz0)
              as_aux_lemma =>
                obtain ⟨_, yb0, yb1, hpot⟩ := HLI.out.putBd hS.out n16 HTU.out (show y + ey = D2 t + tC W H (kcF cl xs) t i by rw [HDY2.out, HQ6.out]) hd
                have htu : t ≠ u := fun e => by
                  subst e
                  have e1 := HDY2.out
                  have e2 := HZ.out
                  have e3 := HLI.out.nn
                  omega
                have HHD := Hk.mk hd
                have HPO := Hk.mk hpot
                clear hd hpot
                go_upto_region 19 with fail
                go_wp2_with (go_at_call 59; (with_reducible refine (rstep_any W H bb off n c xs gd cl t i I NB nc _ ?_ ?_ HNC.out GG hc3 ht hlt hnc).mono ?_); (exact (HBY.out _ HB.out).mono (hsz1 HB.out)); (exact HAI.out _ HB.out); rintro e z6 ⟨rfl, hb⟩; rw [HEY.out]; replace HT := Hk.mk (HT.out.later hb); replace HJ := Hk.mk (HJ.out.later hb); replace HV := Hk.mk (HV.out.later hb); have HNC6 : Hk (∀ j, j < 8 → z6.cell? ⟨NB, j, none⟩ = some (.int .i64 (nb W H t j))) := ⟨fun j hj => (hb.cell (p := ⟨NB, j, none⟩) HNL.out).trans (HNC.out j hj)⟩; have HNL6 : Hk (NB < z6.heap.size) := ⟨Nat.lt_of_lt_of_le HNL.out hb.size⟩; replace HB := Hk.mk (kw_step HB.out hNW hb); clear hb; clear hc hf hl hn' hm; obtain ⟨hc, hf, hl, hn', hm⟩ := kw_rules HB.out hNW; have n6 := HNC6.out i hlt; rw [HU.out] at n6; have ju := HJ.out.cell hun; have jt := HJ.out.cell ht; rw [HDY2.out] at jt; rw [HZ.out] at ju)
                go_region
                have fj := HJ.out.frozen u
                go_upto_region 24 with fail
                have HJ7 : Hk (Arr (z6.setCell ⟨J, u, none⟩ (.int .i64 (y + ey))).drew J n 3 (fun j => .int .i64 (updD D2 u (y + ey) j))) := ⟨(HJ.out.set hun (.int .i64 (y + ey))).drew.congr fun j hj => by
                  by_cases e : j = u
                  · rw [if_pos e, e, updD_at]
                  · rw [if_neg e, updD_far e]⟩
                have HB7 : Hk (Below (w.heap.size + 1) (w.alloc (.cells #[.int .i64 W, .int .i64 H, .slice (some ⟨bb, off, none⟩) n c] 24)) (z6.setCell ⟨J, u, none⟩ (.int .i64 (y + ey))).drew) := ⟨(HB.out.setCell (p := ⟨J, u, none⟩) (by have := HJN.out; show w.heap.size + 1 ≤ J; omega) _).drew⟩
                have HT7 := Hk.mk ((HT.out.farJ (Nat.lt_succ_self J) u (.int .i64 (y + ey))).drew)
                have HV7 := Hk.mk ((HV.out.far ⟨J, u, none⟩ (.int .i64 (y + ey)) HVJ.out).drew)
                have HN7 : Hk (∀ j, j < 8 → (z6.setCell ⟨J, u, none⟩ (.int .i64 (y + ey))).drew.cell? ⟨NB, j, none⟩ = some (.int .i64 (nb W H t j))) := ⟨fun j hj => by show (z6.setCell ⟨J, u, none⟩ (.int .i64 (y + ey))).cell? ⟨NB, j, none⟩ = _; rw [World.cell?_setCell_other _ _ _ _ (by have := HNJ.out; simp; try omega)]; exact HNC6.out j hj⟩
                have HNL7 : Hk (NB < (z6.setCell ⟨J, u, none⟩ (.int .i64 (y + ey))).drew.heap.size) := ⟨by simpa using HNL6.out⟩
                clear HB HJ HV HT HNC6 HNL6 n6 ju jt fj
                clear hc hf hl hn' hm
                obtain ⟨W7, hW7⟩ : ∃ W7, (z6.setCell ⟨J, u, none⟩ (.int .i64 (y + ey))).drew = W7 := ⟨_, rfl⟩
                rw [hW7] at HJ7 HB7 HT7 HV7 HN7 HNL7 ⊢
                clear hW7
                have HB := HB7
                clear HB7
                obtain ⟨hc, hf, hl, hn', hm⟩ := kw_rules HB.out hNW
                have hDY : updD D2 u (y + ey) t = y := by rw [updD_far htu]; exact HDY2.out
                have vu := HV7.out.cell hun
                have vf := HV7.out.frozen u
                by_cases hw : w2 u = true
                · rw [hw] at vu
                  as_aux_lemma =>
                    go_wp2_with fail
                    exact ⟨⟨i + 1, updD D2 u (y + ey), w2, m2, g2, o2, c3, L2, by go_num, by omega, rfl, HB, HJ7, HV7, HT7, HGV2, HNG, HNL7, HN7, ⟨HLI.out.put hS.out hlt HTU.out (by rw [HDY2.out, HQ6.out]) HHD.out (fun s _ hp => hp) (HWI.out u hun hw)⟩, HWI, ⟨fun k hk => ⟨(HLK2.out k hk).1, by
                      by_cases e : L2 k = u
                      · rw [e, updD_at]; omega
                      · rw [updD_far e]; exact (HLK2.out k hk).2⟩⟩, ⟨hDY⟩, ⟨by have := HPO.out; have := HPI.out; omega⟩⟩, by simp [intOf]; omega⟩
                have hw' : w2 u = false := by simpa using hw
                rw [hw'] at vu
                have HWU := Hk.mk hw'
                clear hw hw'
                as_aux_lemma =>
                  go_upto_region 26 with fail
                  have HV8 : Hk (Arr (W7.setCell ⟨V, u, none⟩ (.bool true)) V n 4 (fun j => .bool (if j = u then true else w2 j))) := ⟨(HV7.out.set hun (.bool true)).congr fun j hj => by
                    by_cases e : j = u
                    · rw [if_pos e, if_pos e]
                    · rw [if_neg e, if_neg e]⟩
                  have HJ8 := Hk.mk (HJ7.out.far ⟨V, u, none⟩ (.bool true) (fun e => HVJ.out e.symm))
                  have HB8 : Hk (Below (w.heap.size + 1) (w.alloc (.cells #[.int .i64 W, .int .i64 H, .slice (some ⟨bb, off, none⟩) n c] 24)) (W7.setCell ⟨V, u, none⟩ (.bool true))) := ⟨HB.out.setCell HVL.out _⟩
                  have HT8 := Hk.mk (HT7.out.fr (M := fun j => j = V) ((Fr.refl (fun j => j = V) W7).setCell (p := ⟨V, u, none⟩) (fun _ => rfl) (.bool true)) HGV2.out)
                  have HN8 : Hk (∀ j, j < 8 → (W7.setCell ⟨V, u, none⟩ (.bool true)).cell? ⟨NB, j, none⟩ = some (.int .i64 (nb W H t j))) := ⟨fun j hj => by rw [World.cell?_setCell_other _ _ _ _ (by have := HNV.out; simp; try omega)]; exact HN7.out j hj⟩
                  have HNL8 : Hk (NB < (W7.setCell ⟨V, u, none⟩ (.bool true)).heap.size) := ⟨by simpa using HNL7.out⟩
                  clear HB HJ7 HV7 HT7 HN7 HNL7 vu vf
                  clear hc hf hl hn' hm
                  obtain ⟨W8, hW8⟩ : ∃ W8, W7.setCell ⟨V, u, none⟩ (.bool true) = W8 := ⟨_, rfl⟩
                  rw [hW8] at HJ8 HB8 HT8 HV8 HN8 HNL8 ⊢
                  clear hW8
                  have HB := HB8
                  clear HB8
                  obtain ⟨hc, hf, hl, hn', hm⟩ := kw_rules HB.out hNW
                  have hm2 : m2 ≤ 100000000000 := by have := HPI.out; have := HPT.out; omega
                  go_wp2_with (at_builtin; go_must (refine wpList_append_tq rfl _ _ rfl i0 hi iz0 iz1 iz2 (J + 1) g2 o2 m2 c3 L2 (HT8.out.later ((Below.refl _ _).alloc (Nat.le_refl _) _)) rfl u W8.heap.size rfl (one_cell _ _ _) hm2 ?_); intro g9 o9 c9 w9 ht9 hfr9 hnw9; have hb9 : Below W8.heap.size W8 (W8.alloc (.cells #[.int .i64 (u : Int)] 3)) := (Below.refl _ _).alloc (Nat.le_refl _) _; have HT9 := Hk.mk ht9; have HFR9 := Hk.mk hfr9; have HNW9 := Hk.mk hnw9; clear ht9 hfr9 hnw9)
                  have hbs := HT8.out.bs
                  have hal : (W8.alloc (.cells #[.int .i64 (u : Int)] 3)).heap.size = W8.heap.size + 1 := by simp
                  have HNB9 : Hk (NB < w9.heap.size) := ⟨by have := HFR9.out.size; have := HNL8.out; omega⟩
                  have HBB := HFR9.out.below (B := w.heap.size + 1) (kw_size (kw_al HB.out hNW _) hNW) (fun j _ e => by have := HJN.out; omega)
                  exact ⟨⟨i + 1, updD D2 u (y + ey), _, m2 + 1, g9, o9, c9, _, by go_num, by omega, rfl, ⟨(kw_al HB.out hNW _).trans HBB⟩, ⟨(HJ8.out.alloc _).fr HFR9.out (by omega)⟩, ⟨(HV8.out.alloc _).fr HFR9.out (fun e => HGV2.out e.symm)⟩, HT9, ⟨by
                    rcases HNW9.out with e | e
                    · rw [e]; exact HGV2.out
                    · have := HV8.out.lt; omega⟩, ⟨by
                    rcases HNW9.out with e | e
                    · rw [e]; exact HNG.out
                    · have := HNL8.out; omega⟩, HNB9, ⟨fun j hj => (HFR9.out.cell (by have := HNL8.out; omega) HNG.out).trans ((hb9.cell (p := ⟨NB, j, none⟩) HNL8.out).trans (HN8.out j hj))⟩, ⟨HLI.out.put hS.out hlt HTU.out (by rw [HDY2.out, HQ6.out]) HHD.out (fun s _ hp => by
                      obtain ⟨k, hk, e⟩ := hp
                      exact ⟨k, by omega, by show (if k = m2 then u else L2 k) = s; rw [if_neg (by omega)]; exact e⟩) ⟨m2, by omega, if_pos rfl⟩⟩, ⟨fun s hs hw => by
                      by_cases e : s = u
                      · exact ⟨m2, by omega, by show (if m2 = m2 then u else L2 m2) = s; rw [if_pos rfl, e]⟩
                      · rw [if_neg e] at hw
                        obtain ⟨k, hk, e2⟩ := HWI.out s hs hw
                        exact ⟨k, by omega, by show (if k = m2 then u else L2 k) = s; rw [if_neg (by omega)]; exact e2⟩⟩, ⟨fun k hk => by
                      show (if k = m2 then u else L2 k) < n ∧ 0 ≤ updD D2 u (y + ey) (if k = m2 then u else L2 k)
                      by_cases e : k = m2
                      · rw [if_pos e, updD_at]; exact ⟨hun, by omega⟩
                      · rw [if_neg e]
                        have h9 := HLK2.out k (by omega)
                        refine ⟨h9.1, ?_⟩
                        by_cases e2 : L2 k = u
                        · rw [e2, updD_at]; omega
                        · rw [updD_far e2]; exact h9.2⟩, ⟨hDY⟩, ⟨by have := HPO.out; have := HPI.out; omega⟩⟩, by simp [intOf]; omega⟩
            have d1 : decide (0 ≤ zz) = true := by simp; omega
            by_cases hz1 : zz ≤ y + ey
            · have d2 : decide (zz ≤ y + ey) = true := by simpa using hz1
              have hr : Rlx (tT W H gd) (tC W H (kcF cl xs)) D2 t i := fun h => by
                rw [HTU.out, ← HQ6.out, HDY2.out]
                simp only [Int.toNat_natCast]
                rw [HZ.out]
                omega
              have hyb := HLI.out.bd n16 ht
              rw [HDY2.out] at hyb
              have hyn := HLI.out.nn
              rw [HDY2.out] at hyn
              as_aux_lemma =>
                go_upto_region 19 with fail
                go_wp2_with (go_at_call 59; (with_reducible refine (rstep_any W H bb off n c xs gd cl t i I NB nc _ ?_ ?_ HNC.out GG hc3 ht hlt hnc).mono ?_); (exact (HBY.out _ HB.out).mono (hsz1 HB.out)); (exact HAI.out _ HB.out); rintro e z6 ⟨rfl, hb⟩; rw [HEY.out]; replace HT := Hk.mk (HT.out.later hb); replace HJ := Hk.mk (HJ.out.later hb); replace HV := Hk.mk (HV.out.later hb); have HNC6 : Hk (∀ j, j < 8 → z6.cell? ⟨NB, j, none⟩ = some (.int .i64 (nb W H t j))) := ⟨fun j hj => (hb.cell (p := ⟨NB, j, none⟩) HNL.out).trans (HNC.out j hj)⟩; have HNL6 : Hk (NB < z6.heap.size) := ⟨Nat.lt_of_lt_of_le HNL.out hb.size⟩; replace HB := Hk.mk (kw_step HB.out hNW hb); clear hb; clear hc hf hl hn' hm; obtain ⟨hc, hf, hl, hn', hm⟩ := kw_rules HB.out hNW; have n6 := HNC6.out i hlt; rw [HU.out] at n6; have ju := HJ.out.cell hun; have jt := HJ.out.cell ht; rw [HDY2.out] at jt; rw [HZ.out] at ju)
                go_region
                go_wp2_with fail
                exact ⟨⟨i + 1, D2, w2, m2, g2, o2, c3, L2, by go_num, by omega, rfl, ⟨HB.out.drew⟩, ⟨HJ.out.drew⟩, ⟨HV.out.drew⟩, ⟨HT.out.drew⟩, HGV2, HNG, HNL6, HNC6, ⟨HLI.out.skip hr⟩, HWI, HLK2, HDY2, HPI⟩, by simp [intOf]; omega⟩
            have d2 : decide (zz ≤ y + ey) = false := by simpa using hz1
            have hd : D2 u < 0 ∨ y + ey < D2 u := Or.inr (by rw [HZ.out]; omega)
            as_aux_lemma =>
              obtain ⟨_, yb0, yb1, hpot⟩ := HLI.out.putBd hS.out n16 HTU.out (show y + ey = D2 t + tC W H (kcF cl xs) t i by rw [HDY2.out, HQ6.out]) hd
              have htu : t ≠ u := fun e => by
                subst e
                have e1 := HDY2.out
                have e2 := HZ.out
                have e3 := HLI.out.nn
                omega
              have HHD := Hk.mk hd
              have HPO := Hk.mk hpot
              clear hd hpot
              go_upto_region 19 with fail
              go_wp2_with (go_at_call 59; (with_reducible refine (rstep_any W H bb off n c xs gd cl t i I NB nc _ ?_ ?_ HNC.out GG hc3 ht hlt hnc).mono ?_); (exact (HBY.out _ HB.out).mono (hsz1 HB.out)); (exact HAI.out _ HB.out); rintro e z6 ⟨rfl, hb⟩; rw [HEY.out]; replace HT := Hk.mk (HT.out.later hb); replace HJ := Hk.mk (HJ.out.later hb); replace HV := Hk.mk (HV.out.later hb); have HNC6 : Hk (∀ j, j < 8 → z6.cell? ⟨NB, j, none⟩ = some (.int .i64 (nb W H t j))) := ⟨fun j hj => (hb.cell (p := ⟨NB, j, none⟩) HNL.out).trans (HNC.out j hj)⟩; have HNL6 : Hk (NB < z6.heap.size) := ⟨Nat.lt_of_lt_of_le HNL.out hb.size⟩; replace HB := Hk.mk (kw_step HB.out hNW hb); clear hb; clear hc hf hl hn' hm; obtain ⟨hc, hf, hl, hn', hm⟩ := kw_rules HB.out hNW; have n6 := HNC6.out i hlt; rw [HU.out] at n6; have ju := HJ.out.cell hun; have jt := HJ.out.cell ht; rw [HDY2.out] at jt; rw [HZ.out] at ju)
              go_region
              have fj := HJ.out.frozen u
              go_upto_region 24 with fail
              have HJ7 : Hk (Arr (z6.setCell ⟨J, u, none⟩ (.int .i64 (y + ey))).drew J n 3 (fun j => .int .i64 (updD D2 u (y + ey) j))) := ⟨(HJ.out.set hun (.int .i64 (y + ey))).drew.congr fun j hj => by
                by_cases e : j = u
                · rw [if_pos e, e, updD_at]
                · rw [if_neg e, updD_far e]⟩
              have HB7 : Hk (Below (w.heap.size + 1) (w.alloc (.cells #[.int .i64 W, .int .i64 H, .slice (some ⟨bb, off, none⟩) n c] 24)) (z6.setCell ⟨J, u, none⟩ (.int .i64 (y + ey))).drew) := ⟨(HB.out.setCell (p := ⟨J, u, none⟩) (by have := HJN.out; show w.heap.size + 1 ≤ J; omega) _).drew⟩
              have HT7 := Hk.mk ((HT.out.farJ (Nat.lt_succ_self J) u (.int .i64 (y + ey))).drew)
              have HV7 := Hk.mk ((HV.out.far ⟨J, u, none⟩ (.int .i64 (y + ey)) HVJ.out).drew)
              have HN7 : Hk (∀ j, j < 8 → (z6.setCell ⟨J, u, none⟩ (.int .i64 (y + ey))).drew.cell? ⟨NB, j, none⟩ = some (.int .i64 (nb W H t j))) := ⟨fun j hj => by show (z6.setCell ⟨J, u, none⟩ (.int .i64 (y + ey))).cell? ⟨NB, j, none⟩ = _; rw [World.cell?_setCell_other _ _ _ _ (by have := HNJ.out; simp; try omega)]; exact HNC6.out j hj⟩
              have HNL7 : Hk (NB < (z6.setCell ⟨J, u, none⟩ (.int .i64 (y + ey))).drew.heap.size) := ⟨by simpa using HNL6.out⟩
              clear HB HJ HV HT HNC6 HNL6 n6 ju jt fj
              clear hc hf hl hn' hm
              obtain ⟨W7, hW7⟩ : ∃ W7, (z6.setCell ⟨J, u, none⟩ (.int .i64 (y + ey))).drew = W7 := ⟨_, rfl⟩
              rw [hW7] at HJ7 HB7 HT7 HV7 HN7 HNL7 ⊢
              clear hW7
              have HB := HB7
              clear HB7
              obtain ⟨hc, hf, hl, hn', hm⟩ := kw_rules HB.out hNW
              have hDY : updD D2 u (y + ey) t = y := by rw [updD_far htu]; exact HDY2.out
              have vu := HV7.out.cell hun
              have vf := HV7.out.frozen u
              by_cases hw : w2 u = true
              · rw [hw] at vu
                as_aux_lemma =>
                  go_wp2_with fail
                  exact ⟨⟨i + 1, updD D2 u (y + ey), w2, m2, g2, o2, c3, L2, by go_num, by omega, rfl, HB, HJ7, HV7, HT7, HGV2, HNG, HNL7, HN7, ⟨HLI.out.put hS.out hlt HTU.out (by rw [HDY2.out, HQ6.out]) HHD.out (fun s _ hp => hp) (HWI.out u hun hw)⟩, HWI, ⟨fun k hk => ⟨(HLK2.out k hk).1, by
                    by_cases e : L2 k = u
                    · rw [e, updD_at]; omega
                    · rw [updD_far e]; exact (HLK2.out k hk).2⟩⟩, ⟨hDY⟩, ⟨by have := HPO.out; have := HPI.out; omega⟩⟩, by simp [intOf]; omega⟩
              have hw' : w2 u = false := by simpa using hw
              rw [hw'] at vu
              have HWU := Hk.mk hw'
              clear hw hw'
              as_aux_lemma =>
                go_upto_region 26 with fail
                have HV8 : Hk (Arr (W7.setCell ⟨V, u, none⟩ (.bool true)) V n 4 (fun j => .bool (if j = u then true else w2 j))) := ⟨(HV7.out.set hun (.bool true)).congr fun j hj => by
                  by_cases e : j = u
                  · rw [if_pos e, if_pos e]
                  · rw [if_neg e, if_neg e]⟩
                have HJ8 := Hk.mk (HJ7.out.far ⟨V, u, none⟩ (.bool true) (fun e => HVJ.out e.symm))
                have HB8 : Hk (Below (w.heap.size + 1) (w.alloc (.cells #[.int .i64 W, .int .i64 H, .slice (some ⟨bb, off, none⟩) n c] 24)) (W7.setCell ⟨V, u, none⟩ (.bool true))) := ⟨HB.out.setCell HVL.out _⟩
                have HT8 := Hk.mk (HT7.out.fr (M := fun j => j = V) ((Fr.refl (fun j => j = V) W7).setCell (p := ⟨V, u, none⟩) (fun _ => rfl) (.bool true)) HGV2.out)
                have HN8 : Hk (∀ j, j < 8 → (W7.setCell ⟨V, u, none⟩ (.bool true)).cell? ⟨NB, j, none⟩ = some (.int .i64 (nb W H t j))) := ⟨fun j hj => by rw [World.cell?_setCell_other _ _ _ _ (by have := HNV.out; simp; try omega)]; exact HN7.out j hj⟩
                have HNL8 : Hk (NB < (W7.setCell ⟨V, u, none⟩ (.bool true)).heap.size) := ⟨by simpa using HNL7.out⟩
                clear HB HJ7 HV7 HT7 HN7 HNL7 vu vf
                clear hc hf hl hn' hm
                obtain ⟨W8, hW8⟩ : ∃ W8, W7.setCell ⟨V, u, none⟩ (.bool true) = W8 := ⟨_, rfl⟩
                rw [hW8] at HJ8 HB8 HT8 HV8 HN8 HNL8 ⊢
                clear hW8
                have HB := HB8
                clear HB8
                obtain ⟨hc, hf, hl, hn', hm⟩ := kw_rules HB.out hNW
                have hm2 : m2 ≤ 100000000000 := by have := HPI.out; have := HPT.out; omega
                go_wp2_with (at_builtin; go_must (refine wpList_append_tq rfl _ _ rfl i0 hi iz0 iz1 iz2 (J + 1) g2 o2 m2 c3 L2 (HT8.out.later ((Below.refl _ _).alloc (Nat.le_refl _) _)) rfl u W8.heap.size rfl (one_cell _ _ _) hm2 ?_); intro g9 o9 c9 w9 ht9 hfr9 hnw9; have hb9 : Below W8.heap.size W8 (W8.alloc (.cells #[.int .i64 (u : Int)] 3)) := (Below.refl _ _).alloc (Nat.le_refl _) _; have HT9 := Hk.mk ht9; have HFR9 := Hk.mk hfr9; have HNW9 := Hk.mk hnw9; clear ht9 hfr9 hnw9)
                have hbs := HT8.out.bs
                have hal : (W8.alloc (.cells #[.int .i64 (u : Int)] 3)).heap.size = W8.heap.size + 1 := by simp
                have HNB9 : Hk (NB < w9.heap.size) := ⟨by have := HFR9.out.size; have := HNL8.out; omega⟩
                have HBB := HFR9.out.below (B := w.heap.size + 1) (kw_size (kw_al HB.out hNW _) hNW) (fun j _ e => by have := HJN.out; omega)
                exact ⟨⟨i + 1, updD D2 u (y + ey), _, m2 + 1, g9, o9, c9, _, by go_num, by omega, rfl, ⟨(kw_al HB.out hNW _).trans HBB⟩, ⟨(HJ8.out.alloc _).fr HFR9.out (by omega)⟩, ⟨(HV8.out.alloc _).fr HFR9.out (fun e => HGV2.out e.symm)⟩, HT9, ⟨by
                  rcases HNW9.out with e | e
                  · rw [e]; exact HGV2.out
                  · have := HV8.out.lt; omega⟩, ⟨by
                  rcases HNW9.out with e | e
                  · rw [e]; exact HNG.out
                  · have := HNL8.out; omega⟩, HNB9, ⟨fun j hj => (HFR9.out.cell (by have := HNL8.out; omega) HNG.out).trans ((hb9.cell (p := ⟨NB, j, none⟩) HNL8.out).trans (HN8.out j hj))⟩, ⟨HLI.out.put hS.out hlt HTU.out (by rw [HDY2.out, HQ6.out]) HHD.out (fun s _ hp => by
                    obtain ⟨k, hk, e⟩ := hp
                    exact ⟨k, by omega, by show (if k = m2 then u else L2 k) = s; rw [if_neg (by omega)]; exact e⟩) ⟨m2, by omega, if_pos rfl⟩⟩, ⟨fun s hs hw => by
                    by_cases e : s = u
                    · exact ⟨m2, by omega, by show (if m2 = m2 then u else L2 m2) = s; rw [if_pos rfl, e]⟩
                    · rw [if_neg e] at hw
                      obtain ⟨k, hk, e2⟩ := HWI.out s hs hw
                      exact ⟨k, by omega, by show (if k = m2 then u else L2 k) = s; rw [if_neg (by omega)]; exact e2⟩⟩, ⟨fun k hk => by
                    show (if k = m2 then u else L2 k) < n ∧ 0 ≤ updD D2 u (y + ey) (if k = m2 then u else L2 k)
                    by_cases e : k = m2
                    · rw [if_pos e, updD_at]; exact ⟨hun, by omega⟩
                    · rw [if_neg e]
                      have h9 := HLK2.out k (by omega)
                      refine ⟨h9.1, ?_⟩
                      by_cases e2 : L2 k = u
                      · rw [e2, updD_at]; omega
                      · rw [updD_far e2]; exact h9.2⟩, ⟨hDY⟩, ⟨by have := HPO.out; have := HPI.out; omega⟩⟩, by simp [intOf]; omega⟩
          · obtain rfl : i = 8 := by omega
            as_aux_lemma =>
              go_wp2_with fail
              exact ⟨⟨D2, w2, m2, g2, o2, c3, L2, rfl, HB, HJ, HV, HT, HGV2, ⟨HLI.out.done⟩, HWI, HLK2, ⟨by have := HPI.out; have := HPT.out; omega⟩⟩, by rw [HM0.out, pot_cell (fun k hk => HJ.out.cell hk)]; show 2 * potD D2 n + m2 < _; have := HPI.out; omega⟩
end Go.Proofs.YthabjihpjdlmoaaDoor
