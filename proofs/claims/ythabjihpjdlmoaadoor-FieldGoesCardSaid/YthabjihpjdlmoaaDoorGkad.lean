import Derived.Deep.QuietTactic
import Derived.BigQuiet
import Derived.Deep.RegionWith
import Derived.Deep.RegionHeld3
import Derived.Deep.DeepCutAuto
import Derived.Deep.DeepFit
import Derived.Outline
import Derived.Test.YthabjihpjdlmoaaDoorGkz
import Derived.Test.YthabjihpjdlmoaaDoorGkac
/- Layer 13: the reference's Dirs. -/
namespace Go.Proofs.YthabjihpjdlmoaaDoor
open Go.ChangeShapes Go.WideShapes Go.ChangeAt Go.RowKit Go.Deep
set_option linter.unusedVariables false
set_option linter.unusedSimpArgs false
/-- The first hit from m on. -/
def DirFrom (T C : Nat → Nat → Int) (D : Nat → Int) (t m : Nat) (v : Int) : Prop := (v = -1 ∧ ∀ i, m ≤ i → i < 8 → ¬ hitD T C D t i) ∨ (∃ i : Nat, m ≤ i ∧ i < 8 ∧ v = (i : Int) ∧ hitD T C D t i ∧ ∀ j, m ≤ j → j < i → ¬ hitD T C D t j)
theorem DirFrom.start {T C : Nat → Nat → Int} {D : Nat → Int} {t : Nat} : DirFrom T C D t 8 (-1) := Or.inl ⟨rfl, fun i h1 h2 => by omega⟩
theorem DirFrom.miss {T C : Nat → Nat → Int} {D : Nat → Int} {t m : Nat} {v : Int} (h : DirFrom T C D t (m + 1) v) (hn : ¬ hitD T C D t m) : DirFrom T C D t m v := by
  rcases h with ⟨e, h⟩ | ⟨i, h1, h2, e, h3, h4⟩
  · refine Or.inl ⟨e, fun i a b => ?_⟩
    by_cases q : i = m
    · rw [q]; exact hn
    · exact h i (by omega) b
  · refine Or.inr ⟨i, by omega, h2, e, h3, fun j a b => ?_⟩
    by_cases q : j = m
    · rw [q]; exact hn
    · exact h4 j (by omega) b
theorem DirFrom.hit {T C : Nat → Nat → Int} {D : Nat → Int} {t m : Nat} (hm : m < 8) (h : hitD T C D t m) : DirFrom T C D t m (m : Int) := Or.inr ⟨m, Nat.le_refl _, hm, rfl, h, fun j a b => by omega⟩
theorem DirFrom.dir {T C : Nat → Nat → Int} {D : Nat → Int} {t : Nat} {v : Int} (h : DirFrom T C D t 0 v) (h0 : 0 < D t) : IsDir T C D t v := by
  rcases h with ⟨e, h⟩ | ⟨i, _, h2, e, h3, h4⟩
  · exact Or.inl ⟨e, Or.inr fun i hi => h i (by omega) hi⟩
  · exact Or.inr ⟨i, h2, e, h0, h3, fun j hj => h4 j (by omega) hj⟩
set_option maxRecDepth 100000 in
set_option maxHeartbeats 3200000 in
theorem rdirs_in (W H : Int) (bb off n c : Nat) (xs : List Int) (la : Option Addr) (ln lc : Nat) (bs : List Bd) (cl s goal : Nat) (w : World) (h : By w w.heap.size (some ⟨bb, off, none⟩) n xs) (hb0 : Bq w w.heap.size la ln bs) (hn : n ≤ 140737488355328) (hln : ln ≤ 1099511627776) (hc3 : cl < 3) (hs : s ≤ 3) (MM : Hk (MOk W H n xs bs)) (hg : goal < n) :
    Calls Tryd.prog 32 #[.agg #[.int .i64 W, .int .i64 H, .slice (some ⟨bb, off, none⟩) n c], .slice la ln lc, .int .i64 cl, .int .i64 s, .int .i64 goal] w fun e w' => ∃ (J : Nat) (V D : Nat → Int), e = .returned (.slice (some ⟨J, 0, none⟩) n n) ∧ w.heap.size ≤ J ∧ Arr w' J n 3 (fun t => .int .i64 (V t)) ∧ TabG n (tT W H (gdF W H xs bs cl s)) (tC W H (kcF cl xs)) goal (gdF W H xs bs cl s goal) D ∧ (∀ t, t < n → IsDir (tT W H (gdF W H xs bs cl s)) (tC W H (kcF cl xs)) D t (V t)) ∧ Below w.heap.size w w' := by
  obtain ⟨i0, hi, iz0, iz1, iz2⟩ := info_parts info_int
  have HWB : Hk (Below w.heap.size w (w.alloc (.cells #[.int .i64 W, .int .i64 H, .slice (some ⟨bb, off, none⟩) n c] 24))) := ⟨(Below.refl _ _).alloc (Nat.le_refl _) _⟩
  have hNW : w.heap.size + 1 ≤ ((w.alloc (.cells #[.int .i64 W, .int .i64 H, .slice (some ⟨bb, off, none⟩) n c] 24))).heap.size := by simp
  have HB : Hk (Below (w.heap.size + 1) (w.alloc (.cells #[.int .i64 W, .int .i64 H, .slice (some ⟨bb, off, none⟩) n c] 24)) (w.alloc (.cells #[.int .i64 W, .int .i64 H, .slice (some ⟨bb, off, none⟩) n c] 24))) := ⟨Below.refl _ _⟩
  have HTR : Hk (∀ X, Below (w.heap.size + 1) (w.alloc (.cells #[.int .i64 W, .int .i64 H, .slice (some ⟨bb, off, none⟩) n c] 24)) X → Below w.heap.size w X) := ⟨fun X hX => HWB.out.trans (hX.mono (by omega))⟩
  have HBY := Hk.mk (fun (X : World) (hX : Below (w.heap.size + 1) (w.alloc (.cells #[.int .i64 W, .int .i64 H, .slice (some ⟨bb, off, none⟩) n c] 24)) X) => h.below (HTR.out X hX) (Nat.le_refl _))
  have HBQ := Hk.mk (fun (X : World) (hX : Below (w.heap.size + 1) (w.alloc (.cells #[.int .i64 W, .int .i64 H, .slice (some ⟨bb, off, none⟩) n c] 24)) X) => hb0.below (HTR.out X hX) (Nat.le_refl _))
  have GG : Hk (GOk W H n xs) := ⟨MM.out.g⟩
  have n16 := (dm_of GG.out).n16
  have SS : Hk (Stp n (tT W H (gdF W H xs bs cl s)) (tC W H (kcF cl xs))) := ⟨fd_stp GG.out bs cl s⟩
  clear h hb0
  obtain ⟨hc, hf, hl, hn', hm⟩ := kw_rules HB.out hNW
  go_enter Tryd.func32, Tryd.ntmps32
  go_upto_region 3 with (first
    | (go_at_call 19; (refine (rgood_any W H (some ⟨bb, off, none⟩) n c xs la ln lc bs cl s _ ?_ ?_ hn hc3 hs MM).mono ?_); (exact (HBY.out _ HB.out).mono (hsz1 HB.out)); (exact (HBQ.out _ HB.out).mono (hsz1 HB.out)); rintro e z ⟨I, rfl, hI, hAi, hb⟩; have HAI : Hk (Arr _ I n 4 (fun t => .bool (gdF W H xs bs cl s t))) := ⟨hAi⟩; clear hI hAi; replace HB := Hk.mk (kw_step HB.out hNW hb); clear hb; clear hc hf hl hn' hm; obtain ⟨hc, hf, hl, hn', hm⟩ := kw_rules HB.out hNW)
    | (go_at_call 55; (with_reducible refine (rfar_any W H bb off n c xs (gdF W H xs bs cl s) cl goal I _ ?_ HAI.out GG hc3 hg SS).mono ?_); (exact (HBY.out _ HB.out).mono (hsz1 HB.out)); rintro e z ⟨J, D, rfl, hJ, hAj, hT, hb⟩; have HAJ := Hk.mk hAj; have HTB := Hk.mk hT; replace HAI := Hk.mk (HAI.out.later hb); clear hJ hAj hT; replace HB := Hk.mk (kw_step HB.out hNW hb); clear hb; clear hc hf hl hn' hm; obtain ⟨hc, hf, hl, hn', hm⟩ := kw_rules HB.out hNW))
  have HBD : Hk (∀ k, k < n → -1 ≤ D k ∧ D k ≤ 1400000) := ⟨tabG_bd HTB.out SS.out hg n16⟩
  go_wp2_with (at_make; go_must (refine wpList_make_full _ rfl _ _ 26 rfl (w.heap.size + 1) 3 i0 (.int .i64 0) 1 Tryd.underlying26 hi iz0 iz1 .i64 .i64 _ _ n rfl rfl rfl rfl (by rw [iz2]; omega) (by unfold maxLen; omega) (kw_size HB.out hNW) ?_); intro z1 hown hgrow; have HV := Hk.mk (Arr.made hown rfl (z := .int .i64 0)); have hb := below_grown hgrow; have HVS : Hk (w.heap.size + 1 ≤ z.heap.size) := ⟨kw_size HB.out hNW⟩; have hIV : I < z.heap.size := HAI.out.lt; have hJV : J < z.heap.size := HAJ.out.lt; replace HAI := Hk.mk (HAI.out.later hb); replace HAJ := Hk.mk (HAJ.out.later hb); replace HB := Hk.mk (kw_step HB.out hNW hb); clear hb; clear hc hf hl hn' hm; obtain ⟨hc, hf, hl, hn', hm⟩ := kw_rules HB.out hNW)
  have HB := HB
  have HV := HV
  have HAI := HAI
  have HAJ := HAJ
  clear hc hf hl hn' hm
  obtain ⟨Q, hQ⟩ : ∃ Q, z.heap.size = Q := ⟨_, rfl⟩
  rw [hQ] at HV HVS hIV hJV ⊢
  clear hQ
  go_loopw [14] (fun tt wr => ∃ (t : Nat) (V : Nat → Int), tt = .int .i64 t ∧ t ≤ n ∧ Hk (Below (w.heap.size + 1) (w.alloc (.cells #[.int .i64 W, .int .i64 H, .slice (some ⟨bb, off, none⟩) n c] 24)) wr) ∧ Hk (Arr wr I n 4 (fun t => .bool (gdF W H xs bs cl s t))) ∧ Hk (Arr wr J n 3 (fun t => .int .i64 (D t))) ∧ Hk (Arr wr Q n 3 (fun t => .int .i64 (V t))) ∧ Hk (∀ j, j < t → IsDir (tT W H (gdF W H xs bs cl s)) (tC W H (kcF cl xs)) D j (V j))) (fun tt _ => n - (intOf tt).toNat)
  case atStart => exact ⟨0, fun _ => 0, rfl, by omega, HB, HAI, HAJ, HV, ⟨fun j hj => absurd hj (by omega)⟩⟩
  case round =>
    clear HB HAI HAJ HV
    obtain ⟨t, V, rfl, ht, HB, HAI, HAJ, HV, HDR⟩ := hrel
    obtain ⟨hc, hf, hl, hn', hm⟩ := kw_rules HB.out hNW
    by_cases hlt : t < n
    · have t0 : (0 : Int) ≤ (t : Int) := by omega
      have t1 : (t : Int) < (n : Int) := by omega
      have v0 := HV.out.cell hlt
      have vf := HV.out.frozen t
      obtain ⟨y, hy⟩ : ∃ y, D t = y := ⟨_, rfl⟩
      have HY := Hk.mk hy
      clear hy
      go_upto_region 8 with fail
      have HB2 : Hk (Below (w.heap.size + 1) (w.alloc (.cells #[.int .i64 W, .int .i64 H, .slice (some ⟨bb, off, none⟩) n c] 24)) (wr.setCell ⟨Q, t, none⟩ (.int .i64 (-1)))) := ⟨HB.out.setCell (by exact HVS.out) _⟩
      have HAI2 := Hk.mk (HAI.out.far ⟨Q, t, none⟩ (.int .i64 (-1)) (by show I ≠ Q; omega))
      have HAJ2 := Hk.mk (HAJ.out.far ⟨Q, t, none⟩ (.int .i64 (-1)) (by show J ≠ Q; omega))
      have HV2 : Hk (Arr (wr.setCell ⟨Q, t, none⟩ (.int .i64 (-1))) Q n 3 (fun j => .int .i64 (if j = t then -1 else V j))) := ⟨(HV.out.set hlt _).congr fun j hj => by
        by_cases e : j = t
        · rw [if_pos e, if_pos e]
        · rw [if_neg e, if_neg e]⟩
      clear HB HAI HAJ HV v0 vf
      clear hc hf hl hn' hm
      obtain ⟨W2, hW2⟩ : ∃ W2, wr.setCell ⟨Q, t, none⟩ (.int .i64 (-1)) = W2 := ⟨_, rfl⟩
      rw [hW2] at HB2 HAI2 HAJ2 HV2 ⊢
      clear hW2
      have HB := HB2
      have HAI := HAI2
      have HAJ := HAJ2
      have HV := HV2
      clear HB2 HAI2 HAJ2 HV2
      obtain ⟨hc, hf, hl, hn', hm⟩ := kw_rules HB.out hNW
      have jt := HAJ.out.cell hlt
      rw [HY.out] at jt
      by_cases hy0 : y ≤ 0
      · have d0 : decide (y ≤ 0) = true := by simpa using hy0
        as_aux_lemma =>
          go_wp2_with fail
          exact ⟨⟨t + 1, fun j => if j = t then -1 else V j, by go_num, by omega, HB, HAI, HAJ, HV, ⟨fun j hj => by
            show IsDir _ _ D j (if j = t then -1 else V j)
            by_cases e : j = t
            · rw [if_pos e, e]
              exact Or.inl ⟨rfl, Or.inl (by rw [HY.out]; exact hy0)⟩
            · rw [if_neg e]
              exact HDR.out j (by omega)⟩⟩, by simp [intOf]; omega⟩
      have d0 : decide (y ≤ 0) = false := by simpa using hy0
      have HREL : Hk (∀ i, i < 8 → 0 ≤ tT W H (gdF W H xs bs cl s) t i → 0 ≤ D (tT W H (gdF W H xs bs cl s) t i).toNat) := ⟨fun i hi h0 => by
        have hT := HTB.out
        unfold TabG at hT
        by_cases cg : gdF W H xs bs cl s goal = true
        · rw [if_pos cg] at hT
          exact (hT.rel t i hlt hi (by rw [HY.out]; omega) h0).1
        · rw [if_neg cg] at hT
          have := hT t hlt
          rw [HY.out] at this
          omega⟩
      go_wp2_with (go_at_call 34; (with_reducible refine (rnear_any W H t _ _ GG.out.w1 GG.out.w2 GG.out.h1 GG.out.h2 t0 (by omega)).mono ?_); rintro e z5 ⟨nv, rfl, hrow, hb⟩; obtain ⟨NB, nc, rfl, hNB, hNBl, hnc, hcells⟩ := row_near hrow; have HNC := Hk.mk hcells; have HNL : Hk (NB < z5.heap.size) := ⟨hNBl⟩; have HNQ : Hk (NB ≠ Q) := ⟨by have := HV.out.lt; omega⟩; replace HAI := Hk.mk (HAI.out.later hb); replace HAJ := Hk.mk (HAJ.out.later hb); replace HV := Hk.mk (HV.out.later hb); clear hrow hcells hNB hNBl; replace HB := Hk.mk (kw_step HB.out hNW hb); clear hb; clear hc hf hl hn' hm; obtain ⟨hc, hf, hl, hn', hm⟩ := kw_rules HB.out hNW)
      have HB := HB
      have HNC := HNC
      have HNL := HNL
      have HNQ := HNQ
      have HAI := HAI
      have HAJ := HAJ
      have HV := HV
      clear hc hf hl hn' hm
      have HSF : Hk (∀ i, (tD W H (gdF W H xs bs cl s) (kcF cl xs) t i = 0 → tT W H (gdF W H xs bs cl s) t i < 0) ∧ (tD W H (gdF W H xs bs cl s) (kcF cl xs) t i ≠ 0 → tT W H (gdF W H xs bs cl s) t i = nb W H t i ∧ 0 ≤ nb W H t i ∧ nb W H t i < (n : Int) ∧ 0 < tD W H (gdF W H xs bs cl s) (kcF cl xs) t i ∧ tD W H (gdF W H xs bs cl s) (kcF cl xs) t i ≤ 84 ∧ tD W H (gdF W H xs bs cl s) (kcF cl xs) t i = tC W H (kcF cl xs) t i)) := ⟨fun i => step_facts SS.out hlt⟩
      go_loopw [16] (fun ii wr => ∃ (i8 : Nat) (x : Int) (V2 : Nat → Int), ii = .int .i64 x ∧ i8 ≤ 8 ∧ x = (i8 : Int) - 1 ∧ Hk (Below (w.heap.size + 1) (w.alloc (.cells #[.int .i64 W, .int .i64 H, .slice (some ⟨bb, off, none⟩) n c] 24)) wr) ∧ Hk (Arr wr I n 4 (fun t => .bool (gdF W H xs bs cl s t))) ∧ Hk (Arr wr J n 3 (fun t => .int .i64 (D t))) ∧ Hk (Arr wr Q n 3 (fun t => .int .i64 (V2 t))) ∧ Hk (NB < wr.heap.size) ∧ Hk (∀ j, j < 8 → wr.cell? ⟨NB, j, none⟩ = some (.int .i64 (nb W H t j))) ∧ Hk (∀ j, j < t → V2 j = V j) ∧ Hk (DirFrom (tT W H (gdF W H xs bs cl s)) (tC W H (kcF cl xs)) D t i8 (V2 t))) (fun ii _ => (intOf ii + 1).toNat)
      case atStart => exact ⟨8, 7, _, rfl, by omega, rfl, HB, HAI, HAJ, HV, HNL, HNC, ⟨fun j hj => by rw [if_neg (by omega)]⟩, ⟨by rw [if_pos rfl]; exact DirFrom.start⟩⟩
      case round =>
        clear HB HAI HAJ HV HNL HNC
        obtain ⟨i8, x, V2, rfl, hi8, hx, HB, HAI, HAJ, HV, HNL, HNC, HVO, HDF⟩ := hrel
        obtain ⟨hc, hf, hl, hn', hm⟩ := kw_rules HB.out hNW
        cases i8 with
        | zero =>
          have dx : decide (0 ≤ x) = false := by simp; omega
          as_aux_lemma =>
            go_wp2_with fail
            exact ⟨⟨t + 1, V2, by go_num, by omega, HB, HAI, HAJ, HV, ⟨fun j hj => by
              by_cases e : j = t
              · rw [e]; exact HDF.out.dir (by rw [HY.out]; omega)
              · rw [HVO.out j (by omega)]; exact HDR.out j (by omega)⟩⟩, by simp [intOf]; omega⟩
        | succ m =>
          obtain rfl : x = (m : Int) := by omega
          have hm8 : m < 8 := by omega
          have m0 : (0 : Int) ≤ (m : Int) := by omega
          have m1 : (m : Int) < 8 := by omega
          have dm : decide (0 ≤ (m : Int)) = true := by simp
          have hsf := HSF.out m
          obtain ⟨ey, hey⟩ : ∃ ey, tD W H (gdF W H xs bs cl s) (kcF cl xs) t m = ey := ⟨_, rfl⟩
          rw [hey] at hsf
          have HEY := Hk.mk hey
          have HSI := Hk.mk hsf
          clear hsf hey hx
          by_cases hz : ey = 0
          · have hno : ¬ hitD (tT W H (gdF W H xs bs cl s)) (tC W H (kcF cl xs)) D t m := fun h => by have := HSI.out.1 hz; have := h.1; omega
            have de : decide (0 < ey) = false := by simp; omega
            as_aux_lemma =>
              go_upto_region 14 with (go_at_call 59; (with_reducible refine (rstep_any W H bb off n c xs (gdF W H xs bs cl s) cl t m I NB nc _ ?_ HAI.out HNC.out GG hc3 hlt hm8 hnc).mono ?_); (exact (HBY.out _ HB.out).mono (hsz1 HB.out)); rintro e z6 ⟨rfl, hb⟩; rw [HEY.out]; replace HAI := Hk.mk (HAI.out.later hb); replace HAJ := Hk.mk (HAJ.out.later hb); replace HV := Hk.mk (HV.out.later hb); have HNC6 : Hk (∀ j, j < 8 → z6.cell? ⟨NB, j, none⟩ = some (.int .i64 (nb W H t j))) := ⟨fun j hj => (hb.cell (p := ⟨NB, j, none⟩) HNL.out).trans (HNC.out j hj)⟩; have HNL6 : Hk (NB < z6.heap.size) := ⟨Nat.lt_of_lt_of_le HNL.out hb.size⟩;  replace HB := Hk.mk (kw_step HB.out hNW hb); clear hb; clear hc hf hl hn' hm; obtain ⟨hc, hf, hl, hn', hm⟩ := kw_rules HB.out hNW)
              go_region
              go_wp2_with fail
              exact ⟨⟨m, (m : Int) - 1, V2, by go_num, by omega, rfl, ⟨HB.out.drew⟩, ⟨HAI.out.drew⟩, ⟨HAJ.out.drew⟩, ⟨HV.out.drew⟩, HNL6, HNC6, HVO, ⟨HDF.out.miss hno⟩⟩, by simp [intOf]; try omega⟩
          obtain ⟨q1, q2, q3, q4, q5, q6⟩ := HSI.out.2 hz
          have de : decide (0 < ey) = true := by simpa using q4
          obtain ⟨u, hu⟩ : ∃ u : Nat, nb W H t m = u := ⟨(nb W H t m).toNat, by omega⟩
          have hun : u < n := by omega
          have HTU : Hk (tT W H (gdF W H xs bs cl s) t m = (u : Int)) := ⟨by rw [q1, hu]⟩
          have HU := Hk.mk hu
          have HQ6 := Hk.mk q6
          have u0 : (0 : Int) ≤ (u : Int) := by omega
          have u1 : (u : Int) < (n : Int) := by omega
          obtain ⟨zz, hzz⟩ : ∃ zz, D u = zz := ⟨_, rfl⟩
          have HZ := Hk.mk hzz
          have hzb := HBD.out u hun
          rw [hzz] at hzb
          have hz0 : 0 ≤ zz := by
            have := HREL.out m hm8 (by rw [HTU.out]; omega)
            rw [HTU.out] at this
            simp only [Int.toNat_natCast] at this
            rw [hzz] at this
            exact this
          have dz : decide (0 ≤ zz) = true := by simpa using hz0
          have HH : Hk (hitD (tT W H (gdF W H xs bs cl s)) (tC W H (kcF cl xs)) D t m ↔ zz + ey = y) := ⟨by
            unfold hitD
            rw [HTU.out, HY.out, ← HQ6.out]
            simp only [Int.toNat_natCast]
            rw [HZ.out]
            exact ⟨fun h => h.2, fun h => ⟨by omega, h⟩⟩⟩
          clear q1 q2 q3 q6 hu hzz hz HSI
          by_cases hh : zz + ey = y
          · have dh : (zz + ey == y) = true := by simpa using hh
            as_aux_lemma =>
              go_upto_region 14 with (go_at_call 59; (with_reducible refine (rstep_any W H bb off n c xs (gdF W H xs bs cl s) cl t m I NB nc _ ?_ HAI.out HNC.out GG hc3 hlt hm8 hnc).mono ?_); (exact (HBY.out _ HB.out).mono (hsz1 HB.out)); rintro e z6 ⟨rfl, hb⟩; rw [HEY.out]; replace HAI := Hk.mk (HAI.out.later hb); replace HAJ := Hk.mk (HAJ.out.later hb); replace HV := Hk.mk (HV.out.later hb); have HNC6 : Hk (∀ j, j < 8 → z6.cell? ⟨NB, j, none⟩ = some (.int .i64 (nb W H t j))) := ⟨fun j hj => (hb.cell (p := ⟨NB, j, none⟩) HNL.out).trans (HNC.out j hj)⟩; have HNL6 : Hk (NB < z6.heap.size) := ⟨Nat.lt_of_lt_of_le HNL.out hb.size⟩; have n6 := HNC6.out m hm8; rw [HU.out] at n6; have ju := HAJ.out.cell hun; have jt := HAJ.out.cell hlt; rw [HY.out] at jt; rw [HZ.out] at ju; replace HB := Hk.mk (kw_step HB.out hNW hb); clear hb; clear hc hf hl hn' hm; obtain ⟨hc, hf, hl, hn', hm⟩ := kw_rules HB.out hNW)
              go_region
              have v0 := HV.out.cell hlt
              have vf := HV.out.frozen t
              go_wp2_with fail
              exact ⟨⟨m, (m : Int) - 1, fun j => if j = t then (m : Int) else V2 j, by go_num, by omega, rfl, ⟨HB.out.drew.setCell (by exact HVS.out) _⟩, ⟨HAI.out.drew.far _ _ (by show I ≠ Q; omega)⟩, ⟨HAJ.out.drew.far _ _ (by show J ≠ Q; omega)⟩, ⟨(HV.out.drew.set hlt _).congr fun j hj => by
                show Value.int .i64 (if j = t then (m : Int) else V2 j) = _
                by_cases e : j = t
                · rw [if_pos e, if_pos e]
                · rw [if_neg e, if_neg e]⟩, ⟨by simpa using HNL6.out⟩, ⟨fun j hj => by show (z6.setCell ⟨Q, t, none⟩ (.int .i64 (m : Int))).cell? ⟨NB, j, none⟩ = _; rw [World.cell?_setCell_other _ _ _ _ (by have := HNQ.out; simp; try omega)]; exact HNC6.out j hj⟩, ⟨fun j hj => by show (if j = t then (m : Int) else V2 j) = V j; rw [if_neg (by omega)]; exact HVO.out j hj⟩, ⟨by show DirFrom _ _ D t m (if t = t then (m : Int) else V2 t); rw [if_pos rfl]; exact DirFrom.hit hm8 (HH.out.2 hh)⟩⟩, by simp [intOf]; try omega⟩
          · have dh : (zz + ey == y) = false := by simpa using hh
            have hno : ¬ hitD (tT W H (gdF W H xs bs cl s)) (tC W H (kcF cl xs)) D t m := fun h => hh (HH.out.1 h)
            as_aux_lemma =>
              go_upto_region 14 with (go_at_call 59; (with_reducible refine (rstep_any W H bb off n c xs (gdF W H xs bs cl s) cl t m I NB nc _ ?_ HAI.out HNC.out GG hc3 hlt hm8 hnc).mono ?_); (exact (HBY.out _ HB.out).mono (hsz1 HB.out)); rintro e z6 ⟨rfl, hb⟩; rw [HEY.out]; replace HAI := Hk.mk (HAI.out.later hb); replace HAJ := Hk.mk (HAJ.out.later hb); replace HV := Hk.mk (HV.out.later hb); have HNC6 : Hk (∀ j, j < 8 → z6.cell? ⟨NB, j, none⟩ = some (.int .i64 (nb W H t j))) := ⟨fun j hj => (hb.cell (p := ⟨NB, j, none⟩) HNL.out).trans (HNC.out j hj)⟩; have HNL6 : Hk (NB < z6.heap.size) := ⟨Nat.lt_of_lt_of_le HNL.out hb.size⟩; have n6 := HNC6.out m hm8; rw [HU.out] at n6; have ju := HAJ.out.cell hun; have jt := HAJ.out.cell hlt; rw [HY.out] at jt; rw [HZ.out] at ju; replace HB := Hk.mk (kw_step HB.out hNW hb); clear hb; clear hc hf hl hn' hm; obtain ⟨hc, hf, hl, hn', hm⟩ := kw_rules HB.out hNW)
              go_region
              go_wp2_with fail
              exact ⟨⟨m, (m : Int) - 1, V2, by go_num, by omega, rfl, ⟨HB.out.drew⟩, ⟨HAI.out.drew⟩, ⟨HAJ.out.drew⟩, ⟨HV.out.drew⟩, HNL6, HNC6, HVO, ⟨HDF.out.miss hno⟩⟩, by simp [intOf]; try omega⟩
    · obtain rfl : n = t := by omega
      as_aux_lemma =>
        go_wp2_with fail
        go_ret
        exact ⟨Q, V, D, rfl, by have := HVS.out; omega, HV.out, HTB.out, HDR.out, HTR.out _ HB.out⟩
theorem rdirs_any (W H : Int) (a : Option Addr) (n c : Nat) (xs : List Int) (la : Option Addr) (ln lc : Nat) (bs : List Bd) (cl s goal : Nat) (w : World) (h : By w w.heap.size a n xs) (hb0 : Bq w w.heap.size la ln bs) (hn : n ≤ 140737488355328) (hln : ln ≤ 1099511627776) (hc3 : cl < 3) (hs : s ≤ 3) (MM : Hk (MOk W H n xs bs)) (hg : goal < n) :
    Calls Tryd.prog 32 #[.agg #[.int .i64 W, .int .i64 H, .slice a n c], .slice la ln lc, .int .i64 cl, .int .i64 s, .int .i64 goal] w fun e w' => ∃ (J : Nat) (V D : Nat → Int), e = .returned (.slice (some ⟨J, 0, none⟩) n n) ∧ w.heap.size ≤ J ∧ Arr w' J n 3 (fun t => .int .i64 (V t)) ∧ TabG n (tT W H (gdF W H xs bs cl s)) (tC W H (kcF cl xs)) goal (gdF W H xs bs cl s goal) D ∧ (∀ t, t < n → IsDir (tT W H (gdF W H xs bs cl s)) (tC W H (kcF cl xs)) D t (V t)) ∧ Below w.heap.size w w' := by
  obtain ⟨bb, off, rfl, _, _⟩ := h.at_ (by omega)
  exact rdirs_in W H bb off n c xs la ln lc bs cl s goal w h hb0 hn hln hc3 hs MM hg
end Go.Proofs.YthabjihpjdlmoaaDoor
