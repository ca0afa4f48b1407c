import Derived.Deep.QuietTactic
import Derived.BigQuiet
import Derived.Deep.RegionWith
import Derived.Deep.RegionHeld3
import Derived.Deep.DeepCutAuto
import Derived.Deep.DeepFit
import Derived.Outline
import Derived.Test.YthabjihpjdlmoaaDoorSkab
/- Layer 20: the reference's places. -/
namespace Go.Proofs.YthabjihpjdlmoaaDoor
open Go.ChangeShapes Go.WideShapes Go.ChangeAt Go.RowKit Go.Deep
set_option linter.unusedVariables false
set_option linter.unusedSimpArgs false
/-- Those of a ring among the first t tiles. -/
def slT (W : Int) (g : Nat) (gd : Nat → Bool) (gap d : Int) (t : Nat) : List Nat := ((List.range t).filter (slP W g gap d)).filter gd
theorem slT_yes {W : Int} {g : Nat} {gd : Nat → Bool} {gap d : Int} {t : Nat} (h1 : slP W g gap d t = true) (h2 : gd t = true) : slT W g gd gap d (t + 1) = slT W g gd gap d t ++ [t] := by
  unfold slT
  rw [List.range_succ, List.filter_append, List.filter_append, List.filter_cons_of_pos h1]
  simp [h2]
theorem slT_no {W : Int} {g : Nat} {gd : Nat → Bool} {gap d : Int} {t : Nat} (h : slP W g gap d t = false ∨ gd t = false) : slT W g gd gap d (t + 1) = slT W g gd gap d t := by
  unfold slT
  rw [List.range_succ, List.filter_append, List.filter_append]
  rcases h with h | h
  · rw [show [t].filter (slP W g gap d) = [] by simp [h]]; simp
  · by_cases c : slP W g gap d t = true
    · rw [List.filter_cons_of_pos c]; simp [h]
    · rw [Bool.not_eq_true] at c
      rw [show [t].filter (slP W g gap d) = [] by simp [c]]; simp
theorem slT_all (W : Int) (g n : Nat) (gd : Nat → Bool) (gap d : Int) : slT W g gd gap d n = slF W g n gd gap d := rfl
theorem slT_pre (W : Int) (g : Nat) (gd : Nat → Bool) (gap d : Int) (t : Nat) : ∀ k, ∃ r, slT W g gd gap d (t + k) = slT W g gd gap d t ++ r
  | 0 => ⟨[], by simp⟩
  | k + 1 => by
    obtain ⟨r, hr⟩ := slT_pre W g gd gap d t k
    by_cases c : slP W g gap d (t + k) = true ∧ gd (t + k) = true
    · exact ⟨r ++ [t + k], by rw [← Nat.add_assoc, slT_yes c.1 c.2, hr, List.append_assoc]⟩
    · refine ⟨r, ?_⟩
      rw [← Nat.add_assoc, slT_no, hr]
      cases h1 : slP W g gap d (t + k)
      · exact Or.inl rfl
      · cases h2 : gd (t + k)
        · exact Or.inr rfl
        · exact absurd ⟨h1, h2⟩ c
theorem tmod0 {x g : Int} : x.tmod g = 0 ↔ x % g = 0 := by
  rw [← Int.dvd_iff_tmod_eq_zero, Int.dvd_iff_emod_eq_zero]
theorem ownD {w : World} {S n : Nat} {T : TypeId} {v : Value} {xs : List Value} (h : w.ownsRow S T 1 v n xs) (m : Nat) : (w.drewN m).ownsRow S T 1 v n xs := h
theorem xy_bd20 {W H : Int} {n t : Nat} (hW : 1 ≤ W) (hn : (n : Int) = W * H) (ht : t < n) : 0 ≤ (t : Int) % W ∧ (t : Int) % W < W ∧ 0 ≤ (t : Int) / W ∧ (t : Int) / W < H :=
  ⟨Int.emod_nonneg _ (by omega), Int.emod_lt_of_pos _ (by omega), Int.ediv_nonneg (by omega) (by omega), Int.ediv_lt_of_lt_mul (by omega) (by rw [Int.mul_comm]; omega)⟩
theorem mx20 {a b A : Int} (h : (if a < b then b else a) = A) : A = max a b := by subst h; split <;> omega
set_option maxRecDepth 1000000 in
set_option maxHeartbeats 6400000 in
theorem rslots_yes (W H : Int) (a : Option Addr) (n c : Nat) (xs : List Int) (la : Option Addr) (ln lc : Nat) (bs : List Bd) (cl s goal N : Nat) (w : World) (h : By w w.heap.size a n xs) (hb0 : Bq w w.heap.size la ln bs) (hn : n ≤ 140737488355328) (hc3 : cl < 3) (hs : s ≤ 3) (MM : Hk (MOk W H n xs bs)) (hg : goal < n) (hN : N ≤ 64) :
    Calls Tryd.prog 45 #[.agg #[.int .i64 W, .int .i64 H, .slice a n c], .slice la ln lc, .int .i64 cl, .int .i64 s, .int .i64 goal, .int .i64 N] w fun e w' => ∃ v, e = .returned v ∧ w'.ownsRow w.heap.size 3 1 v (slA W H goal n (gdF W H xs bs cl s) (2 * (s : Int) + 1) N).length (natsL (slA W H goal n (gdF W H xs bs cl s) (2 * (s : Int) + 1) N)) ∧ Below w.heap.size w w' := by
  obtain ⟨ii, hii, hiz0, hiz1, hiz2⟩ := info_parts info_int
  have HWB : Hk (Below w.heap.size w (w.alloc (.cells #[.int .i64 W, .int .i64 H, .slice a n c] 24))) := ⟨(Below.refl _ _).alloc (Nat.le_refl _) _⟩
  have hNW : w.heap.size + 1 ≤ ((w.alloc (.cells #[.int .i64 W, .int .i64 H, .slice a n c] 24))).heap.size := by simp
  have HB : Hk (Below (w.heap.size + 1) (w.alloc (.cells #[.int .i64 W, .int .i64 H, .slice a n c] 24)) (w.alloc (.cells #[.int .i64 W, .int .i64 H, .slice a n c] 24))) := ⟨Below.refl _ _⟩
  have HTR : Hk (∀ X, Below (w.heap.size + 1) (w.alloc (.cells #[.int .i64 W, .int .i64 H, .slice a n c] 24)) X → Below w.heap.size w X) := ⟨fun X hX => HWB.out.trans (hX.mono (by omega))⟩
  have HBY := Hk.mk (fun (X : World) (hX : Below (w.heap.size + 1) (w.alloc (.cells #[.int .i64 W, .int .i64 H, .slice a n c] 24)) X) => h.below (HTR.out X hX) (Nat.le_refl _))
  have HBQ := Hk.mk (fun (X : World) (hX : Below (w.heap.size + 1) (w.alloc (.cells #[.int .i64 W, .int .i64 H, .slice a n c] 24)) X) => hb0.below (HTR.out X hX) (Nat.le_refl _))
  clear h hb0
  obtain ⟨hc, hf, hl, hn', hm⟩ := kw_rules HB.out hNW
  obtain ⟨gap, hgap⟩ : ∃ q, 2 * (s : Int) + 1 = q := ⟨_, rfl⟩
  have hgp := gap_of hs hgap.symm
  have HGP := Hk.mk hgp
  have gb : 1 ≤ gap ∧ gap ≤ 7 := by omega
  have gap0 : ¬ gap = 0 := by omega
  rw [hgap]
  clear hgp
  have hw1 := MM.out.g.w1
  have hw2 := MM.out.g.w2
  have hh1 := MM.out.g.h1
  have hh2 := MM.out.g.h2
  have n16 := (dm_of MM.out.g).n16
  have hW0 : ¬ W = 0 := by omega
  have ws1 : IntKind.i64.wrap (2 * (s : Int)) = 2 * (s : Int) := by rw [IntKind.wrap_i64]; omega
  have ws2 : IntKind.i64.wrap gap = gap := by rw [IntKind.wrap_i64]; omega
  obtain ⟨gx0, gx1, gy0, gy1⟩ := xy_bd20 hw1 MM.out.g.nn hg
  have gtm : (goal : Int).tmod W = (goal : Int) % W := Int.tmod_eq_emod_of_nonneg (by omega)
  have gtd : (goal : Int).tdiv W = (goal : Int) / W := Int.tdiv_eq_ediv_of_nonneg (by omega)
  obtain ⟨gx, hgx⟩ : ∃ q, (goal : Int) % W = q := ⟨_, rfl⟩
  obtain ⟨gy, hgy⟩ : ∃ q, (goal : Int) / W = q := ⟨_, rfl⟩
  have HSP : Hk (∀ (f t : Nat), slP W goal gap f t = slX gap f ((t : Int) % W) ((t : Int) / W) gx gy) := ⟨fun f t => by unfold slP; rw [hgx, hgy]⟩
  rw [hgx] at gtm gx0 gx1
  rw [hgy] at gtd gy0 gy1
  clear hgx hgy
  go_enter Tryd.func45, Tryd.ntmps45
  go_upto_region 4 with (go_at_call 19; (with_reducible refine (rgood_any W H a n c xs la ln lc bs cl s _ ?_ ?_ hn hc3 hs MM).mono ?_); (exact (HBY.out _ HB.out).mono (hsz1 HB.out)); (exact (HBQ.out _ HB.out).mono (hsz1 HB.out)); rintro e z ⟨I, rfl, hI, hA, hb⟩; have HAI := Hk.mk (show Arr z I n 4 (fun k => .bool ((gdF W H xs bs cl s) k)) from hA); clear hI hA; replace HB := Hk.mk (kw_step HB.out hNW hb); clear hb; clear hc hf hl hn' hm; obtain ⟨hc, hf, hl, hn', hm⟩ := kw_rules HB.out hNW)
  have HB := HB
  have HAI := HAI
  clear hc hf hl hn' hm
  obtain ⟨V0, rfl⟩ : ∃ V0 : World, V0 = z := ⟨z, rfl⟩
  have hVs : w.heap.size + 1 ≤ V0.heap.size := kw_size HB.out hNW
  have bX : w.heap.size < V0.heap.size := by omega
  obtain ⟨x0, x1, x2⟩ : V0.cell? ⟨w.heap.size, 0, none⟩ = some (.int .i64 W) ∧ V0.cell? ⟨w.heap.size, 1, none⟩ = some (.int .i64 H) ∧ V0.cell? ⟨w.heap.size, 2, none⟩ = some (.slice a n c) := by
    refine ⟨?_, ?_, ?_⟩ <;> (rw [HB.out.cell (by show w.heap.size < _; omega)]; go_simp)
  have hIV := HAI.out.lt
  have HFI : Hk (∀ X, Below V0.heap.size V0 X → Below w.heap.size w X) := ⟨fun X hX => HTR.out _ (HB.out.trans (hX.mono hVs))⟩
  clear HB
  go_quiet (fail)
  have HC0 : Hk (Below V0.heap.size V0 (V0.drewN nq)) := ⟨below_drewN (Below.refl _ _) nq⟩
  generalize World.drewN V0 nq = VR at *
  go_wp2_with fail
  go_loopw [14, 18] (fun v dd wr => ∃ f : Nat, dd = .int .i64 f ∧ (f : Int) ≤ W + H + 1 ∧ Hk (World.ownsRow wr V0.heap.size 3 1 v ((slL W goal n (gdF W H xs bs cl s) gap f).take N).length (natsL ((slL W goal n (gdF W H xs bs cl s) gap f).take N))) ∧ Hk (Below V0.heap.size V0 wr)) (fun _ dd _ => (W + H + 2 - intOf dd).toNat)
  case atStart => exact ⟨0, rfl, by omega, ⟨⟨by simp [slL, natsL], Or.inl ⟨rfl, by simp [slL]⟩⟩⟩, HC0⟩
  case round =>
    clear HC0
    obtain ⟨f, rfl, hf1, HO, HC⟩ := hrel
    obtain ⟨hc, hf, hl, hn', hm⟩ := kw_rules HC.out (Nat.le_refl _)
    obtain ⟨A, hA⟩ : ∃ A, (slL W goal n (gdF W H xs bs cl s) gap f).take N = A := ⟨_, rfl⟩
    have hAN : A.length ≤ N := by rw [← hA, List.length_take]; omega
    rw [hA] at HO
    have HAE := Hk.mk hA
    clear hA
    obtain ⟨aF, cF, rfl, _⟩ := own_form20 HO.out
    by_cases hcc : (f : Int) ≤ W + H ∧ A.length < N
    · obtain ⟨h1, h2⟩ := hcc
      have d4 : decide ((f : Int) ≤ W + H) = true := by simpa using h1
      have d5 : decide ((A.length : Int) < (N : Int)) = true := by simpa using h2
      go_wp2_with fail
      clear hc hf hl hn' hm
      obtain ⟨wo, rfl⟩ : ∃ wo : World, wo = wr := ⟨wr, rfl⟩
      go_loopw [14, 19] (fun v tt wr => ∃ (t : Nat) (B : List Nat), tt = .int .i64 t ∧ t ≤ n ∧ Hk (((slL W goal n (gdF W H xs bs cl s) gap f) ++ slT W goal (gdF W H xs bs cl s) gap f t).take N = B) ∧ Hk (World.ownsRow wr V0.heap.size 3 1 v (B).length (natsL (B))) ∧ Hk (Below V0.heap.size V0 wr)) (fun _ tt _ => n - (intOf tt).toNat)
      case atStart => exact ⟨0, A, rfl, by omega, ⟨by simpa [slT] using HAE.out⟩, HO, HC⟩
      case round =>
        clear HC HO
        obtain ⟨t, B, rfl, htn, HBE, HO, HC⟩ := hrel
        obtain ⟨hc, hf, hl, hn', hm⟩ := kw_rules HC.out (Nat.le_refl _)
        obtain ⟨aB, cB, rfl, _⟩ := own_form20 HO.out
        have hBN : B.length ≤ N := by rw [← HBE.out, List.length_take]; omega
        by_cases htc : t < n ∧ B.length < N
        · obtain ⟨hlt, hbl⟩ := htc
          have t0 : (0 : Int) ≤ (t : Int) := by omega
          have t1 : (t : Int) < (n : Int) := by omega
          have e1 : decide ((t : Int) < (n : Int)) = true := by simpa using hlt
          have e2 : decide ((B.length : Int) < (N : Int)) = true := by simpa using hbl
          have cg := HAI.out.cell hlt
          obtain ⟨tx0, tx1, ty0, ty1⟩ := xy_bd20 hw1 MM.out.g.nn hlt
          have tm : (t : Int).tmod W = (t : Int) % W := Int.tmod_eq_emod_of_nonneg (by omega)
          have td : (t : Int).tdiv W = (t : Int) / W := Int.tdiv_eq_ediv_of_nonneg (by omega)
          have hsp := HSP.out f t
          generalize (t : Int) % W = tx at *
          generalize (t : Int) / W = ty at *
          obtain ⟨X, hX⟩ : ∃ q, tx - gx = q := ⟨_, rfl⟩
          obtain ⟨Y, hY⟩ : ∃ q, ty - gy = q := ⟨_, rfl⟩
          have wX : IntKind.i64.wrap X = X := by rw [IntKind.wrap_i64]; omega
          have wY : IntKind.i64.wrap Y = Y := by rw [IntKind.wrap_i64]; omega
          have bX : -128 ≤ X ∧ X ≤ 128 := by omega
          have bY : -128 ≤ Y ∧ Y ≤ 128 := by omega
          obtain ⟨M1, mA⟩ : ∃ A', (if X < -X then -X else X) = A' := ⟨_, rfl⟩
          obtain ⟨M2, mB⟩ : ∃ A', (if Y < -Y then -Y else Y) = A' := ⟨_, rfl⟩
          obtain ⟨M, mC⟩ : ∃ A', (if M1 < M2 then M2 else M1) = A' := ⟨_, rfl⟩
          have r1 := mx20 mA
          have r2 := mx20 mB
          have r3 := mx20 mC
          have HIF : Hk (slP W goal gap f t = true ↔ M = (f : Int) ∧ X.tmod gap = 0 ∧ Y.tmod gap = 0) := ⟨by
            rw [hsp, slX_iff, hX, hY, ← r1, ← r2, ← r3, tmod0, tmod0]⟩
          clear r1 r2 r3 hsp
          obtain ⟨XM, hXM⟩ : ∃ q, X.tmod gap = q := ⟨_, rfl⟩
          obtain ⟨YM, hYM⟩ : ∃ q, Y.tmod gap = q := ⟨_, rfl⟩
          rw [hXM, hYM] at HIF
          have hsf : ∀ (q : ¬ (M = (f : Int) ∧ XM = 0 ∧ YM = 0)), slP W goal gap f t = false := fun q => by
            rw [← Bool.not_eq_true]; exact fun h => q (HIF.out.1 h)
          have HSF := Hk.mk hsf
          clear hsf
          by_cases c1 : M = (f : Int)
          case neg =>
            have k1 : (M == (f : Int)) = false := by simpa using c1
            have HNO : Hk (slP W goal gap f t = false ∨ (gdF W H xs bs cl s) t = false) := ⟨Or.inl (HSF.out fun h => c1 h.1)⟩
            clear c1
            as_aux_lemma =>
              go_upto_region 11 with fail
              go_quiet (fail)
              go_wp2_with fail
              exact ⟨⟨t + 1, B, by go_num, by omega, ⟨by rw [slT_no HNO.out]; exact HBE.out⟩, ⟨ownD HO.out _⟩, ⟨below_drewN HC.out _⟩⟩, by simp [intOf]; omega⟩
          have k1 : (M == (f : Int)) = true := by simpa using c1
          by_cases c2 : XM = 0
          case neg =>
            have k2 : (XM == 0) = false := by simpa using c2
            have HNO : Hk (slP W goal gap f t = false ∨ (gdF W H xs bs cl s) t = false) := ⟨Or.inl (HSF.out fun h => c2 h.2.1)⟩
            clear c1 c2
            as_aux_lemma =>
              go_upto_region 11 with fail
              go_quiet (fail)
              go_wp2_with fail
              exact ⟨⟨t + 1, B, by go_num, by omega, ⟨by rw [slT_no HNO.out]; exact HBE.out⟩, ⟨ownD HO.out _⟩, ⟨below_drewN HC.out _⟩⟩, by simp [intOf]; omega⟩
          have k2 : (XM == 0) = true := by simpa using c2
          by_cases c3 : YM = 0
          case neg =>
            have k3 : (YM == 0) = false := by simpa using c3
            have HNO : Hk (slP W goal gap f t = false ∨ (gdF W H xs bs cl s) t = false) := ⟨Or.inl (HSF.out fun h => c3 h.2.2)⟩
            clear c1 c2 c3
            as_aux_lemma =>
              go_upto_region 11 with fail
              go_quiet (fail)
              go_wp2_with fail
              exact ⟨⟨t + 1, B, by go_num, by omega, ⟨by rw [slT_no HNO.out]; exact HBE.out⟩, ⟨ownD HO.out _⟩, ⟨below_drewN HC.out _⟩⟩, by simp [intOf]; omega⟩
          have k3 : (YM == 0) = true := by simpa using c3
          have HYES := Hk.mk (HIF.out.2 ⟨c1, c2, c3⟩)
          clear c1 c2 c3 HSF HIF
          by_cases g1 : (gdF W H xs bs cl s) t = true
          case neg =>
            have g2 : (gdF W H xs bs cl s) t = false := by simpa using g1
            rw [g2] at cg
            have HNO : Hk (slP W goal gap f t = false ∨ (gdF W H xs bs cl s) t = false) := ⟨Or.inr g2⟩
            clear g1 g2
            as_aux_lemma =>
              go_upto_region 11 with fail
              go_quiet (fail)
              go_wp2_with fail
              exact ⟨⟨t + 1, B, by go_num, by omega, ⟨by rw [slT_no HNO.out]; exact HBE.out⟩, ⟨ownD HO.out _⟩, ⟨below_drewN HC.out _⟩⟩, by simp [intOf]; omega⟩
          rw [g1] at cg
          have HG1 := Hk.mk g1
          clear g1
          as_aux_lemma =>
            go_upto_region 11 with fail
            go_quiet (fail)
            replace HC := Hk.mk (below_drewN HC.out nq)
            replace HO := Hk.mk (ownD HO.out nq)
            generalize World.drewN wr nq = WX at *
            clear hc hf hl hn' hm
            obtain ⟨hc, hf, hl, hn', hm⟩ := kw_rules HC.out (Nat.le_refl _)
            go_wp2_with (at_builtin; go_must (refine wpList_append_own_at _ rfl _ _ 26 rfl V0.heap.size 3 ii (.int .i64 0) 1 8 Tryd.underlying26 hii hiz0 hiz1 hiz2 rfl (by decide) _ _ _ rfl (HO.out.alloc _) ⟨WX.heap.size, 0, none⟩ 1 1 [.int .i64 (t : Nat)] rfl rfl (one_new WX _ _) (one_it _) (by unfold maxLen; omega) (by omega) (by have := kw_size HC.out (Nat.le_refl _); simp; omega) ?_); intro v8 z8 hown hgrow hnil hat; have HO8 := Hk.mk hown; have HC8 := Hk.mk ((kw_al HC.out (Nat.le_refl _) _).grown hgrow (by have := kw_size HC.out (Nat.le_refl _); simp; omega) (fun j hj => (HO.out.lt j hj).1)); clear hown hgrow hnil hat)
            refine ⟨⟨t + 1, B ++ [t], by go_num, by omega, ⟨?_⟩, ⟨by simpa [natsL] using HO8.out⟩, HC8⟩, by simp [intOf]; omega⟩
            rw [slT_yes HYES.out HG1.out, ← List.append_assoc, take_more (by rw [HBE.out]; exact hbl), HBE.out]
        · have hfull : (slL W goal n (gdF W H xs bs cl s) gap (f + 1)).take N = B := by
            show ((slL W goal n (gdF W H xs bs cl s) gap f) ++ slF W goal n (gdF W H xs bs cl s) gap (f : Int)).take N = B
            by_cases e : t = n
            · have hq := HBE.out
              rw [e, slT_all] at hq
              exact hq
            · obtain ⟨r, hr⟩ := slT_pre W goal (gdF W H xs bs cl s) gap f t (n - t)
              rw [show t + (n - t) = n by omega, slT_all] at hr
              rw [hr, ← List.append_assoc, take_full r (by rw [HBE.out]; exact fun q => htc ⟨by omega, q⟩), HBE.out]
          have HFU := Hk.mk hfull
          clear hfull
          by_cases e : t < n
          · have e1 : decide ((t : Int) < (n : Int)) = true := by simpa using e
            have hbl : ¬ B.length < N := fun q => htc ⟨e, q⟩
            have e2 : decide ((B.length : Int) < (N : Int)) = false := by simpa using hbl
            as_aux_lemma =>
              go_wp2_with fail
              exact ⟨⟨f + 1, by go_num, by omega, ⟨by rw [HFU.out]; exact HO.out⟩, HC⟩, by simp [intOf]; omega⟩
          · have e1 : decide ((t : Int) < (n : Int)) = false := by simpa using e
            as_aux_lemma =>
              go_wp2_with fail
              exact ⟨⟨f + 1, by go_num, by omega, ⟨by rw [HFU.out]; exact HO.out⟩, HC⟩, by simp [intOf]; omega⟩
    · have hend := slA_end (gd := (gdF W H xs bs cl s)) (gap := gap) (N := N) (f := f) hw1 hh1 MM.out.g.nn hg (by rw [HAE.out]; exact hcc)
      rw [HAE.out] at hend
      have HEE := Hk.mk hend
      clear hend
      by_cases h1 : (f : Int) ≤ W + H
      · have d4 : decide ((f : Int) ≤ W + H) = true := by simpa using h1
        have h2 : ¬ A.length < N := fun q => hcc ⟨h1, q⟩
        have d5 : decide ((A.length : Int) < (N : Int)) = false := by simpa using h2
        as_aux_lemma =>
          go_wp2_with fail
          go_ret
          refine ⟨_, rfl, ?_, HFI.out _ HC.out⟩
          rw [← HEE.out]
          exact own_le20 HO.out (by omega)
      · have d4 : decide ((f : Int) ≤ W + H) = false := by simpa using h1
        as_aux_lemma =>
          go_wp2_with fail
          go_ret
          refine ⟨_, rfl, ?_, HFI.out _ HC.out⟩
          rw [← HEE.out]
          exact own_le20 HO.out (by omega)
end Go.Proofs.YthabjihpjdlmoaaDoor
