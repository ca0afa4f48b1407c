import Derived.Deep.CutRange
import Derived.Deep.QuietTactic
import Derived.BigQuiet
import Derived.Deep.RegionWith
import Derived.Deep.RegionHeld3
import Derived.Deep.DeepCutAuto
import Derived.Deep.DeepFit
import Derived.Outline
import Derived.Test.YtgmhalcofcokbaaVc
import Derived.Test.YtgmhalcofcokbaaVd
/- For every list, WireBack answers true and leaves its argument as it was: what was written is read again, whatever stands behind it; each true beginning is cut off. No condition. -/
namespace Go.Proofs.Ytgmhalcofcokbaa
open Go.ChangeShapes Go.WideShapes Go.ChangeAt Go.RowKit Go.Deep
set_option linter.unusedVariables false
set_option linter.unusedSimpArgs false
theorem qb {P : Program} {F : FuncId} {args : Array Value} {w : World} {r : Ending} (h : Calls P F args w fun e w' => e = r ∧ w = w') : Calls P F args w fun e w' => e = r ∧ Below w.heap.size w w' := h.mono fun _ _ h => ⟨h.1, h.2 ▸ Below.refl _ _⟩
theorem own_by {w : World} {base n c : Nat} {a : Option Addr} {xs : List Int} (h : OwnB w base (.slice a n c) n xs) : By w w.heap.size a n xs := by
  obtain ⟨a', c', e, _, hb, _⟩ := h.by_
  injection e with e1 e2 e3
  subst e1
  exact hb
/-- What Num tells. -/
def NumR (w w' : World) (s : Int) (a : Option Addr) (L c : Nat) (E : Int) : Prop := (E = 0 ∧ ∃ zn : Nat, s = zn ∧ zn ≤ 9223372036854775807 ∧ (Wr.numL zn).length = L ∧ L ≤ c ∧ OwnB w' w.heap.size (.slice a L c) L (Wr.numL zn)) ∨ (E = 1 ∧ s < 0)
theorem num_all (s : Int) (w : World) (hs : -9223372036854775808 ≤ s ∧ s ≤ 9223372036854775807) :
    Calls Try.prog 14 #[.int .i64 s] w fun e w' => ∃ a L c E, e = .returned (.tuple #[.slice a L c, .int .i64 E]) ∧ NumR w w' s a L c E ∧ Below w.heap.size w w' := by
  by_cases h : s < 0
  · refine (num_neg s w h).mono ?_
    rintro e w' ⟨rfl, rfl⟩
    exact ⟨none, 0, 0, 1, rfl, Or.inr ⟨rfl, h⟩, Below.refl _ _⟩
  · refine (num_len s s.toNat (Wr.numL s.toNat).length w ⟨by omega⟩ ⟨by omega⟩ ⟨rfl⟩).mono ?_
    rintro e w' ⟨v, rfl, ho, hb⟩
    obtain ⟨a, c, rfl, hlc, _, _⟩ := ho.by_
    exact ⟨a, _, c, 0, rfl, Or.inl ⟨rfl, s.toNat, by omega, by omega, rfl, hlc, ho⟩, hb⟩
def IntR (w w' : World) (s : Int) (a : Option Addr) (L c : Nat) (E : Int) : Prop := (E = 0 ∧ I62 s ∧ (Wr.numL (Wr.zig s)).length = L ∧ L ≤ c ∧ OwnB w' w.heap.size (.slice a L c) L (Wr.numL (Wr.zig s))) ∨ (E = 2 ∧ ¬ I62 s)
theorem int_all (s : Int) (w : World) :
    Calls Try.prog 18 #[.int .i64 s] w fun e w' => ∃ a L c E, e = .returned (.tuple #[.slice a L c, .int .i64 E]) ∧ IntR w w' s a L c E ∧ Below w.heap.size w w' := by
  by_cases h : I62 s
  · refine (int_any s w h).mono ?_
    rintro e w' ⟨v, rfl, ho, hb⟩
    obtain ⟨a, c, rfl, hlc, _, _⟩ := ho.by_
    exact ⟨a, _, c, 0, rfl, Or.inl ⟨rfl, h, rfl, hlc, ho⟩, hb⟩
  · refine (int_no s w h).mono ?_
    rintro e w' ⟨rfl, rfl⟩
    exact ⟨none, 0, 0, 2, rfl, Or.inr ⟨rfl, h⟩, Below.refl _ _⟩
theorem getint_cut (a : Option Addr) (n c : Nat) (xs : List Int) (w : World) (h : By w w.heap.size a n xs) (hn : n ≤ 1099511627776) (hr : Hk (Wr.getS xs = (0, 0, 11))) :
    Calls Try.prog 19 #[.slice a n c] w fun e w' => e = .returned (.tuple #[.int .i64 0, .int .i64 0, .int .i64 11]) ∧ w = w' := by
  refine (getint_any a n c xs w h hn).mono ?_
  rintro e w' ⟨rfl, rfl⟩
  rw [hr.out]
  exact ⟨rfl, rfl⟩
theorem raw_back (n : Nat) (xs ys : List Int) (hl : xs.length = n) (hn : n ≤ 5000) : rawErr (Wr.numL n ++ xs ++ ys) = 0 ∧ rawX (Wr.numL n ++ xs ++ ys) = xs ∧ rawN (Wr.numL n ++ xs ++ ys) = n ∧ rawK (Wr.numL n ++ xs ++ ys) = ((Wr.numL n).length + n : Nat) := by
  have g : Wr.getS (Wr.numL n ++ xs ++ ys) = ((n : Int), ((Wr.numL n).length : Int), 0) := by
    rw [List.append_assoc]; exact Wr.getS_num (by omega) _
  refine ⟨?_, ?_, ?_, ?_⟩
  · unfold rawErr
    rw [g]
    simp only [if_true]
    rw [if_neg (by omega), if_neg (by simp; omega)]
  · unfold rawX
    rw [g]
    simp only [Int.toNat_natCast]
    rw [List.append_assoc, List.drop_left, List.take_left' hl]
  · unfold rawN
    rw [g]; simp
  · unfold rawK
    rw [g]; simp
theorem raw_cut (n j : Nat) (xs : List Int) (hl : xs.length = n) (hn : n ≤ 5000) (hj : j < (Wr.numL n).length + n) : rawErr ((Wr.numL n ++ xs).take j) = 11 := by
  by_cases h : j < (Wr.numL n).length
  · rw [List.take_append_of_le_length (by omega)]
    have g := Wr.getS_cut (n := n) (by omega) h
    unfold rawErr
    rw [g]
    simp
  · have e : (Wr.numL n ++ xs).take j = Wr.numL n ++ xs.take (j - (Wr.numL n).length) := by
      rw [List.take_append]
      rw [List.take_of_length_le (by omega)]
    have g := Wr.getS_num (n := n) (by omega) (xs.take (j - (Wr.numL n).length))
    rw [e]
    unfold rawErr
    rw [g]
    simp only [if_true]
    rw [if_neg (by omega), if_pos (by simp; omega)]
theorem getraw_back (a : Option Addr) (n c nb M : Nat) (xs ys : List Int) (w : World) (h : By w w.heap.size a n (Wr.numL nb ++ xs ++ ys)) (hnc : n ≤ c) (hcm : c ≤ 9223372036854775807) (hn : n ≤ 1099511627776) (hl : Hk (xs.length = nb)) (hnb : nb ≤ 5000) (hM : Hk ((Wr.numL nb).length + nb = M)) :
    Calls Try.prog 21 #[.slice a n c] w fun e w' => ∃ v, e = .returned (.tuple #[v, .int .i64 M, .int .i64 0]) ∧ OwnB w' w.heap.size v nb xs ∧ Below w.heap.size w w' := by
  obtain ⟨r1, r2, r3, r4⟩ := raw_back nb xs ys hl.out hnb
  refine (getraw_ok a n c _ w h hnc hcm hn ⟨r1⟩).mono ?_
  rintro e w' ⟨v, rfl, ho, hb⟩
  rw [r3, r2] at ho
  rw [r4, hM.out]
  exact ⟨v, rfl, ho, hb⟩
set_option maxRecDepth 100000 in
set_option maxHeartbeats 6400000 in
theorem wireBack_walk (a : Option Addr) (len cap : Nat) (w : World) (rows : Asks4 w a len cap) :
    Calls Try.prog 5 #[.slice a len cap] w fun e w' => e = .returned (.bool true) ∧ Below w.heap.size w w' := by
  obtain ⟨hl, hm, hall⟩ := rows
  have HALL := Hk.mk hall
  have L0 : w.heap.size ≤ w.heap.size := Nat.le_refl _
  clear hall
  go_enter Try.func5, Try.ntmps5
  go_wp2
  go_loopw [3] (fun i wr => ∃ (k : Nat), i = .int .i64 k ∧ k ≤ len ∧ k ≤ 15 ∧ Hk (Below w.heap.size w wr)) (fun i _ => 15 - (intOf i).toNat)
  case atStart => exact ⟨0, rfl, by omega, by omega, ⟨Below.refl _ _⟩⟩
  case round =>
    obtain ⟨k, rfl, hk, hk2, HB⟩ := hrel
    by_cases hlt : k < len ∧ k < 15
    · obtain ⟨g1, g2⟩ := hlt
      obtain ⟨b, off, s, ab, nb, cb, xs, ax, nx, cx, ys, rfl, hbl, hs, ⟨hnc, hcc, hcn, hxb⟩, ⟨hnx, hcx, hxn, hyb⟩, e0, e1, e2⟩ := HALL.out k g1
      have HCE : Hk (∀ X, Below w.heap.size w X → X.cell? ⟨b, off + k * 3, none⟩ = some (.int .i64 s) ∧ X.cell? ⟨b, off + k * 3 + 1, none⟩ = some (.slice ab nb cb) ∧ X.cell? ⟨b, off + k * 3 + 2, none⟩ = some (.slice ax nx cx)) := ⟨fun X hX => ⟨(hX.cell (p := ⟨b, off + k * 3, none⟩) hbl).trans e0, (hX.cell (p := ⟨b, off + k * 3 + 1, none⟩) hbl).trans e1, (hX.cell (p := ⟨b, off + k * 3 + 2, none⟩) hbl).trans e2⟩⟩
      have HBB : Hk (∀ X, Below w.heap.size w X → By X w.heap.size ab nb xs) := ⟨fun X hX => hxb.below hX (Nat.le_refl _)⟩
      have HBX : Hk (∀ X, Below w.heap.size w X → By X w.heap.size ax nx ys) := ⟨fun X hX => hyb.below hX (Nat.le_refl _)⟩
      have HXL : Hk (xs.length = nb) := ⟨hxb.len⟩
      clear e0 e1 e2 hxb hyb
      obtain ⟨d0, d1, d2⟩ := HCE.out _ HB.out
      have j1 : (0 : Int) ≤ (k : Int) := by omega
      have j2 : (k : Int) < (len : Int) := by omega
      by_cases hv : nb ≤ 5000 ∧ nx ≤ 5000
      case neg =>
        go_wp2_with (go_at_call 13; (with_reducible refine (heavy_yes _ ab ax nb cb nx cx _ hv).mono ?_); rintro e w' ⟨rfl, hb⟩)
        go_ret
        exact ⟨rfl, kw_step HB.out L0 hb⟩
      obtain ⟨v1, v2⟩ := hv
      go_upto_if 52 with (first
        | (go_at_call 13; (with_reducible refine (heavy_no _ ab ax nb cb nx cx _ v1 v2).mono ?_); rintro e z ⟨rfl, hb⟩; replace HB := Hk.mk (kw_step HB.out L0 hb); clear hb d0 d1 d2; obtain ⟨d0, d1, d2⟩ := HCE.out _ HB.out)
        | (go_at_call 14; (with_reducible refine (num_all s _ hs).mono ?_); rintro e VA ⟨a0, L, c0, E, rfl, hr, hb⟩; have HR := Hk.mk hr; clear hr; replace HB := Hk.mk (kw_step HB.out L0 hb); clear hb d0 d1 d2; obtain ⟨d0, d1, d2⟩ := HCE.out _ HB.out)
        | (go_at_call 15; (with_reducible refine (lawnum_any _ _).mono ?_); rintro e w' ⟨rfl, rfl⟩))
      go_cut [] (fun wx => Hk (Below w.heap.size w wx))
      case first =>
        rcases HR.out with ⟨rfl, zn, rfl, hz, hL, hLc, ho⟩ | ⟨rfl, hneg⟩
        case inr =>
          go_wp2_with fail
          go_meet
          case rel => exact HB
        have HZ := Hk.mk hz
        have HL := Hk.mk hL
        have HVA := HB
        have hL9 : L ≤ 9 := hL ▸ Wr.numL_nine (by omega)
        have HY : Hk (∀ X, Below VA.heap.size VA X → By X X.heap.size a0 L (Wr.numL zn)) := ⟨fun X hX => ((own_by ho).below hX (Nat.le_refl _)).mono hX.size⟩
        have hc9 : c0 ≤ 9223372036854775807 := ho.cap
        have bX : b < VA.heap.size := Nat.lt_of_lt_of_le hbl HB.out.size
        clear ho hL hz HR
        go_upto_region 8 with (fail)
        have L0V : VA.heap.size ≤ VA.heap.size := Nat.le_refl _
        apply reg_merge
        intro HG3
        apply reg_merge
        intro HG2
        apply reg_merge
        intro HG1
        refine wp_region_held_drew (S := fun Z => (∀ b o, b < VA.heap.size → Z.cell? ⟨b, o, none⟩ = VA.cell? ⟨b, o, none⟩)) (by kernel_rfl) (fun _ _ _ => rfl) (fun hHeld => ?_)
        have HB : Hk (Below VA.heap.size VA VA.drew) := ⟨(Below.refl _ _).drew⟩
        obtain ⟨W8, hWe⟩ : ∃ W8, VA.drew = W8 := ⟨_, rfl⟩
        rw [hWe] at HB hHeld ⊢
        clear hWe
        refine wpAnyH_take (i := 0) (v := ?_) rfl (by kernel_rfl) (by kernel_rfl) (by kernel_rfl) (fun _ _ _ h => h) (Or.inl ⟨by rfl, fun wX hSw => ?_⟩) (by assumption) ?_
        rotate_left
        · (try dsimp only at hSw); go_simp; try with_reducible rfl
        (try simp only [Act.put, List.getElem_toArray, List.getElem_cons_succ, List.getElem_cons_zero, List.setIfInBounds_toArray, List.set_cons_zero, List.set_cons_succ])
        refine wpAnyH_take (i := 2) (v := ?_) rfl (by kernel_rfl) (by kernel_rfl) (by kernel_rfl) (fun _ _ _ h => h) (Or.inl ⟨by rfl, fun wX hSw => ?_⟩) (by assumption) ?_
        rotate_left
        · (try dsimp only at hSw); go_simp; try with_reducible rfl
        (try simp only [Act.put, List.getElem_toArray, List.getElem_cons_succ, List.getElem_cons_zero, List.setIfInBounds_toArray, List.set_cons_zero, List.set_cons_succ])
        refine wpAnyH_take (i := 3) (v := ?_) rfl (by kernel_rfl) (by kernel_rfl) (by kernel_rfl) (fun _ _ _ h => h) (Or.inl ⟨by rfl, fun wX hSw => ?_⟩) (by assumption) ?_
        rotate_left
        · (try dsimp only at hSw); go_simp; try with_reducible rfl
        (try simp only [Act.put, List.getElem_toArray, List.getElem_cons_succ, List.getElem_cons_zero, List.setIfInBounds_toArray, List.set_cons_zero, List.set_cons_succ])
        refine wpAnyH_take (i := 4) (v := ?_) rfl (by kernel_rfl) (by kernel_rfl) (by kernel_rfl) (fun _ _ _ h => h) (Or.inl ⟨by rfl, fun wX hSw => ?_⟩) (by assumption) ?_
        rotate_left
        · (try dsimp only at hSw); go_simp; try with_reducible rfl
        (try simp only [Act.put, List.getElem_toArray, List.getElem_cons_succ, List.getElem_cons_zero, List.setIfInBounds_toArray, List.set_cons_zero, List.set_cons_succ])
        refine wpAnyH_take (i := 5) (v := ?_) rfl (by kernel_rfl) (by kernel_rfl) (by kernel_rfl) (fun _ _ _ h => h) (Or.inl ⟨by rfl, fun wX hSw => ?_⟩) (by assumption) ?_
        rotate_left
        · (try dsimp only at hSw); go_simp; try with_reducible rfl
        (try simp only [Act.put, List.getElem_toArray, List.getElem_cons_succ, List.getElem_cons_zero, List.setIfInBounds_toArray, List.set_cons_zero, List.set_cons_succ])
        refine wpAnyH_take (i := 6) (v := ?_) rfl (by kernel_rfl) (by kernel_rfl) (by kernel_rfl) (fun _ _ _ h => h) (Or.inl ⟨by rfl, fun wX hSw => ?_⟩) (by assumption) ?_
        rotate_left
        · (try dsimp only at hSw); go_simp; try with_reducible rfl
        (try simp only [Act.put, List.getElem_toArray, List.getElem_cons_succ, List.getElem_cons_zero, List.setIfInBounds_toArray, List.set_cons_zero, List.set_cons_succ])
        refine wpAnyH_ready (rs := [1]) (by kernel_rfl) (by simp) ?_
        refine AllReadyH.cons rfl (fun K hK => ?_) (AllReadyH.nil)
        · skip
          go_simp
          (first
        | (go_at_call 17; (with_reducible refine (copy_any a0 L c0 (Wr.numL zn) _ (HY.out _ HB.out) (by omega)).mono ?_); rintro e z ⟨v4, rfl, ho4, hb⟩; obtain ⟨a4, c4, rfl, hlc4, hby4, hat4⟩ := ho4.by_; have HO4 := Hk.mk (ho4.weak (kw_le HB.out L0V)); clear ho4 hby4 hat4 hlc4)
        | (go_at_call 16; (with_reducible refine (qb (getnum_back zn a5 (L + nb) c5 L xs _ HZ (own_by HO5.out.1) (by omega) HL)).mono ?_); rintro e z ⟨rfl, hb⟩))
          replace HB := Hk.mk (kw_step HB.out L0V hb)
          clear hb
          refine hK.out _ _ ?_ (fun hHeld2 => ?_)
          · exact kw_s HB.out
          clear hK K hHeld
          have hHeld := hHeld2
          clear hHeld2
          (try simp only [Act.put, List.getElem_toArray, List.getElem_cons_succ, List.getElem_cons_zero, List.setIfInBounds_toArray, List.set_cons_zero, List.set_cons_succ])
          refine reg_cast (l' := #[true, true, true, true, true, true, true, false, false, false, false, false, false, false, false, false]) (by kernel_rfl) ?_
          revert hHeld
          revert HO4
          revert HB
          revert c4
          revert a4
          revert z
          exact HG1.out
        intro W8 a4 c4 HB HO4 hHeld
        refine wpAnyH_ready (rs := [7]) (by kernel_rfl) (by simp) ?_
        refine AllReadyH.cons rfl (fun K hK => ?_) (AllReadyH.nil)
        · skip
          (refine step_append_by _ (by rfl) (.tmp 55) (.tmp 60) (by rfl) VA.heap.size (.slice a4 L c4) L (Wr.numL zn) (by rfl) HO4.out w.heap.size ab nb cb xs (by rfl) (HBB.out _ (HVA.out.trans (HB.out.mono HVA.out.size))) hcn (by omega) (kw_le HB.out L0V) ?_; intro v5 z ho5 hg5; obtain ⟨a5, c5, rfl, hlc5, -, -⟩ := ho5.by_; have hcm5 := ho5.cap; have HO5 := Hk.mk (And.intro ho5 (And.intro hlc5 hcm5)); replace HB := Hk.mk (HB.out.grown hg5 (kw_le HB.out L0V) (fun g hg => (HO4.out.lt g hg).1)); clear ho5 hg5 hlc5 hcm5)
          refine hK.out _ _ ?_ (fun hHeld2 => ?_)
          · exact kw_s HB.out
          clear hK K hHeld
          have hHeld := hHeld2
          clear hHeld2
          (try simp only [Act.put, List.getElem_toArray, List.getElem_cons_succ, List.getElem_cons_zero, List.setIfInBounds_toArray, List.set_cons_zero, List.set_cons_succ])
          clear HO4
          refine reg_cast (l' := #[true, true, true, true, true, true, true, true, false, false, false, false, false, false, false, false]) (by kernel_rfl) ?_
          revert hHeld
          revert HO5
          revert HB
          revert c5
          revert a5
          revert c4
          revert a4
          revert z
          exact HG2.out
        intro W8 a4 c4 a5 c5 HB HO5 hHeld
        refine wpAnyH_ready (rs := [8]) (by kernel_rfl) (by simp) ?_
        refine AllReadyH.cons rfl (fun K hK => ?_) (AllReadyH.nil)
        · skip
          go_simp
          (first
        | (go_at_call 17; (with_reducible refine (copy_any a0 L c0 (Wr.numL zn) _ (HY.out _ HB.out) (by omega)).mono ?_); rintro e z ⟨v4, rfl, ho4, hb⟩; obtain ⟨a4, c4, rfl, hlc4, hby4, hat4⟩ := ho4.by_; have HO4 := Hk.mk (ho4.weak (kw_le HB.out L0V)); clear ho4 hby4 hat4 hlc4)
        | (go_at_call 16; (with_reducible refine (qb (getnum_back zn a5 (L + nb) c5 L xs _ HZ (own_by HO5.out.1) (by omega) HL)).mono ?_); rintro e z ⟨rfl, hb⟩))
          replace HO5 := Hk.mk (And.intro (HO5.out.1.below hb) HO5.out.2)
          replace HB := Hk.mk (kw_step HB.out L0V hb)
          clear hb
          refine hK.out _ _ ?_ (fun hHeld2 => ?_)
          · exact kw_s HB.out
          clear hK K hHeld
          have hHeld := hHeld2
          clear hHeld2
          (try simp only [Act.put, List.getElem_toArray, List.getElem_cons_succ, List.getElem_cons_zero, List.setIfInBounds_toArray, List.set_cons_zero, List.set_cons_succ])
          refine wpAnyH_take (i := 9) (v := ?_) rfl (by kernel_rfl) (by kernel_rfl) (by kernel_rfl) (fun _ _ _ h => h) (Or.inl ⟨by rfl, fun wX hSw => ?_⟩) (by assumption) ?_
          rotate_left
          · (try dsimp only at hSw); go_simp; try with_reducible rfl
          (try simp only [Act.put, List.getElem_toArray, List.getElem_cons_succ, List.getElem_cons_zero, List.setIfInBounds_toArray, List.set_cons_zero, List.set_cons_succ])
          refine wpAnyH_take (i := 10) (v := ?_) rfl (by kernel_rfl) (by kernel_rfl) (by kernel_rfl) (fun _ _ _ h => h) (Or.inl ⟨by rfl, fun wX hSw => ?_⟩) (by assumption) ?_
          rotate_left
          · (try dsimp only at hSw); go_simp; try with_reducible rfl
          (try simp only [Act.put, List.getElem_toArray, List.getElem_cons_succ, List.getElem_cons_zero, List.setIfInBounds_toArray, List.set_cons_zero, List.set_cons_succ])
          refine wpAnyH_take (i := 11) (v := ?_) rfl (by kernel_rfl) (by kernel_rfl) (by kernel_rfl) (fun _ _ _ h => h) (Or.inl ⟨by rfl, fun wX hSw => ?_⟩) (by assumption) ?_
          rotate_left
          · (try dsimp only at hSw); go_simp; try with_reducible rfl
          (try simp only [Act.put, List.getElem_toArray, List.getElem_cons_succ, List.getElem_cons_zero, List.setIfInBounds_toArray, List.set_cons_zero, List.set_cons_succ])
          refine wpAnyH_take (i := 12) (v := ?_) rfl (by kernel_rfl) (by kernel_rfl) (by kernel_rfl) (fun _ _ _ h => h) (Or.inl ⟨by rfl, fun wX hSw => ?_⟩) (by assumption) ?_
          rotate_left
          · (try dsimp only at hSw); go_simp; try with_reducible rfl
          (try simp only [Act.put, List.getElem_toArray, List.getElem_cons_succ, List.getElem_cons_zero, List.setIfInBounds_toArray, List.set_cons_zero, List.set_cons_succ])
          refine wpAnyH_take (i := 13) (v := ?_) rfl (by kernel_rfl) (by kernel_rfl) (by kernel_rfl) (fun _ _ _ h => h) (Or.inl ⟨by rfl, fun wX hSw => ?_⟩) (by assumption) ?_
          rotate_left
          · (try dsimp only at hSw); go_simp; try with_reducible rfl
          (try simp only [Act.put, List.getElem_toArray, List.getElem_cons_succ, List.getElem_cons_zero, List.setIfInBounds_toArray, List.set_cons_zero, List.set_cons_succ])
          refine wpAnyH_take (i := 14) (v := ?_) rfl (by kernel_rfl) (by kernel_rfl) (by kernel_rfl) (fun _ _ _ h => h) (Or.inl ⟨by rfl, fun wX hSw => ?_⟩) (by assumption) ?_
          rotate_left
          · (try dsimp only at hSw); go_simp; try with_reducible rfl
          (try simp only [Act.put, List.getElem_toArray, List.getElem_cons_succ, List.getElem_cons_zero, List.setIfInBounds_toArray, List.set_cons_zero, List.set_cons_succ])
          refine wpAnyH_take (i := 15) (v := ?_) rfl (by kernel_rfl) (by kernel_rfl) (by kernel_rfl) (fun _ _ _ h => h) (Or.inl ⟨by rfl, fun wX hSw => ?_⟩) (by assumption) ?_
          rotate_left
          · (try dsimp only at hSw); go_simp; try with_reducible rfl
          (try simp only [Act.put, List.getElem_toArray, List.getElem_cons_succ, List.getElem_cons_zero, List.setIfInBounds_toArray, List.set_cons_zero, List.set_cons_succ])
          refine reg_cast (l' := #[true, true, true, true, true, true, true, true, true, true, true, true, true, true, true, true]) (by kernel_rfl) ?_
          revert hHeld
          revert HO5
          revert HB
          revert c5
          revert a5
          revert c4
          revert a4
          revert z
          exact HG3.out
        intro W8 a4 c4 a5 c5 HB HO5 hHeld
        refine wpAnyH_done (by kernel_rfl) ?_ _
        obtain ⟨hc, hf, hl', hn', hm'⟩ := kw_rules HB.out (Nat.le_refl _)
        go_wp2_with (go_at_call 15; (with_reducible refine (lawnum_any _ _).mono ?_); rintro e w' ⟨rfl, rfl⟩)
        go_loop [9] (fun i => ∃ j : Nat, i = .int .i64 j ∧ j ≤ L) (fun i => L - (intOf i).toNat)
        case atStart => exact ⟨0, rfl, by omega⟩
        case round =>
          obtain ⟨j, rfl, hj⟩ := hrel
          by_cases hjl : j < L
          · have i1 : (0 : Int) ≤ (j : Int) := by omega
            have i2 : (j : Int) ≤ (c0 : Int) := by omega
            go_wp2_with (first | (go_at_call 16; (with_reducible refine (getnum_as a0 j c0 ((Wr.numL zn).take j) _ 0 0 11 ((HY.out _ HB.out).head (by omega)) (by omega) ⟨Wr.getS_cut (by have := HZ.out; omega) (by rw [HL.out]; exact hjl)⟩).mono ?_); rintro e w' ⟨rfl, rfl⟩) | (go_at_call 15; (with_reducible refine (lawnum_any _ _).mono ?_); rintro e w' ⟨rfl, rfl⟩))
            go_round
            case rel => exact ⟨j + 1, by go_num, by omega⟩
            case measure => simp [intOf]; omega
          · go_wp2_with fail
            go_meet
            case rel => exact ⟨kw_step HVA.out L0 HB.out⟩
      case rest =>
        have HB := hcut
        clear hcut d0 d1 d2
        clear HR
        obtain ⟨d0, d1, d2⟩ := HCE.out _ HB.out
        go_upto_if 112 with (first
          | (go_at_call 18; (with_reducible refine (int_all s _).mono ?_); rintro e VA ⟨a0, L, c0, E, rfl, hr, hb⟩; have HR := Hk.mk hr; clear hr; replace HB := Hk.mk (kw_step HB.out L0 hb); clear hb d0 d1 d2; obtain ⟨d0, d1, d2⟩ := HCE.out _ HB.out)
          | (go_at_call 15; (with_reducible refine (lawnum_any _ _).mono ?_); rintro e w' ⟨rfl, rfl⟩))
        go_cut [] (fun wx => Hk (Below w.heap.size w wx))
        case first =>
          rcases HR.out with ⟨rfl, h62, hL, hLc, ho⟩ | ⟨rfl, hneg⟩
          case inr =>
            go_wp2_with fail
            go_meet
            case rel => exact HB
          have hzb := zig_bd h62
          have hL9 : L ≤ 9 := hL ▸ Wr.numL_nine (by omega)
          have hp := Wr.numL_pos (Wr.zig s)
          obtain ⟨L1, hL1⟩ : ∃ L1, L = L1 + 1 := ⟨L - 1, by omega⟩
          have HL := Hk.mk hL
          have HVA := HB
          have HY : Hk (∀ X, Below VA.heap.size VA X → By X X.heap.size a0 L (Wr.numL (Wr.zig s))) := ⟨fun X hX => ((own_by ho).below hX (Nat.le_refl _)).mono hX.size⟩
          have HC : Hk (Wr.getS ((Wr.numL (Wr.zig s)).take L1) = (0, 0, 11)) := ⟨Wr.getS_cut (by omega) (by omega)⟩
          have hc9 : c0 ≤ 9223372036854775807 := ho.cap
          have bX : b < VA.heap.size := Nat.lt_of_lt_of_le hbl HB.out.size
          have HL1 := Hk.mk hL1
          clear ho hL HR hzb hp hL1
          go_upto_region 19 with (fail)
          have L0V : VA.heap.size ≤ VA.heap.size := Nat.le_refl _
          apply reg_merge
          intro HG3
          apply reg_merge
          intro HG2
          apply reg_merge
          intro HG1
          refine wp_region_held_drew (S := fun Z => (∀ b o, b < VA.heap.size → Z.cell? ⟨b, o, none⟩ = VA.cell? ⟨b, o, none⟩)) (by kernel_rfl) (fun _ _ _ => rfl) (fun hHeld => ?_)
          have HB : Hk (Below VA.heap.size VA VA.drew) := ⟨(Below.refl _ _).drew⟩
          obtain ⟨W8, hWe⟩ : ∃ W8, VA.drew = W8 := ⟨_, rfl⟩
          rw [hWe] at HB hHeld ⊢
          clear hWe
          refine wpAnyH_take (i := 0) (v := ?_) rfl (by kernel_rfl) (by kernel_rfl) (by kernel_rfl) (fun _ _ _ h => h) (Or.inl ⟨by rfl, fun wX hSw => ?_⟩) (by assumption) ?_
          rotate_left
          · (try dsimp only at hSw); go_simp; try with_reducible rfl
          (try simp only [Act.put, List.getElem_toArray, List.getElem_cons_succ, List.getElem_cons_zero, List.setIfInBounds_toArray, List.set_cons_zero, List.set_cons_succ])
          refine wpAnyH_take (i := 2) (v := ?_) rfl (by kernel_rfl) (by kernel_rfl) (by kernel_rfl) (fun _ _ _ h => h) (Or.inl ⟨by rfl, fun wX hSw => ?_⟩) (by assumption) ?_
          rotate_left
          · (try dsimp only at hSw); go_simp; try with_reducible rfl
          (try simp only [Act.put, List.getElem_toArray, List.getElem_cons_succ, List.getElem_cons_zero, List.setIfInBounds_toArray, List.set_cons_zero, List.set_cons_succ])
          refine wpAnyH_take (i := 3) (v := ?_) rfl (by kernel_rfl) (by kernel_rfl) (by kernel_rfl) (fun _ _ _ h => h) (Or.inl ⟨by rfl, fun wX hSw => ?_⟩) (by assumption) ?_
          rotate_left
          · (try dsimp only at hSw); go_simp; try with_reducible rfl
          (try simp only [Act.put, List.getElem_toArray, List.getElem_cons_succ, List.getElem_cons_zero, List.setIfInBounds_toArray, List.set_cons_zero, List.set_cons_succ])
          refine wpAnyH_take (i := 4) (v := ?_) rfl (by kernel_rfl) (by kernel_rfl) (by kernel_rfl) (fun _ _ _ h => h) (Or.inl ⟨by rfl, fun wX hSw => ?_⟩) (by assumption) ?_
          rotate_left
          · (try dsimp only at hSw); go_simp; try with_reducible rfl
          (try simp only [Act.put, List.getElem_toArray, List.getElem_cons_succ, List.getElem_cons_zero, List.setIfInBounds_toArray, List.set_cons_zero, List.set_cons_succ])
          refine wpAnyH_take (i := 5) (v := ?_) rfl (by kernel_rfl) (by kernel_rfl) (by kernel_rfl) (fun _ _ _ h => h) (Or.inl ⟨by rfl, fun wX hSw => ?_⟩) (by assumption) ?_
          rotate_left
          · (try dsimp only at hSw); go_simp; try with_reducible rfl
          (try simp only [Act.put, List.getElem_toArray, List.getElem_cons_succ, List.getElem_cons_zero, List.setIfInBounds_toArray, List.set_cons_zero, List.set_cons_succ])
          refine wpAnyH_take (i := 6) (v := ?_) rfl (by kernel_rfl) (by kernel_rfl) (by kernel_rfl) (fun _ _ _ h => h) (Or.inl ⟨by rfl, fun wX hSw => ?_⟩) (by assumption) ?_
          rotate_left
          · (try dsimp only at hSw); go_simp; try with_reducible rfl
          (try simp only [Act.put, List.getElem_toArray, List.getElem_cons_succ, List.getElem_cons_zero, List.setIfInBounds_toArray, List.set_cons_zero, List.set_cons_succ])
          refine wpAnyH_ready (rs := [1]) (by kernel_rfl) (by simp) ?_
          refine AllReadyH.cons rfl (fun K hK => ?_) (AllReadyH.nil)
          · skip
            go_simp
            (first
          | (go_at_call 17; (with_reducible refine (copy_any a0 L c0 (Wr.numL (Wr.zig s)) _ (HY.out _ HB.out) (by omega)).mono ?_); rintro e z ⟨v4, rfl, ho4, hb⟩; obtain ⟨a4, c4, rfl, hlc4, hby4, hat4⟩ := ho4.by_; have HO4 := Hk.mk (ho4.weak (kw_le HB.out L0V)); clear ho4 hby4 hat4 hlc4)
          | (go_at_call 19; (with_reducible refine (qb (getint_back s a5 (L + nb) c5 L xs _ h62 (own_by HO5.out.1) (by omega) HL)).mono ?_); rintro e z ⟨rfl, hb⟩))
            replace HB := Hk.mk (kw_step HB.out L0V hb)
            clear hb
            refine hK.out _ _ ?_ (fun hHeld2 => ?_)
            · exact kw_s HB.out
            clear hK K hHeld
            have hHeld := hHeld2
            clear hHeld2
            (try simp only [Act.put, List.getElem_toArray, List.getElem_cons_succ, List.getElem_cons_zero, List.setIfInBounds_toArray, List.set_cons_zero, List.set_cons_succ])
            refine reg_cast (l' := #[true, true, true, true, true, true, true, false, false, false, false, false, false, false, false, false]) (by kernel_rfl) ?_
            revert hHeld
            revert HO4
            revert HB
            revert c4
            revert a4
            revert z
            exact HG1.out
          intro W8 a4 c4 HB HO4 hHeld
          refine wpAnyH_ready (rs := [7]) (by kernel_rfl) (by simp) ?_
          refine AllReadyH.cons rfl (fun K hK => ?_) (AllReadyH.nil)
          · skip
            (refine step_append_by _ (by rfl) (.tmp 115) (.tmp 120) (by rfl) VA.heap.size (.slice a4 L c4) L (Wr.numL (Wr.zig s)) (by rfl) HO4.out w.heap.size ab nb cb xs (by rfl) (HBB.out _ (HVA.out.trans (HB.out.mono HVA.out.size))) hcn (by omega) (kw_le HB.out L0V) ?_; intro v5 z ho5 hg5; obtain ⟨a5, c5, rfl, hlc5, -, -⟩ := ho5.by_; have hcm5 := ho5.cap; have HO5 := Hk.mk (And.intro ho5 (And.intro hlc5 hcm5)); replace HB := Hk.mk (HB.out.grown hg5 (kw_le HB.out L0V) (fun g hg => (HO4.out.lt g hg).1)); clear ho5 hg5 hlc5 hcm5)
            refine hK.out _ _ ?_ (fun hHeld2 => ?_)
            · exact kw_s HB.out
            clear hK K hHeld
            have hHeld := hHeld2
            clear hHeld2
            (try simp only [Act.put, List.getElem_toArray, List.getElem_cons_succ, List.getElem_cons_zero, List.setIfInBounds_toArray, List.set_cons_zero, List.set_cons_succ])
            clear HO4
            refine reg_cast (l' := #[true, true, true, true, true, true, true, true, false, false, false, false, false, false, false, false]) (by kernel_rfl) ?_
            revert hHeld
            revert HO5
            revert HB
            revert c5
            revert a5
            revert c4
            revert a4
            revert z
            exact HG2.out
          intro W8 a4 c4 a5 c5 HB HO5 hHeld
          refine wpAnyH_ready (rs := [8]) (by kernel_rfl) (by simp) ?_
          refine AllReadyH.cons rfl (fun K hK => ?_) (AllReadyH.nil)
          · skip
            go_simp
            (first
          | (go_at_call 17; (with_reducible refine (copy_any a0 L c0 (Wr.numL (Wr.zig s)) _ (HY.out _ HB.out) (by omega)).mono ?_); rintro e z ⟨v4, rfl, ho4, hb⟩; obtain ⟨a4, c4, rfl, hlc4, hby4, hat4⟩ := ho4.by_; have HO4 := Hk.mk (ho4.weak (kw_le HB.out L0V)); clear ho4 hby4 hat4 hlc4)
          | (go_at_call 19; (with_reducible refine (qb (getint_back s a5 (L + nb) c5 L xs _ h62 (own_by HO5.out.1) (by omega) HL)).mono ?_); rintro e z ⟨rfl, hb⟩))
            replace HO5 := Hk.mk (And.intro (HO5.out.1.below hb) HO5.out.2)
            replace HB := Hk.mk (kw_step HB.out L0V hb)
            clear hb
            refine hK.out _ _ ?_ (fun hHeld2 => ?_)
            · exact kw_s HB.out
            clear hK K hHeld
            have hHeld := hHeld2
            clear hHeld2
            (try simp only [Act.put, List.getElem_toArray, List.getElem_cons_succ, List.getElem_cons_zero, List.setIfInBounds_toArray, List.set_cons_zero, List.set_cons_succ])
            refine wpAnyH_take (i := 9) (v := ?_) rfl (by kernel_rfl) (by kernel_rfl) (by kernel_rfl) (fun _ _ _ h => h) (Or.inl ⟨by rfl, fun wX hSw => ?_⟩) (by assumption) ?_
            rotate_left
            · (try dsimp only at hSw); go_simp; try with_reducible rfl
            (try simp only [Act.put, List.getElem_toArray, List.getElem_cons_succ, List.getElem_cons_zero, List.setIfInBounds_toArray, List.set_cons_zero, List.set_cons_succ])
            refine wpAnyH_take (i := 10) (v := ?_) rfl (by kernel_rfl) (by kernel_rfl) (by kernel_rfl) (fun _ _ _ h => h) (Or.inl ⟨by rfl, fun wX hSw => ?_⟩) (by assumption) ?_
            rotate_left
            · (try dsimp only at hSw); go_simp; try with_reducible rfl
            (try simp only [Act.put, List.getElem_toArray, List.getElem_cons_succ, List.getElem_cons_zero, List.setIfInBounds_toArray, List.set_cons_zero, List.set_cons_succ])
            refine wpAnyH_take (i := 11) (v := ?_) rfl (by kernel_rfl) (by kernel_rfl) (by kernel_rfl) (fun _ _ _ h => h) (Or.inl ⟨by rfl, fun wX hSw => ?_⟩) (by assumption) ?_
            rotate_left
            · (try dsimp only at hSw); go_simp; try with_reducible rfl
            (try simp only [Act.put, List.getElem_toArray, List.getElem_cons_succ, List.getElem_cons_zero, List.setIfInBounds_toArray, List.set_cons_zero, List.set_cons_succ])
            refine wpAnyH_take (i := 12) (v := ?_) rfl (by kernel_rfl) (by kernel_rfl) (by kernel_rfl) (fun _ _ _ h => h) (Or.inl ⟨by rfl, fun wX hSw => ?_⟩) (by assumption) ?_
            rotate_left
            · (try dsimp only at hSw); go_simp; try with_reducible rfl
            (try simp only [Act.put, List.getElem_toArray, List.getElem_cons_succ, List.getElem_cons_zero, List.setIfInBounds_toArray, List.set_cons_zero, List.set_cons_succ])
            refine wpAnyH_take (i := 13) (v := ?_) rfl (by kernel_rfl) (by kernel_rfl) (by kernel_rfl) (fun _ _ _ h => h) (Or.inl ⟨by rfl, fun wX hSw => ?_⟩) (by assumption) ?_
            rotate_left
            · (try dsimp only at hSw); go_simp; try with_reducible rfl
            (try simp only [Act.put, List.getElem_toArray, List.getElem_cons_succ, List.getElem_cons_zero, List.setIfInBounds_toArray, List.set_cons_zero, List.set_cons_succ])
            refine wpAnyH_take (i := 14) (v := ?_) rfl (by kernel_rfl) (by kernel_rfl) (by kernel_rfl) (fun _ _ _ h => h) (Or.inl ⟨by rfl, fun wX hSw => ?_⟩) (by assumption) ?_
            rotate_left
            · (try dsimp only at hSw); go_simp; try with_reducible rfl
            (try simp only [Act.put, List.getElem_toArray, List.getElem_cons_succ, List.getElem_cons_zero, List.setIfInBounds_toArray, List.set_cons_zero, List.set_cons_succ])
            refine wpAnyH_take (i := 15) (v := ?_) rfl (by kernel_rfl) (by kernel_rfl) (by kernel_rfl) (fun _ _ _ h => h) (Or.inl ⟨by rfl, fun wX hSw => ?_⟩) (by assumption) ?_
            rotate_left
            · (try dsimp only at hSw); go_simp; try with_reducible rfl
            (try simp only [Act.put, List.getElem_toArray, List.getElem_cons_succ, List.getElem_cons_zero, List.setIfInBounds_toArray, List.set_cons_zero, List.set_cons_succ])
            refine reg_cast (l' := #[true, true, true, true, true, true, true, true, true, true, true, true, true, true, true, true]) (by kernel_rfl) ?_
            revert hHeld
            revert HO5
            revert HB
            revert c5
            revert a5
            revert c4
            revert a4
            revert z
            exact HG3.out
          intro W8 a4 c4 a5 c5 HB HO5 hHeld
          refine wpAnyH_done (by kernel_rfl) ?_ _
          obtain ⟨hc, hf, hl', hn', hm'⟩ := kw_rules HB.out (Nat.le_refl _)
          have hL1 := HL1.out
          have HY1 := Hk.mk ((HY.out _ HB.out).head (k := L1) (by omega))
          clear HL1
          subst hL1
          have i1 : (0 : Int) ≤ (L1 : Int) := by omega
          have i2 : (L1 : Int) ≤ (c0 : Int) := by omega
          go_wp2_with (first | (go_at_call 19; (with_reducible refine (getint_cut a0 L1 c0 _ _ HY1.out (by omega) HC).mono ?_); rintro e w' ⟨rfl, rfl⟩) | (go_at_call 15; (with_reducible refine (lawnum_any _ _).mono ?_); rintro e w' ⟨rfl, rfl⟩))
          go_meet
          case rel => exact ⟨kw_step HVA.out L0 HB.out⟩
        case rest =>
          have HB := hcut
          clear hcut d0 d1 d2 HR
          obtain ⟨d0, d1, d2⟩ := HCE.out _ HB.out
          obtain ⟨M, hM⟩ : ∃ M, (Wr.numL nb).length + nb = M := ⟨_, rfl⟩
          have hM2 : M ≤ 5009 := by have := Wr.numL_nine (n := nb) (by omega); omega
          have hM1 : 1 ≤ M := by have := Wr.numL_pos nb; omega
          have HML := Hk.mk hM
          clear hM
          go_upto_region 24 with (go_at_call 20; (with_reducible refine (raw_any2 ab nb cb xs _ ((HBB.out _ HB.out).mono HB.out.size) hcn (by omega)).mono ?_); rintro e z ⟨v, rfl, ho, hb⟩; obtain ⟨a0, c0, rfl, hLc, -, -⟩ := ho.by_; have hc9 := ho.cap; have HO := Hk.mk ho; clear ho; rw [HML.out] at HO hLc ⊢; replace HB := Hk.mk (kw_step HB.out L0 hb); clear hb d0 d1 d2; obtain ⟨d0, d1, d2⟩ := HCE.out _ HB.out)
          generalize z = VA at *
          have HVA := HB
          have HY : Hk (∀ X, Below VA.heap.size VA X → By X X.heap.size a0 M (Wr.numL nb ++ xs)) := ⟨fun X hX => ((own_by HO.out).below hX (Nat.le_refl _)).mono hX.size⟩
          have bX : b < VA.heap.size := Nat.lt_of_lt_of_le hbl HB.out.size
          clear HO
          have L0V : VA.heap.size ≤ VA.heap.size := Nat.le_refl _
          apply reg_merge
          intro HG3
          apply reg_merge
          intro HG2
          apply reg_merge
          intro HG1
          refine wp_region_held_drew (S := fun Z => (∀ b o, b < VA.heap.size → Z.cell? ⟨b, o, none⟩ = VA.cell? ⟨b, o, none⟩)) (by kernel_rfl) (fun _ _ _ => rfl) (fun hHeld => ?_)
          have HB : Hk (Below VA.heap.size VA VA.drew) := ⟨(Below.refl _ _).drew⟩
          obtain ⟨W8, hWe⟩ : ∃ W8, VA.drew = W8 := ⟨_, rfl⟩
          rw [hWe] at HB hHeld ⊢
          clear hWe
          refine wpAnyH_take (i := 0) (v := ?_) rfl (by kernel_rfl) (by kernel_rfl) (by kernel_rfl) (fun _ _ _ h => h) (Or.inl ⟨by rfl, fun wX hSw => ?_⟩) (by assumption) ?_
          rotate_left
          · (try dsimp only at hSw); go_simp; try with_reducible rfl
          (try simp only [Act.put, List.getElem_toArray, List.getElem_cons_succ, List.getElem_cons_zero, List.setIfInBounds_toArray, List.set_cons_zero, List.set_cons_succ])
          refine wpAnyH_take (i := 2) (v := ?_) rfl (by kernel_rfl) (by kernel_rfl) (by kernel_rfl) (fun _ _ _ h => h) (Or.inl ⟨by rfl, fun wX hSw => ?_⟩) (by assumption) ?_
          rotate_left
          · (try dsimp only at hSw); go_simp; try with_reducible rfl
          (try simp only [Act.put, List.getElem_toArray, List.getElem_cons_succ, List.getElem_cons_zero, List.setIfInBounds_toArray, List.set_cons_zero, List.set_cons_succ])
          refine wpAnyH_take (i := 3) (v := ?_) rfl (by kernel_rfl) (by kernel_rfl) (by kernel_rfl) (fun _ _ _ h => h) (Or.inl ⟨by rfl, fun wX hSw => ?_⟩) (by assumption) ?_
          rotate_left
          · (try dsimp only at hSw); go_simp; try with_reducible rfl
          (try simp only [Act.put, List.getElem_toArray, List.getElem_cons_succ, List.getElem_cons_zero, List.setIfInBounds_toArray, List.set_cons_zero, List.set_cons_succ])
          refine wpAnyH_take (i := 4) (v := ?_) rfl (by kernel_rfl) (by kernel_rfl) (by kernel_rfl) (fun _ _ _ h => h) (Or.inl ⟨by rfl, fun wX hSw => ?_⟩) (by assumption) ?_
          rotate_left
          · (try dsimp only at hSw); go_simp; try with_reducible rfl
          (try simp only [Act.put, List.getElem_toArray, List.getElem_cons_succ, List.getElem_cons_zero, List.setIfInBounds_toArray, List.set_cons_zero, List.set_cons_succ])
          refine wpAnyH_take (i := 5) (v := ?_) rfl (by kernel_rfl) (by kernel_rfl) (by kernel_rfl) (fun _ _ _ h => h) (Or.inl ⟨by rfl, fun wX hSw => ?_⟩) (by assumption) ?_
          rotate_left
          · (try dsimp only at hSw); go_simp; try with_reducible rfl
          (try simp only [Act.put, List.getElem_toArray, List.getElem_cons_succ, List.getElem_cons_zero, List.setIfInBounds_toArray, List.set_cons_zero, List.set_cons_succ])
          refine wpAnyH_take (i := 6) (v := ?_) rfl (by kernel_rfl) (by kernel_rfl) (by kernel_rfl) (fun _ _ _ h => h) (Or.inl ⟨by rfl, fun wX hSw => ?_⟩) (by assumption) ?_
          rotate_left
          · (try dsimp only at hSw); go_simp; try with_reducible rfl
          (try simp only [Act.put, List.getElem_toArray, List.getElem_cons_succ, List.getElem_cons_zero, List.setIfInBounds_toArray, List.set_cons_zero, List.set_cons_succ])
          refine wpAnyH_ready (rs := [1]) (by kernel_rfl) (by simp) ?_
          refine AllReadyH.cons rfl (fun K hK => ?_) (AllReadyH.nil)
          · skip
            go_simp
            (first
          | (go_at_call 17; (with_reducible refine (copy_any a0 M c0 (Wr.numL nb ++ xs) _ (HY.out _ HB.out) (by omega)).mono ?_); rintro e z ⟨v4, rfl, ho4, hb⟩; obtain ⟨a4, c4, rfl, hlc4, hby4, hat4⟩ := ho4.by_; have HO4 := Hk.mk (ho4.weak (kw_le HB.out L0V)); clear ho4 hby4 hat4 hlc4)
          | (go_at_call 21; (with_reducible refine (getraw_back a5 (M + nx) c5 nb M xs ys _ (own_by HO5.out.1) HO5.out.2.1 HO5.out.2.2 (by omega) HXL (by omega) HML).mono ?_); rintro e z ⟨v6, rfl, ho6, hb⟩; obtain ⟨a6, c6, rfl, hlc6, hby6, hat6⟩ := ho6.by_; have HO6 := Hk.mk (ho6.weak (kw_le HB.out L0V)); clear ho6 hby6 hat6 hlc6))
            replace HB := Hk.mk (kw_step HB.out L0V hb)
            clear hb
            refine hK.out _ _ ?_ (fun hHeld2 => ?_)
            · exact kw_s HB.out
            clear hK K hHeld
            have hHeld := hHeld2
            clear hHeld2
            (try simp only [Act.put, List.getElem_toArray, List.getElem_cons_succ, List.getElem_cons_zero, List.setIfInBounds_toArray, List.set_cons_zero, List.set_cons_succ])
            refine reg_cast (l' := #[true, true, true, true, true, true, true, false, false, false, false, false, false, false, false, false]) (by kernel_rfl) ?_
            revert hHeld
            revert HO4
            revert HB
            revert c4
            revert a4
            revert z
            exact HG1.out
          intro W8 a4 c4 HB HO4 hHeld
          refine wpAnyH_ready (rs := [7]) (by kernel_rfl) (by simp) ?_
          refine AllReadyH.cons rfl (fun K hK => ?_) (AllReadyH.nil)
          · skip
            (refine step_append_by _ (by rfl) (.tmp 170) (.tmp 175) (by rfl) VA.heap.size (.slice a4 M c4) M (Wr.numL nb ++ xs) (by rfl) HO4.out w.heap.size ax nx cx ys (by rfl) (HBX.out _ (HVA.out.trans (HB.out.mono HVA.out.size))) hxn (by omega) (kw_le HB.out L0V) ?_; intro v5 z ho5 hg5; obtain ⟨a5, c5, rfl, hlc5, -, -⟩ := ho5.by_; have hcm5 := ho5.cap; have HO5 := Hk.mk (And.intro ho5 (And.intro hlc5 hcm5)); replace HB := Hk.mk (HB.out.grown hg5 (kw_le HB.out L0V) (fun g hg => (HO4.out.lt g hg).1)); clear ho5 hg5 hlc5 hcm5)
            refine hK.out _ _ ?_ (fun hHeld2 => ?_)
            · exact kw_s HB.out
            clear hK K hHeld
            have hHeld := hHeld2
            clear hHeld2
            (try simp only [Act.put, List.getElem_toArray, List.getElem_cons_succ, List.getElem_cons_zero, List.setIfInBounds_toArray, List.set_cons_zero, List.set_cons_succ])
            clear HO4
            refine reg_cast (l' := #[true, true, true, true, true, true, true, true, false, false, false, false, false, false, false, false]) (by kernel_rfl) ?_
            revert hHeld
            revert HO5
            revert HB
            revert c5
            revert a5
            revert c4
            revert a4
            revert z
            exact HG2.out
          intro W8 a4 c4 a5 c5 HB HO5 hHeld
          refine wpAnyH_ready (rs := [8]) (by kernel_rfl) (by simp) ?_
          refine AllReadyH.cons rfl (fun K hK => ?_) (AllReadyH.nil)
          · skip
            go_simp
            (first
          | (go_at_call 17; (with_reducible refine (copy_any a0 M c0 (Wr.numL nb ++ xs) _ (HY.out _ HB.out) (by omega)).mono ?_); rintro e z ⟨v4, rfl, ho4, hb⟩; obtain ⟨a4, c4, rfl, hlc4, hby4, hat4⟩ := ho4.by_; have HO4 := Hk.mk (ho4.weak (kw_le HB.out L0V)); clear ho4 hby4 hat4 hlc4)
          | (go_at_call 21; (with_reducible refine (getraw_back a5 (M + nx) c5 nb M xs ys _ (own_by HO5.out.1) HO5.out.2.1 HO5.out.2.2 (by omega) HXL (by omega) HML).mono ?_); rintro e z ⟨v6, rfl, ho6, hb⟩; obtain ⟨a6, c6, rfl, hlc6, hby6, hat6⟩ := ho6.by_; have HO6 := Hk.mk (ho6.weak (kw_le HB.out L0V)); clear ho6 hby6 hat6 hlc6))
            replace HO5 := Hk.mk (And.intro (HO5.out.1.below hb) HO5.out.2)
            replace HB := Hk.mk (kw_step HB.out L0V hb)
            clear hb
            refine hK.out _ _ ?_ (fun hHeld2 => ?_)
            · exact kw_s HB.out
            clear hK K hHeld
            have hHeld := hHeld2
            clear hHeld2
            (try simp only [Act.put, List.getElem_toArray, List.getElem_cons_succ, List.getElem_cons_zero, List.setIfInBounds_toArray, List.set_cons_zero, List.set_cons_succ])
            refine wpAnyH_take (i := 9) (v := ?_) rfl (by kernel_rfl) (by kernel_rfl) (by kernel_rfl) (fun _ _ _ h => h) (Or.inl ⟨by rfl, fun wX hSw => ?_⟩) (by assumption) ?_
            rotate_left
            · (try dsimp only at hSw); go_simp; try with_reducible rfl
            (try simp only [Act.put, List.getElem_toArray, List.getElem_cons_succ, List.getElem_cons_zero, List.setIfInBounds_toArray, List.set_cons_zero, List.set_cons_succ])
            refine wpAnyH_take (i := 10) (v := ?_) rfl (by kernel_rfl) (by kernel_rfl) (by kernel_rfl) (fun _ _ _ h => h) (Or.inl ⟨by rfl, fun wX hSw => ?_⟩) (by assumption) ?_
            rotate_left
            · (try dsimp only at hSw); go_simp; try with_reducible rfl
            (try simp only [Act.put, List.getElem_toArray, List.getElem_cons_succ, List.getElem_cons_zero, List.setIfInBounds_toArray, List.set_cons_zero, List.set_cons_succ])
            refine wpAnyH_take (i := 11) (v := ?_) rfl (by kernel_rfl) (by kernel_rfl) (by kernel_rfl) (fun _ _ _ h => h) (Or.inl ⟨by rfl, fun wX hSw => ?_⟩) (by assumption) ?_
            rotate_left
            · (try dsimp only at hSw); go_simp; try with_reducible rfl
            (try simp only [Act.put, List.getElem_toArray, List.getElem_cons_succ, List.getElem_cons_zero, List.setIfInBounds_toArray, List.set_cons_zero, List.set_cons_succ])
            refine wpAnyH_take (i := 12) (v := ?_) rfl (by kernel_rfl) (by kernel_rfl) (by kernel_rfl) (fun _ _ _ h => h) (Or.inl ⟨by rfl, fun wX hSw => ?_⟩) (by assumption) ?_
            rotate_left
            · (try dsimp only at hSw); go_simp; try with_reducible rfl
            (try simp only [Act.put, List.getElem_toArray, List.getElem_cons_succ, List.getElem_cons_zero, List.setIfInBounds_toArray, List.set_cons_zero, List.set_cons_succ])
            refine wpAnyH_take (i := 13) (v := ?_) rfl (by kernel_rfl) (by kernel_rfl) (by kernel_rfl) (fun _ _ _ h => h) (Or.inl ⟨by rfl, fun wX hSw => ?_⟩) (by assumption) ?_
            rotate_left
            · (try dsimp only at hSw); go_simp; try with_reducible rfl
            (try simp only [Act.put, List.getElem_toArray, List.getElem_cons_succ, List.getElem_cons_zero, List.setIfInBounds_toArray, List.set_cons_zero, List.set_cons_succ])
            refine wpAnyH_take (i := 14) (v := ?_) rfl (by kernel_rfl) (by kernel_rfl) (by kernel_rfl) (fun _ _ _ h => h) (Or.inl ⟨by rfl, fun wX hSw => ?_⟩) (by assumption) ?_
            rotate_left
            · (try dsimp only at hSw); go_simp; try with_reducible rfl
            (try simp only [Act.put, List.getElem_toArray, List.getElem_cons_succ, List.getElem_cons_zero, List.setIfInBounds_toArray, List.set_cons_zero, List.set_cons_succ])
            refine wpAnyH_take (i := 15) (v := ?_) rfl (by kernel_rfl) (by kernel_rfl) (by kernel_rfl) (fun _ _ _ h => h) (Or.inl ⟨by rfl, fun wX hSw => ?_⟩) (by assumption) ?_
            rotate_left
            · (try dsimp only at hSw); go_simp; try with_reducible rfl
            (try simp only [Act.put, List.getElem_toArray, List.getElem_cons_succ, List.getElem_cons_zero, List.setIfInBounds_toArray, List.set_cons_zero, List.set_cons_succ])
            refine reg_cast (l' := #[true, true, true, true, true, true, true, true, true, true, true, true, true, true, true, true]) (by kernel_rfl) ?_
            revert hHeld
            revert HO6
            revert HO5
            revert HB
            revert c6
            revert a6
            revert c5
            revert a5
            revert c4
            revert a4
            revert z
            exact HG3.out
          intro W8 a4 c4 a5 c5 a6 c6 HB HO5 HO6 hHeld
          refine wpAnyH_done (by kernel_rfl) ?_ _
          obtain ⟨hc, hf, hl', hn', hm'⟩ := kw_rules HB.out (Nat.le_refl _)
          have HBW := Hk.mk ((HBB.out _ (HVA.out.trans (HB.out.mono HVA.out.size))).mono (Nat.le_trans HVA.out.size HB.out.size))
          have d1' := (hc _ (off + k * 3 + 1) bX).trans d1
          go_wp2_with (first | (go_at_call 22; (with_reducible refine (eqb_yes a6 ab nb c6 cb xs _ (own_by HO6.out) HBW.out (by omega)).mono ?_); rintro e w' ⟨rfl, mm, rfl⟩) | (go_at_call 15; (with_reducible refine (lawnum_any _ _).mono ?_); rintro e w' ⟨rfl, rfl⟩))
          have HBd := Hk.mk (below_drewN HB.out mm)
          clear HB hc hf hl' hn' hm' hHeld HO5 HO6 HBW d1'
          go_loop [22] (fun i => ∃ j : Nat, i = .int .i64 j ∧ j ≤ 6000) (fun i => M - (intOf i).toNat)
          case atStart => exact ⟨0, rfl, by omega⟩
          case round =>
            obtain ⟨j, rfl, hj⟩ := hrel
            by_cases hjl : j < M
            · have i1 : (0 : Int) ≤ (j : Int) := by omega
              have i2 : (j : Int) ≤ (c0 : Int) := by omega
              have HRC : Hk (rawErr ((Wr.numL nb ++ xs).take j) = 11) := ⟨raw_cut nb j xs HXL.out v1 (by rw [HML.out]; exact hjl)⟩
              go_wp2_with (first | (go_at_call 21; (with_reducible refine (getraw_bad a0 j c0 ((Wr.numL nb ++ xs).take j) 11 _ ((HY.out _ HBd.out).head (by omega)) (by omega) HRC (by decide)).mono ?_); rintro e w' ⟨rfl, rfl⟩) | (go_at_call 15; (with_reducible refine (lawnum_any _ _).mono ?_); rintro e w' ⟨rfl, rfl⟩))
              go_round
              case rel => exact ⟨j + 1 + M / 15, by congr 1 <;> omega, by omega⟩
              case measure => simp [intOf]; omega
            · go_wp2_with fail
              exact ⟨⟨k + 1, by go_num, by omega, by omega, ⟨kw_step HVA.out L0 HBd.out⟩⟩, by simp [intOf]; omega⟩
    · go_wp2_with (go_at_call 23; (with_reducible refine (wakes4_any _).mono ?_); rintro e w' ⟨rfl, hb⟩)
      all_goals
        go_ret
        exact ⟨rfl, kw_step HB.out L0 hb⟩

theorem wireBack_own : ownKnob Try.prog.godebug = none := by kernel_rfl
theorem wireBack_laidOut : laidOutB Try.prog = true := by kernel_rfl
set_option maxRecDepth 100000 in
theorem wireBack_lifted (os : Os) (started : os.Started) (H : Type) (enc : TypeId × Value → H) :
    ReturnsInHanded {} Try.checked os 5 .any (Rows.wireBackSpec.pre6 enc Try.prog Try.f5 Rows.wireBackRow.domain false) (Rows.wireBackSpec.post enc Try.prog Try.f5 false true false false) := by
  refine returnsInHanded_of_change (C := Try.checked) wireBack_own started (by kernel_rfl) Try.func5
    (ChangeSpec.witness6 (enc := enc) (C := Try.checked) false ⟨#[], #[.slice none 0 0], []⟩ 8 (by kernel_rfl) (by kernel_rfl) (by kernel_rfl) (by kernel_rfl)) ?_
  intro W base args ds gs before hval0 hW hcnd _
  have hval : ∀ (j : Nat) t v, Try.f5.params[j]? = some t → args[j]? = some v → Value.okWide Try.prog W .any base t v := hval0
  have hW' := hW
  obtain ⟨p, q, hA0, hV, rfl, hfz, hnd⟩ := hW
  have hA : DataW.TrodAll enc Try.prog W 0 (fun _ => true) true Try.f5.params.toList args.toList ds p := hA0
  rw [Try.params5] at hA hval
  obtain ⟨v0, vs0, d0, ds0, p0, q0, hargs, rfl, rfl, h0, r0⟩ := trodAll_cons hA
  obtain ⟨rfl, rfl, rfl⟩ := trodAll_nil r0
  obtain rfl : args = #[v0] := by cases args; simp_all
  obtain ⟨rfl, rfl⟩ := trodVars_none hV
  obtain ⟨a0, len0, cap0, rfl⟩ := okWide_slice Try.underlying35 (hval 0 35 v0 rfl rfl)
  have k0 := h0
  have lt0 : ∀ x ∈ p0, x.block < W.heap.size := by obtain ⟨m, hm⟩ := k0; exact DataW.trod_lt m _ _ _ hm
  have rows : Asks4 W a0 len0 cap0 := by obtain ⟨fuel, hf⟩ := h0; exact asks4_of hf
  clear hA0 hval0
  refine (wireBack_walk a0 len0 cap0 W rows).mono fun e W' ⟨he, bel⟩ => ?_
  subst he
  exact ⟨_, rfl, _, _, _, [], _, [], hW', trodAll_mk1 (shut_bool Try.underlying4 _), (trodAll_cons_mk (Below.trod wireBack_laidOut (by kernel_rfl) (of_decide_eq_true (by kernel_rfl)) k0 bel lt0) trodAll_mk0), rfl, bel.frame _, fun h => by cases h⟩
theorem wireBack_over : Rows.wireBackRow.holds Try.pinned (OpenSpec.ofChange Rows.wireBackSpec) :=
  OpenClaim.holds_of_wide 5 Try.f5 rfl rfl rfl rfl rfl rfl rfl ⟨rfl, rfl, rfl, rfl, rfl⟩ rfl rfl rfl rfl rfl (by kernel_rfl) Try.func5 (by kernel_rfl)
    (of_decide_eq_true (by kernel_rfl)) (by unfold Func.isWrapper; first | (rw [if_pos (by decide +kernel)]; kernel_rfl) | (rw [if_neg (by decide +kernel)]; exact ⟨rfl, rfl⟩))
    (fun os started H enc _ => wireBack_lifted os started H enc)
/-- The given statement of WireBack. -/
theorem wireBack_holds : Rows.WireBackSaid := wireBack_over
end Go.Proofs.Ytgmhalcofcokbaa

